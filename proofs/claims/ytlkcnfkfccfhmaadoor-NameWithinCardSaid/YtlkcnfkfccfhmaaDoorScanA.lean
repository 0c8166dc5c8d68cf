/-
  Contracts: Width, few, Bytes, and the reference's, of layer 1.
-/
import Derived.Test.YtlkcnfkfccfhmaaDoorRows
import Derived.Test.YtlkcnfkfccfhmaaDoorShelf
import Derived.Test.YtlkcnfkfccfhmaaDoorU8
import Derived.Test.YtlkcnfkfccfhmaaDoorRows0
import Derived.WalkKit
import Derived.WalkSpells
import Derived.WalkLawsBesides
import Derived.Lib.Hide
import Derived.Laws.AppendOwnNone
namespace Go.Proofs.YtlkcnfkfccfhmaaDoor
open Go.RowKit

theorem ret_int {k : IntKind} {a b : Int} (h : a = b) : Ending.returned (.int k a) = .returned (.int k b) := by rw [h]

theorem ret_pair {k k' : IntKind} {a b c d : Int} (h : a = b) (h' : c = d) : Ending.returned (.tuple #[.int k a, .int k' c]) = .returned (.tuple #[.int k b, .int k' d]) := by rw [h, h']


set_option maxHeartbeats 400000 in
theorem refWidth_any (r : Int) (w : World) :
    Calls Tryd.prog 53 #[.int .i32 r] w fun e w' => e = .returned (.int .i64 (U8.width r)) ∧ w = w' := by
  go_enter Tryd.func53, Tryd.ntmps53
  go_wp2
  all_goals
    go_ret
    exact ⟨ret_int (by unfold U8.width; repeat' split
                       all_goals omega), rfl⟩

theorem ret_lit {w : World} {e : TypeId} {cs : Array Value} {n : Nat} {xs : List Value} (h : cs.toList = xs) (hn : cs.size = n) (hm : n ≤ maxLen) :
    (w.alloc (.cells cs e)).ownsRow w.heap.size e 1 (.slice (some ⟨w.heap.size, 0, none⟩) n n) n xs ∧ Below w.heap.size w (w.alloc (.cells cs e)) := by
  subst h
  exact ⟨World.ownsRow_lit w cs n (Nat.le_refl _) hm (by omega), (Below.refl _ _).alloc (Nat.le_refl _) _⟩

/-- The bytes of a rune as a value that owns them. -/
def OwnBytes (w : World) (xs : List Int) (e : Ending) (w' : World) : Prop :=
  ∃ v, e = .returned v ∧ w'.ownsRow w.heap.size 5 1 v xs.length (xs.map (Value.int .u8)) ∧ Below w.heap.size w w'

set_option maxHeartbeats 400000 in
theorem refRune_none (r : Int) (w : World) (h : U8.width r = 0) :
    Calls Tryd.prog 48 #[.int .i32 r] w fun e w' => e = .returned (.slice none 0 0) ∧ w = w' := by
  have b1 : (U8.width r == 1) = false := by simp [h]
  have b2 : (U8.width r == 2) = false := by simp [h]
  have b3 : (U8.width r == 3) = false := by simp [h]
  have b4 : (U8.width r == 4) = false := by simp [h]
  clear h
  go_enter Tryd.func48, Tryd.ntmps48
  go_wp2_with (go_at_call 53; refine (refWidth_any _ _).mono ?_; rintro e w' ⟨rfl, rfl⟩)
  go_ret
  exact ⟨rfl, rfl⟩

/-- The block of a rune's bytes. -/
def runeBlock (r : Int) : Obj := .cells ((U8.enc r).map (Value.int .u8)).toArray 5

set_option maxHeartbeats 400000 in
theorem refRune_some (r : Int) (w : World) (h : 0 < U8.width r) :
    Calls Tryd.prog 48 #[.int .i32 r] w fun e w' => e = .returned (.slice (some ⟨w.heap.size, 0, none⟩) (U8.enc r).length (U8.enc r).length) ∧ w.alloc (runeBlock r) = w' := by
  rcases U8.width_cases r with h' | h' | h' | h' | h'
  · omega
  · have b1 : (U8.width r == 1) = true := by simp [h']
    have hr : 0 ≤ r ∧ r < 128 := U8.range_one h'
    obtain ⟨hr0, hr1⟩ := hr
    have H := Lib.hid h'
    clear h' h
    go_enter Tryd.func48, Tryd.ntmps48
    go_wp2_with (go_at_call 53; refine (refWidth_any _ _).mono ?_; rintro e w' ⟨rfl, rfl⟩)
    go_ret
    rw [runeBlock, U8.enc_one H.out]
    exact ⟨rfl, congrArg (fun c => w.alloc (.cells c 5)) (by simp)⟩
  · have b1 : (U8.width r == 1) = false := by simp [h']
    have b2 : (U8.width r == 2) = true := by simp [h']
    obtain ⟨hr0, hr1⟩ := U8.range_two h'
    have H := Lib.hid h'
    clear h' h
    go_enter Tryd.func48, Tryd.ntmps48
    go_wp2_with (go_at_call 53; refine (refWidth_any _ _).mono ?_; rintro e w' ⟨rfl, rfl⟩)
    go_ret
    rw [runeBlock, U8.enc_two H.out]
    exact ⟨rfl, congrArg (fun c => w.alloc (.cells c 5)) (by simp)⟩
  · have b1 : (U8.width r == 1) = false := by simp [h']
    have b2 : (U8.width r == 2) = false := by simp [h']
    have b3 : (U8.width r == 3) = true := by simp [h']
    obtain ⟨hr0, hr1⟩ := U8.range_three h'
    have H := Lib.hid h'
    clear h' h
    go_enter Tryd.func48, Tryd.ntmps48
    go_wp2_with (go_at_call 53; refine (refWidth_any _ _).mono ?_; rintro e w' ⟨rfl, rfl⟩)
    go_ret
    rw [runeBlock, U8.enc_three H.out]
    exact ⟨rfl, congrArg (fun c => w.alloc (.cells c 5)) (by simp)⟩
  · have b1 : (U8.width r == 1) = false := by simp [h']
    have b2 : (U8.width r == 2) = false := by simp [h']
    have b3 : (U8.width r == 3) = false := by simp [h']
    have b4 : (U8.width r == 4) = true := by simp [h']
    obtain ⟨hr0, hr1⟩ := U8.range_four h'
    have H := Lib.hid h'
    clear h' h
    go_enter Tryd.func48, Tryd.ntmps48
    go_wp2_with (go_at_call 53; refine (refWidth_any _ _).mono ?_; rintro e w' ⟨rfl, rfl⟩)
    go_ret
    rw [runeBlock, U8.enc_four H.out]
    exact ⟨rfl, congrArg (fun c => w.alloc (.cells c 5)) (by simp)⟩

theorem Tryd.infoU8 : (Tryd.prog.info? 5).map (fun i => (i.zero, i.size, i.bytes)) = some (some (.int .u8 0), 1, 1) := by kernel_rfl

def Runes (l : List Int) : Prop := ∀ z ∈ l, -2147483648 ≤ z ∧ z ≤ 2147483647

theorem Runes.at {l : List Int} (h : Runes l) {k : Nat} (hk : k < l.length) : -2147483648 ≤ l.getD k 0 ∧ l.getD k 0 ≤ 2147483647 := by
  have : l.getD k 0 ∈ l := by simp [hk]
  exact h _ this

theorem bytes_step_none {z : Int} (h : ¬ 0 < U8.width z) : U8.enc z = [] := U8.enc_zero (by have := U8.width_bd z; omega)
theorem runeCells_enc {z : Int} (h : 0 < U8.width z) : Lib.runeCells z = (U8.enc z).map (Value.int .u8) := by
  rw [U8.enc, if_neg (by omega)]; rfl

theorem bytes_step {w wr w' : World} {v v' : Value} {zs : List Int} {k : Nat} {z : Int} {o : Obj} (hw : 0 < U8.width z) (hz : z = zs.getD k 0) (hts : zs.take (k + 1) = zs.take k ++ [zs.getD k 0])
    (hown' : w'.ownsRow w.heap.size 5 1 v' ((U8.encs (zs.take k)).length + (Lib.runeCells z).length) ((U8.encs (zs.take k)).map (Value.int .u8) ++ Lib.runeCells z))
    (hown : wr.ownsRow w.heap.size 5 1 v (U8.encs (zs.take k)).length ((U8.encs (zs.take k)).map (Value.int .u8)))
    (hg : (wr.alloc o).grownBy w' v.ownBlock) (hbl : Below w.heap.size w wr) :
    w'.ownsRow w.heap.size 5 1 v' (U8.encs (zs.take (k + 1))).length ((U8.encs (zs.take (k + 1))).map (Value.int .u8)) ∧ Below w.heap.size w w' := by
  rw [hts, ← hz, U8.encs_snoc, List.map_append, List.length_append]
  rw [runeCells_enc hw] at hown'
  refine ⟨by simpa using hown', below_grown_alloc hbl hbl.size hg (fun g hg => (hown.lt g hg).1)⟩

theorem bytes_step_same {w wr : World} {v : Value} {zs : List Int} {k : Nat} {z : Int} (he : U8.enc z = []) (hz : z = zs.getD k 0) (hts : zs.take (k + 1) = zs.take k ++ [zs.getD k 0])
    (hown : wr.ownsRow w.heap.size 5 1 v (U8.encs (zs.take k)).length ((U8.encs (zs.take k)).map (Value.int .u8))) :
    wr.ownsRow w.heap.size 5 1 v (U8.encs (zs.take (k + 1))).length ((U8.encs (zs.take (k + 1))).map (Value.int .u8)) := by
  rw [hts, ← hz, U8.encs_snoc, he, List.append_nil]
  exact hown


end Go.Proofs.YtlkcnfkfccfhmaaDoor
