/-
  Contracts: the law's examples (awake) and its cut (short), layer 5.
-/
import Derived.Test.YtlkcnfkfccfhmaaDoorNmG
namespace Go.Proofs.YtlkcnfkfccfhmaaDoor
open Go.RowKit
set_option linter.unusedVariables false

theorem lies_new (w : World) (k : IntKind) (zs : List Int) (e : TypeId) : AtCells (w.alloc (.cells (zs.map (Value.int k)).toArray e)) (some ⟨w.heap.size, 0, none⟩) (zs.map (.int k)) := by
  intro j u hj
  refine ⟨w.heap.size, 0, rfl, ?_⟩
  have h : (w.alloc (.cells (zs.map (Value.int k)).toArray e)).heap[w.heap.size]? = some (.cells (zs.map (Value.int k)).toArray e) := by
    show (w.heap.push _)[w.heap.size]? = _
    simp
  unfold World.cell?
  simp only [h]
  simpa using hj

theorem split_two : splitF ⟨#[97, 58, 98]⟩ = (⟨#[97]⟩, ⟨#[98]⟩, true) := by decide +kernel
theorem split_three : splitF ⟨#[97, 58, 98, 58, 99]⟩ = (⟨#[]⟩, ⟨#[]⟩, false) := by decide +kernel
theorem lead_ex : leadN [60, 120, 49, 32] 1 = 2 := by decide +kernel

theorem awakeLead (w0 : World) (n : Nat) : Calls Tryd.prog 20 #[.slice (some ⟨w0.heap.size, 0, none⟩) 4 4, .int .i64 1] (w0.alloc (.cells #[.int .i32 60, .int .i32 120, .int .i32 49, .int .i32 32] 21))
    fun e w' => e = .returned (.int .i64 2) ∧ Below w0.heap.size w0 w' := by
  have h := lead_any (some ⟨w0.heap.size, 0, none⟩) 4 4 [60, 120, 49, 32] 1 (w0.alloc (.cells #[.int .i32 60, .int .i32 120, .int .i32 49, .int .i32 32] 21)) rfl (by omega) (by unfold maxLen; omega) (lies_new w0 .i32 [60, 120, 49, 32] 21)
  rw [lead_ex] at h
  refine h.mono fun e w' ⟨he, hb⟩ => ⟨he, ((Below.refl _ _).alloc (Nat.le_refl _) _).trans (hb.mono (by simp))⟩

set_option maxHeartbeats 1000000 in
theorem awakeC (w : World) (hT : Tabs w) :
    Calls Tryd.prog 16 #[] w fun e w' => e = .returned (.bool true) ∧ Below w.heap.size w w' := by
  have H1 := splitC ⟨#[97, 58, 98]⟩ w hT (by decide)
  rw [split_two] at H1
  have H1 := Lib.hid H1
  have H2 : ∀ W, Below w.heap.size w W → _ := fun W hW => splitC ⟨#[97, 58, 98, 58, 99]⟩ W (tabs_below hT hW) (by decide)
  rw [split_three] at H2
  have H2 := Lib.hid H2
  clear hT
  have tok : True := trivial
  go_enter Tryd.func16, Tryd.ntmps16
  go_wp2_with (first
    | (go_at_call 17; (have _t := tok); (refine H1.out.mono ?_); rintro e w1 ⟨rfl, hb1⟩; have HB1 := Lib.hid hb1; clear hb1 tok _t)
    | (go_at_call 17; (refine (H2.out _ HB1.out).mono ?_); rintro e w2 ⟨rfl, hb2⟩; have HB2 := Lib.hid (HB1.out.trans (hb2.mono HB1.out.size)); clear hb2)
    | (go_at_call 20; (refine (awakeLead _ 0).mono ?_); rintro e w3 ⟨rfl, hb3⟩))
  go_ret
  exact ⟨rfl, HB2.out.trans (hb3.mono HB2.out.size)⟩

/-- A text that is not too long. -/
def cutS (s : ByteArray) : ByteArray := if 60 < s.size then s.extract 0 60 else s
theorem cutS_size (s : ByteArray) : (cutS s).size ≤ 60 := by
  unfold cutS
  split
  · rw [ByteArray.size_extract]; omega
  · omega

set_option maxHeartbeats 400000 in
theorem shortC (s : ByteArray) (w : World) (hs : s.size ≤ maxLen) :
    Calls Tryd.prog 9 #[.string s] w fun e w' => e = .returned (.string (cutS s)) ∧ w = w' := by
  unfold maxLen at hs
  by_cases h : 60 < s.size
  · have HF := Lib.hid (show cutS s = s.extract 0 60 by unfold cutS; rw [if_pos h])
    go_enter Tryd.func9, Tryd.ntmps9
    go_wp2
    go_ret
    exact ⟨by rw [HF.out]; rfl, rfl⟩
  · have HF := Lib.hid (show cutS s = s by unfold cutS; rw [if_neg h])
    go_enter Tryd.func9, Tryd.ntmps9
    go_wp2
    go_ret
    exact ⟨by rw [HF.out]; rfl, rfl⟩

end Go.Proofs.YtlkcnfkfccfhmaaDoor
