/-
  What later layers use of layer 7: signs, names, blanks, boxes of four.
-/
import Derived.Test.YtpjcheelafegbaaLexA
import Derived.OneCell
namespace Go.Proofs.Ytpjcheelafegbaa
open Go.RowKit
set_option linter.unusedVariables false

theorem space_bl {r : Int} {b : Bool} (h : spaceB r = b) (w : World) :
    Calls Try.prog 78 #[.int .i32 r] w fun e w' => e = .returned (.bool b) ∧ Below w.heap.size w w' := (space_at h w).mono fun e w' ⟨he, hw⟩ => ⟨he, hw ▸ Below.refl _ _⟩

/-- The function Space as a value. -/
abbrev fn_Space : Value := .func (.func 78) #[] #[]

set_option maxHeartbeats 1000000 in
theorem run_Space (b off n cap : Nat) (l : List Int) (k : Nat) (w : World) (hn : l.length = n) (hc : n ≤ cap) (hm : cap ≤ maxLen) (hk : k < n) (hat : AtCells w (some ⟨b, off, none⟩) (l.map (.int .i32))) :
    Calls Try.prog 79 #[.slice (some ⟨b, off, none⟩) n cap, .int .i64 k, fn_Space] w fun e w' => e = .returned (.int .i64 (runP spaceB (l.drop k))) ∧ Below w.heap.size w w' := by
  unfold maxLen at hm
  have HAT := Lib.hid hat
  have HN := Lib.hid hn
  clear hat hn
  have q1 : decide (n < k) = false := decide_eq_false (by omega)
  have q2 : decide ((k : Int) < 0) = false := decide_eq_false (by omega)
  have hfn := fun w => func_eql_nil w (.func 78) #[] #[]
  go_enter Try.func79, Try.ntmps79
  go_wp2
  go_loopw [7, 8, 25] (fun _i7 _i8 i wr => ∃ j : Nat, j ≤ n - k ∧ i = .int .i64 j ∧ Below w.heap.size w wr ∧ Hid (∀ x, x < j → spaceB ((l.drop k).getD x 0) = true)) (fun _ _ i _ => n - k - (intOf i).toNat)
  case atStart => exact ⟨0, by omega, rfl, Below.refl _ _, Lib.hid (fun x hx => by omega)⟩
  case round =>
    obtain ⟨j, hj, rfl, hbl, HJ⟩ := hrel
    by_cases hlt : j < n - k
    · have hc0 := (((HAT.out.drop k).below hbl))
      rw [← List.map_drop] at hc0
      obtain ⟨b', off', hy, hc1⟩ := hc0.int (k := j) (by have := HN.out; simp; omega)
      simp only [Option.some.injEq, Addr.mk.injEq] at hy
      obtain ⟨rfl, rfl, _⟩ := hy
      obtain ⟨z, hz⟩ : ∃ z, z = (l.drop k).getD j 0 := ⟨_, rfl⟩
      rw [← hz] at hc1
      have HZ := Lib.hid hz
      clear hz hc0
      cases hnz : spaceB z
      · have HC := Lib.hid (fun w => space_bl hnz w)
        have HR := Lib.hid (runP_of spaceB (l.drop k) j HJ.out (by have := HN.out; simp; omega) (by rw [← HZ.out]; exact hnz))
        clear hnz
        have HBL := Lib.hid hbl
        clear hbl
        go_wp2_with (go_at_call 78; (with_reducible refine (HC.out _).mono ?_); rintro e w1 ⟨rfl, hb1⟩)
        go_ret
        exact ⟨by rw [HR.out]; rfl, HBL.out.trans (hb1.mono HBL.out.size)⟩
      · have HC := Lib.hid (fun w => space_bl hnz w)
        have HK := Lib.hid (show ∀ x, x < j + 1 → spaceB ((l.drop k).getD x 0) = true from fun x hx => by
          by_cases h : x = j
          · subst h; rw [← HZ.out]; exact hnz
          · exact HJ.out x (by omega))
        clear hnz
        have HBL := Lib.hid hbl
        clear hbl
        go_wp2_with (go_at_call 78; (with_reducible refine (HC.out _).mono ?_); rintro e w1 ⟨rfl, hb1⟩)
        have HB2 := Lib.hid (HBL.out.trans (hb1.mono HBL.out.size))
        clear hb1
        go_roundw
        case rel => exact ⟨j + 1, by omega, by go_num, HB2.out, HK⟩
        case measure => simp [intOf]; omega
    · obtain rfl : j = n - k := by omega
      have HR := Lib.hid (runP_all spaceB (l.drop k) (fun x hx => HJ.out x (by have := HN.out; simp at hx; omega)))
      have HL := Lib.hid (show (l.drop k).length = n - k by have := HN.out; simp; omega)
      clear hj hlt
      go_wp2
      go_ret
      exact ⟨ret_num (by rw [HR.out, HL.out]; omega), hbl⟩

set_option maxHeartbeats 1000000 in
theorem run_Space0 (b off n cap : Nat) (w : World) (hc : n ≤ cap) (hm : cap ≤ maxLen) :
    Calls Try.prog 79 #[.slice (some ⟨b, off, none⟩) n cap, .int .i64 n, fn_Space] w fun e w' => e = .returned (.int .i64 0) ∧ w' = w := by
  unfold maxLen at hm
  have q1 : decide (n < n) = false := decide_eq_false (by omega)
  have q2 : decide ((n : Int) < 0) = false := decide_eq_false (by omega)
  have hfn := fun w => func_eql_nil w (.func 78) #[] #[]
  by_cases hcap : cap = n
  · subst hcap
    go_enter Try.func79, Try.ntmps79
    go_wp2
    go_loopw [7, 8, 25] (fun _i7 _i8 i wr => i = .int .i64 0 ∧ wr = w) (fun _ _ i _ => 0)
    case atStart => exact ⟨rfl, rfl⟩
    case round =>
      obtain ⟨rfl, rfl⟩ := hrel
      go_wp2
      go_ret
      exact ⟨ret_num (by omega), rfl⟩
  · go_enter Try.func79, Try.ntmps79
    go_wp2
    go_loopw [7, 8, 25] (fun _i7 _i8 i wr => i = .int .i64 0 ∧ wr = w) (fun _ _ i _ => 0)
    case atStart => exact ⟨rfl, rfl⟩
    case round =>
      obtain ⟨rfl, rfl⟩ := hrel
      go_wp2
      go_ret
      exact ⟨ret_num (by omega), rfl⟩

theorem runSpaceC {b off n cap : Nat} {l : List Int} {w : World} (R : RRow w b off n cap l) (k : Nat) (hk : k ≤ n) :
    Calls Try.prog 79 #[.slice (some ⟨b, off, none⟩) n cap, .int .i64 k, fn_Space] w fun e w' => e = .returned (.int .i64 (runP spaceB (l.drop k))) ∧ Below w.heap.size w w' := by
  by_cases h : k < n
  · exact run_Space b off n cap l k w R.len R.le R.max h R.cells
  · obtain rfl : k = n := by omega
    have h0 : l.drop k = [] := List.drop_eq_nil_of_le (by rw [R.len]; exact Nat.le_refl _)
    rw [h0]
    exact (run_Space0 b off k cap w R.le R.max).mono fun e w' ⟨he, hw⟩ => ⟨he, hw ▸ Below.refl _ _⟩

theorem drop_cons {l : List Int} {k : Nat} (h : k < l.length) : l.drop k = l.getD k 0 :: l.drop (k + 1) := by
  rw [List.drop_eq_getElem_cons h, List.getD_eq_getElem?_getD, List.getElem?_eq_getElem h]; rfl

def sCo : List Int := [60, 33, 45, 45]

def sCc : List Int := [45, 45, 62]

def sPo : List Int := [60, 63]

def sPc : List Int := [63, 62]

def sTo : List Int := [60, 33, 68, 79, 67, 84, 89, 80, 69]

def sEo : List Int := [60, 47]

def sSc : List Int := [59]

def sOb : List Int := [91]

theorem dropl (l : List Int) (k : Nat) : (l.drop k).length = l.length - k := List.length_drop

/-- How many runes a name has with which a row begins. -/
def leadP : List Int → Nat
  | [] => 0
  | r :: l => if startB r then run (r :: l) else 0

theorem leadP_le (l : List Int) : leadP l ≤ l.length := by
  cases l with
  | nil => simp [leadP]
  | cons r l =>
    rw [leadP]
    split
    · exact run_le _
    · simp

theorem lead_drop (l : List Int) (k : Nat) : leadN l k = (leadP (l.drop k) : Int) := by
  unfold leadN
  by_cases h : k < l.length
  · rw [if_neg (by omega), Int.toNat_natCast, drop_cons h, leadP, ← drop_cons h]
    split
    · rfl
    · rfl
  · rw [if_pos (.inr (by omega)), List.drop_eq_nil_of_le (by omega)]
    rfl

theorem sCoS : Sign ⟨#[60, 33, 45, 45]⟩ := Sign.of (by decide)

theorem sCcS : Sign ⟨#[45, 45, 62]⟩ := Sign.of (by decide)

theorem sPoS : Sign ⟨#[60, 63]⟩ := Sign.of (by decide)

theorem sPcS : Sign ⟨#[63, 62]⟩ := Sign.of (by decide)

theorem sToS : Sign ⟨#[60, 33, 68, 79, 67, 84, 89, 80, 69]⟩ := Sign.of (by decide)

theorem sEoS : Sign ⟨#[60, 47]⟩ := Sign.of (by decide)

theorem sScS : Sign ⟨#[59]⟩ := Sign.of (by decide)

theorem bcell {W w1 : World} (hb : Below W.heap.size W w1) : (∀ b o, b < W.heap.size → w1.cell? ⟨b, o, none⟩ = W.cell? ⟨b, o, none⟩) ∧ (∀ b o, b < W.heap.size → w1.frozen? ⟨b, o, none⟩ = W.frozen? ⟨b, o, none⟩) :=
  ⟨fun b o h => hb.cell (p := ⟨b, o, none⟩) h, fun b o h => hb.frozen (p := ⟨b, o, none⟩) h⟩

theorem Below.more {W w1 w2 : World} (h : Below W.heap.size W w1) (h' : Below w1.heap.size w1 w2) : Below W.heap.size W w2 := h.trans (h'.mono h.size)

/-- What a call answers, and that what was there stays. -/
abbrev Says (f : FuncId) (args : Array Value) (v : Value) (W w : World) : Prop := Calls Try.prog f args w fun e w' => e = .returned v ∧ Below W.heap.size W w'

theorem one_ok (w : World) (o : Obj) : Below w.heap.size w (w.alloc o) := (Below.refl _ _).alloc (Nat.le_refl _) _

theorem two_ok (w : World) (o o' : Obj) : Below w.heap.size w ((w.alloc o).alloc o') := (one_ok w o).alloc (by simp) _

theorem dd (l : List Int) (k j : Nat) : (l.drop k).drop j = l.drop (k + j) := List.drop_drop ..

/-- A box of four cells. -/
structure Box4 (w : World) (g : Nat) (a0 a1 a2 a3 : Value) : Prop where
  c0 : w.cell? ⟨g, 0, none⟩ = some a0
  c1 : w.cell? ⟨g, 1, none⟩ = some a1
  c2 : w.cell? ⟨g, 2, none⟩ = some a2
  c3 : w.cell? ⟨g, 3, none⟩ = some a3

theorem Box4.lt {w : World} {g : Nat} {a0 a1 a2 a3 : Value} (h : Box4 w g a0 a1 a2 a3) : g < w.heap.size := cell_lt h.c0

theorem Box4.below {w w' : World} {g : Nat} {a0 a1 a2 a3 : Value} (h : Box4 w g a0 a1 a2 a3) (hb : Below w.heap.size w w') : Box4 w' g a0 a1 a2 a3 := by
  have k : ∀ i u, w.cell? ⟨g, i, none⟩ = some u → w'.cell? ⟨g, i, none⟩ = some u := fun i u hc => (hb.cell (p := ⟨g, i, none⟩) h.lt).trans hc
  exact ⟨k _ _ h.c0, k _ _ h.c1, k _ _ h.c2, k _ _ h.c3⟩

theorem Box4.grown {w w' : World} {g : Nat} {a0 a1 a2 a3 : Value} (h : Box4 w g a0 a1 a2 a3) {o : Obj} {row : Option Nat} (hg : (w.alloc o).grownBy w' row) (hne : row ≠ some g) : Box4 w' g a0 a1 a2 a3 := by
  have k : ∀ i u, w.cell? ⟨g, i, none⟩ = some u → w'.cell? ⟨g, i, none⟩ = some u := fun i u hc => by
    refine hg.cell (a := ⟨g, i, none⟩) ?_ hne.symm
    rw [World.cell?_of_block (Below.heap_alloc _ o g h.lt)]
    exact hc
  exact ⟨k _ _ h.c0, k _ _ h.c1, k _ _ h.c2, k _ _ h.c3⟩

def setB (w : World) (g : Nat) (b0 b1 b2 b3 : Value) : World := (((w.setCell ⟨g, 0, none⟩ b0).setCell ⟨g, 1, none⟩ b1).setCell ⟨g, 2, none⟩ b2).setCell ⟨g, 3, none⟩ b3

theorem Box4.set {w : World} {g : Nat} {a0 a1 a2 a3 : Value} (h : Box4 w g a0 a1 a2 a3) (b0 b1 b2 b3 : Value) : Box4 (setB w g b0 b1 b2 b3) g b0 b1 b2 b3 := by
  unfold setB
  constructor <;> simp [go_sem, h.c0, h.c1, h.c2, h.c3]

theorem Box4.new (w : World) (a0 a1 a2 a3 : Value) (e : TypeId) : Box4 (w.alloc (.cells #[a0, a1, a2, a3] e)) w.heap.size a0 a1 a2 a3 := by
  constructor <;> simp

theorem setB_size (w : World) (g : Nat) (b0 b1 b2 b3 : Value) : (setB w g b0 b1 b2 b3).heap.size = w.heap.size := by simp [setB]

theorem setB_below {B : Nat} {w w' : World} (h : Below B w w') {g : Nat} (hg : B ≤ g) (b0 b1 b2 b3 : Value) : Below B w (setB w' g b0 b1 b2 b3) :=
  (((h.setCell (p := ⟨g, 0, none⟩) hg _).setCell (p := ⟨g, 1, none⟩) hg _).setCell (p := ⟨g, 2, none⟩) hg _).setCell (p := ⟨g, 3, none⟩) hg _

theorem setB_own {w : World} {base : Nat} {e : TypeId} {size : Nat} {v : Value} {n : Nat} {xs : List Value} (h : w.ownsRow base e size v n xs) {g : Nat} (hne : v.ownBlock ≠ some g) (b0 b1 b2 b3 : Value) : (setB w g b0 b1 b2 b3).ownsRow base e size v n xs :=
  ownsRow_setCell_other (a := ⟨g, 3, none⟩) (ownsRow_setCell_other (a := ⟨g, 2, none⟩) (ownsRow_setCell_other (a := ⟨g, 1, none⟩) (ownsRow_setCell_other (a := ⟨g, 0, none⟩) h hne _) hne _) hne _) hne _

theorem own_ne {w : World} {base : Nat} {e : TypeId} {size : Nat} {v : Value} {n : Nat} {xs : List Value} (h : w.ownsRow base e size v n xs) {g : Nat} (hg : w.heap.size ≤ g) : v.ownBlock ≠ some g := fun hk => by
  have := (h.lt g hk).2
  omega

section
variable {b off n cap : Nat} {l : List Int} {W : World}

theorem startsB (R : RRow W b off n cap l) {s : ByteArray} (S : Sign s) (k : Nat) (hk : k ≤ n) {v : Bool} (hv : sw (sg s) (l.drop k) = v) (w : World) (hb : Below W.heap.size W w) :
    Says 59 #[.slice (some ⟨b, off, none⟩) n cap, .int .i64 k, .string s] (.bool v) W w :=
  (startsC (R.below hb) S k hk hv).mono fun e w' ⟨he, m, hw⟩ => ⟨he, hw ▸ below_drewN hb m⟩

theorem nameStartB {r : Int} {v : Bool} (h : startB r = v) (w : World) (hb : Below W.heap.size W w) :
    Says 80 #[.int .i32 r] (.bool v) W w :=
  (start_at h w).mono fun e w' ⟨he, hw⟩ => ⟨he, Below.more hb hw⟩

theorem leadB (R : RRow W b off n cap l) (k : Nat) {q : Nat} (hq : leadP (l.drop k) = q) (w : World) (hb : Below W.heap.size W w) :
    Says 81 #[.slice (some ⟨b, off, none⟩) n cap, .int .i64 k] (.int .i64 q) W w :=
  (lead_any (some ⟨b, off, none⟩) n cap l k w R.len R.le R.max (R.below hb).cells).mono fun e w' ⟨he, hw⟩ => ⟨by rw [he, lead_drop, hq], Below.more hb hw⟩

theorem runSpaceB (R : RRow W b off n cap l) (k : Nat) (hk : k ≤ n) {q : Nat} (hq : runP spaceB (l.drop k) = q) (w : World) (hb : Below W.heap.size W w) :
    Says 79 #[.slice (some ⟨b, off, none⟩) n cap, .int .i64 k, fn_Space] (.int .i64 q) W w :=
  (runSpaceC (R.below hb) k hk).mono fun e w' ⟨he, hw⟩ => ⟨hq ▸ he, Below.more hb hw⟩

end

end Go.Proofs.Ytpjcheelafegbaa
