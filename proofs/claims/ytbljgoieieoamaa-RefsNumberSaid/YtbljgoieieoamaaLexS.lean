/-
  What later layers use of layer 7: signs, names, blanks, boxes of four.
-/
import Derived.Test.YtbljgoieieoamaaLexA
import Derived.OneCell
namespace Go.Proofs.Ytbljgoieieoamaa
open Go.RowKit
set_option linter.unusedVariables false






theorem drop_cons {l : List Int} {k : Nat} (h : k < l.length) : l.drop k = l.getD k 0 :: l.drop (k + 1) := by
  rw [List.drop_eq_getElem_cons h, List.getD_eq_getElem?_getD, List.getElem?_eq_getElem h]; rfl

def sCo : List Int := [60, 33, 45, 45]

def sCc : List Int := [45, 45, 62]

def sPo : List Int := [60, 63]

def sPc : List Int := [63, 62]

def sTo : List Int := [60, 33, 68, 79, 67, 84, 89, 80, 69]

def sEo : List Int := [60, 47]

def sSc : List Int := [59]

def sOb : List Int := [91]

theorem dropl (l : List Int) (k : Nat) : (l.drop k).length = l.length - k := List.length_drop

/-- How many runes a name has with which a row begins. -/
def leadP : List Int → Nat
  | [] => 0
  | r :: l => if startB r then run (r :: l) else 0

theorem leadP_le (l : List Int) : leadP l ≤ l.length := by
  cases l with
  | nil => simp [leadP]
  | cons r l =>
    rw [leadP]
    split
    · exact run_le _
    · simp

theorem lead_drop (l : List Int) (k : Nat) : leadN l k = (leadP (l.drop k) : Int) := by
  unfold leadN
  by_cases h : k < l.length
  · rw [if_neg (by omega), Int.toNat_natCast, drop_cons h, leadP, ← drop_cons h]
    split
    · rfl
    · rfl
  · rw [if_pos (.inr (by omega)), List.drop_eq_nil_of_le (by omega)]
    rfl

theorem sCoS : Sign ⟨#[60, 33, 45, 45]⟩ := Sign.of (by decide)

theorem sCcS : Sign ⟨#[45, 45, 62]⟩ := Sign.of (by decide)

theorem sPoS : Sign ⟨#[60, 63]⟩ := Sign.of (by decide)

theorem sPcS : Sign ⟨#[63, 62]⟩ := Sign.of (by decide)

theorem sToS : Sign ⟨#[60, 33, 68, 79, 67, 84, 89, 80, 69]⟩ := Sign.of (by decide)

theorem sEoS : Sign ⟨#[60, 47]⟩ := Sign.of (by decide)

theorem sScS : Sign ⟨#[59]⟩ := Sign.of (by decide)

theorem bcell {W w1 : World} (hb : Below W.heap.size W w1) : (∀ b o, b < W.heap.size → w1.cell? ⟨b, o, none⟩ = W.cell? ⟨b, o, none⟩) ∧ (∀ b o, b < W.heap.size → w1.frozen? ⟨b, o, none⟩ = W.frozen? ⟨b, o, none⟩) :=
  ⟨fun b o h => hb.cell (p := ⟨b, o, none⟩) h, fun b o h => hb.frozen (p := ⟨b, o, none⟩) h⟩

theorem Below.more {W w1 w2 : World} (h : Below W.heap.size W w1) (h' : Below w1.heap.size w1 w2) : Below W.heap.size W w2 := h.trans (h'.mono h.size)

/-- What a call answers, and that what was there stays. -/
abbrev Says (f : FuncId) (args : Array Value) (v : Value) (W w : World) : Prop := Calls Try.prog f args w fun e w' => e = .returned v ∧ Below W.heap.size W w'

theorem one_ok (w : World) (o : Obj) : Below w.heap.size w (w.alloc o) := (Below.refl _ _).alloc (Nat.le_refl _) _

theorem two_ok (w : World) (o o' : Obj) : Below w.heap.size w ((w.alloc o).alloc o') := (one_ok w o).alloc (by simp) _

theorem dd (l : List Int) (k j : Nat) : (l.drop k).drop j = l.drop (k + j) := List.drop_drop ..

/-- A box of four cells. -/
structure Box4 (w : World) (g : Nat) (a0 a1 a2 a3 : Value) : Prop where
  c0 : w.cell? ⟨g, 0, none⟩ = some a0
  c1 : w.cell? ⟨g, 1, none⟩ = some a1
  c2 : w.cell? ⟨g, 2, none⟩ = some a2
  c3 : w.cell? ⟨g, 3, none⟩ = some a3

theorem Box4.lt {w : World} {g : Nat} {a0 a1 a2 a3 : Value} (h : Box4 w g a0 a1 a2 a3) : g < w.heap.size := cell_lt h.c0

theorem Box4.below {w w' : World} {g : Nat} {a0 a1 a2 a3 : Value} (h : Box4 w g a0 a1 a2 a3) (hb : Below w.heap.size w w') : Box4 w' g a0 a1 a2 a3 := by
  have k : ∀ i u, w.cell? ⟨g, i, none⟩ = some u → w'.cell? ⟨g, i, none⟩ = some u := fun i u hc => (hb.cell (p := ⟨g, i, none⟩) h.lt).trans hc
  exact ⟨k _ _ h.c0, k _ _ h.c1, k _ _ h.c2, k _ _ h.c3⟩

theorem Box4.grown {w w' : World} {g : Nat} {a0 a1 a2 a3 : Value} (h : Box4 w g a0 a1 a2 a3) {o : Obj} {row : Option Nat} (hg : (w.alloc o).grownBy w' row) (hne : row ≠ some g) : Box4 w' g a0 a1 a2 a3 := by
  have k : ∀ i u, w.cell? ⟨g, i, none⟩ = some u → w'.cell? ⟨g, i, none⟩ = some u := fun i u hc => by
    refine hg.cell (a := ⟨g, i, none⟩) ?_ hne.symm
    rw [World.cell?_of_block (Below.heap_alloc _ o g h.lt)]
    exact hc
  exact ⟨k _ _ h.c0, k _ _ h.c1, k _ _ h.c2, k _ _ h.c3⟩

def setB (w : World) (g : Nat) (b0 b1 b2 b3 : Value) : World := (((w.setCell ⟨g, 0, none⟩ b0).setCell ⟨g, 1, none⟩ b1).setCell ⟨g, 2, none⟩ b2).setCell ⟨g, 3, none⟩ b3

theorem Box4.set {w : World} {g : Nat} {a0 a1 a2 a3 : Value} (h : Box4 w g a0 a1 a2 a3) (b0 b1 b2 b3 : Value) : Box4 (setB w g b0 b1 b2 b3) g b0 b1 b2 b3 := by
  unfold setB
  constructor <;> simp [go_sem, h.c0, h.c1, h.c2, h.c3]

theorem Box4.new (w : World) (a0 a1 a2 a3 : Value) (e : TypeId) : Box4 (w.alloc (.cells #[a0, a1, a2, a3] e)) w.heap.size a0 a1 a2 a3 := by
  constructor <;> simp

theorem setB_size (w : World) (g : Nat) (b0 b1 b2 b3 : Value) : (setB w g b0 b1 b2 b3).heap.size = w.heap.size := by simp [setB]

theorem setB_below {B : Nat} {w w' : World} (h : Below B w w') {g : Nat} (hg : B ≤ g) (b0 b1 b2 b3 : Value) : Below B w (setB w' g b0 b1 b2 b3) :=
  (((h.setCell (p := ⟨g, 0, none⟩) hg _).setCell (p := ⟨g, 1, none⟩) hg _).setCell (p := ⟨g, 2, none⟩) hg _).setCell (p := ⟨g, 3, none⟩) hg _

theorem setB_own {w : World} {base : Nat} {e : TypeId} {size : Nat} {v : Value} {n : Nat} {xs : List Value} (h : w.ownsRow base e size v n xs) {g : Nat} (hne : v.ownBlock ≠ some g) (b0 b1 b2 b3 : Value) : (setB w g b0 b1 b2 b3).ownsRow base e size v n xs :=
  ownsRow_setCell_other (a := ⟨g, 3, none⟩) (ownsRow_setCell_other (a := ⟨g, 2, none⟩) (ownsRow_setCell_other (a := ⟨g, 1, none⟩) (ownsRow_setCell_other (a := ⟨g, 0, none⟩) h hne _) hne _) hne _) hne _

theorem own_ne {w : World} {base : Nat} {e : TypeId} {size : Nat} {v : Value} {n : Nat} {xs : List Value} (h : w.ownsRow base e size v n xs) {g : Nat} (hg : w.heap.size ≤ g) : v.ownBlock ≠ some g := fun hk => by
  have := (h.lt g hk).2
  omega

section
variable {b off n cap : Nat} {l : List Int} {W : World}

theorem startsB (R : RRow W b off n cap l) {s : ByteArray} (S : Sign s) (k : Nat) (hk : k ≤ n) {v : Bool} (hv : sw (sg s) (l.drop k) = v) (w : World) (hb : Below W.heap.size W w) :
    Says 46 #[.slice (some ⟨b, off, none⟩) n cap, .int .i64 k, .string s] (.bool v) W w :=
  (startsC (R.below hb) S k hk hv).mono fun e w' ⟨he, m, hw⟩ => ⟨he, hw ▸ below_drewN hb m⟩

theorem nameStartB {r : Int} {v : Bool} (h : startB r = v) (w : World) (hb : Below W.heap.size W w) :
    Says 92 #[.int .i32 r] (.bool v) W w :=
  (start_at h w).mono fun e w' ⟨he, hw⟩ => ⟨he, Below.more hb hw⟩

theorem leadB (R : RRow W b off n cap l) (k : Nat) {q : Nat} (hq : leadP (l.drop k) = q) (w : World) (hb : Below W.heap.size W w) :
    Says 96 #[.slice (some ⟨b, off, none⟩) n cap, .int .i64 k] (.int .i64 q) W w :=
  (lead_any (some ⟨b, off, none⟩) n cap l k w R.len R.le R.max (R.below hb).cells).mono fun e w' ⟨he, hw⟩ => ⟨by rw [he, lead_drop, hq], Below.more hb hw⟩


end

end Go.Proofs.Ytbljgoieieoamaa
