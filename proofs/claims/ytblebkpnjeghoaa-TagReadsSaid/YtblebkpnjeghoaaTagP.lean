/-
  Layer 8, plainly: the parts of a tag's runes.
-/
import Derived.Test.YtblebkpnjeghoaaLexS
namespace Go.Proofs.Ytblebkpnjeghoaa
open Go.RowKit
set_option linter.unusedVariables false

def sLt : List Int := [60]
def sEc : List Int := [47, 62]
/-- What stands at the first place alone: how many runes. -/
def opn (s : List Int) : Option Nat := if sw sEo s then some 2 else if sw sLt s then some 1 else none
/-- Is this what closes a tag, and all that is left? -/
def clsB (s : List Int) : Bool := (decide (s.length = 1) && sw gt s) || (decide (s.length = 2) && sw sEc s)
/-- A value in quotes, with both. -/
def quo (r : Int) (s : List Int) : Nat × Nat := match fnd [r] (s.drop 1) with | some k => (5, k + 2) | none => (7, 1)
/-- The part with which runes begin, behind the first place: its kind, how many runes it has. -/
def prt (s : List Int) : Nat × Nat :=
  if spaceB (s.getD 0 0) then (3, runP spaceB s)
  else if startB (s.getD 0 0) then (2, leadP s)
  else if s.getD 0 0 = 61 then (4, 1)
  else if s.getD 0 0 = 34 ∨ s.getD 0 0 = 39 then quo (s.getD 0 0) s
  else if clsB s then (6, s.length)
  else (7, 1)

theorem prt_ok (s : List Int) (h0 : 0 < s.length) : 0 < (prt s).2 ∧ (prt s).2 ≤ s.length ∧ 2 ≤ (prt s).1 ∧ (prt s).1 ≤ 7 := by
  obtain ⟨r, s', rfl⟩ : ∃ r s', s = r :: s' := by cases s with | nil => simp at h0 | cons r s' => exact ⟨r, s', rfl⟩
  unfold prt
  simp only [List.getD_cons_zero]
  split
  · rename_i h
    refine ⟨?_, runP_le spaceB (r :: s'), by simp only []; omega, by simp only []; omega⟩
    show 0 < runP spaceB (r :: s')
    unfold runP
    rw [List.takeWhile_cons, if_pos h]
    simp
  split
  · rename_i h
    refine ⟨?_, leadP_le (r :: s'), by simp only []; omega, by simp only []; omega⟩
    show 0 < leadP (r :: s')
    rw [leadP, if_pos h, run, List.takeWhile_cons, if_pos (start_is_name h)]
    simp
  split
  · exact ⟨by simp only []; omega, h0, by simp only []; omega, by simp only []; omega⟩
  split
  · unfold quo
    split
    · rename_i k hf
      have := (fnd_le _ _ _ hf).1
      simp at this ⊢
      omega
    · exact ⟨by simp only []; omega, h0, by simp only []; omega, by simp only []; omega⟩
  split
  · exact ⟨h0, Nat.le_refl _, by simp only []; omega, by simp only []; omega⟩
  · exact ⟨by simp only []; omega, h0, by simp only []; omega, by simp only []; omega⟩

theorem opn_le {s : List Int} {k : Nat} (h : opn s = some k) : 0 < k ∧ k ≤ s.length := by
  unfold opn at h
  split at h
  · rename_i hs
    obtain rfl := Option.some.inj h
    exact ⟨by omega, sw_length hs⟩
  split at h
  · rename_i hs
    obtain rfl := Option.some.inj h
    exact ⟨by omega, sw_length hs⟩
  · simp at h

/-- A part: kind, from, to. -/
abbrev PartA := Nat × Nat × Nat
def parF : Nat → Nat → List Int → List PartA
  | 0, _, _ => []
  | _ + 1, _, [] => []
  | f + 1, k, r :: s => ((prt (r :: s)).1, k, k + (prt (r :: s)).2) :: parF f (k + (prt (r :: s)).2) ((r :: s).drop (prt (r :: s)).2)
/-- The parts of runes that begin at a place. -/
def parS (k : Nat) (s : List Int) : List PartA := match opn s with
  | some j => (1, k, k + j) :: parF s.length (k + j) (s.drop j)
  | none => parF s.length k s
/-- The parts of a row's runes from one place up to another one. -/
def parts (l : List Int) (f t : Int) : List PartA := if f < 0 ∨ t < f ∨ (l.length : Int) < t then [] else parS f.toNat ((l.take t.toNat).drop f.toNat)

theorem parF_end {f k : Nat} : parF f k [] = [] := by cases f <;> rfl
theorem parF_cons {f j : Nat} {l : List Int} (h : j < l.length) (k : Nat) : parF (f + 1) k (l.drop j) = ((prt (l.drop j)).1, k, k + (prt (l.drop j)).2) :: parF f (k + (prt (l.drop j)).2) (l.drop (j + (prt (l.drop j)).2)) := by
  rw [← dd, drop_cons h, parF]
theorem parF_len : ∀ (f k : Nat) (l : List Int), (parF f k l).length ≤ f := by
  intro f
  induction f with
  | zero => intro k l; simp [parF]
  | succ f ih =>
    intro k l
    cases l with
    | nil => simp [parF]
    | cons r l => rw [parF]; have := ih (k + (prt (r :: l)).2) ((r :: l).drop (prt (r :: l)).2); simp; omega
theorem parS_len (k : Nat) (s : List Int) : (parS k s).length ≤ s.length + 1 := by
  unfold parS
  split
  · rename_i j h
    have := parF_len s.length (k + j) (s.drop j)
    simp; omega
  · have := parF_len s.length k s
    omega
theorem parts_len (l : List Int) (f t : Int) : (parts l f t).length ≤ l.length + 1 := by
  unfold parts
  split
  · simp
  · have := parS_len f.toNat ((l.take t.toNat).drop f.toNat)
    rw [List.length_drop, List.length_take] at this
    omega

/-- A part's three cells; all parts' cells. -/
def parCells (x : PartA) : List Value := [.int .i64 (x.1 : Nat), .int .i64 (x.2.1 : Nat), .int .i64 (x.2.2 : Nat)]
def parsCells (l : List PartA) : List Value := l.flatMap parCells
theorem parsCells_snoc (l : List PartA) (x : PartA) : parsCells (l ++ [x]) = parsCells l ++ parCells x := by simp [parsCells]
theorem parCells_one (x : PartA) : ∀ u ∈ parCells x, u.oneCell' = true := by
  intro u hu
  simp only [parCells, List.mem_cons, List.not_mem_nil, or_false] at hu
  rcases hu with rfl | rfl | rfl <;> rfl
theorem par_cells {w : World} {a : Option Addr} {l : List PartA} (hat : AtCells w a (parsCells l)) {k : Nat} {x : PartA} (h : l[k]? = some x) :
    ∃ b off, a = some ⟨b, off, none⟩ ∧ w.cell? ⟨b, off + k * 3, none⟩ = some (.int .i64 (x.1 : Nat)) ∧ w.cell? ⟨b, off + k * 3 + 1, none⟩ = some (.int .i64 (x.2.1 : Nat)) ∧ w.cell? ⟨b, off + k * 3 + 2, none⟩ = some (.int .i64 (x.2.2 : Nat)) := by
  have hx : ∀ (l : List PartA) (k : Nat), l[k]? = some x → (parsCells l)[k * 3]? = some (.int .i64 (x.1 : Nat)) ∧ (parsCells l)[k * 3 + 1]? = some (.int .i64 (x.2.1 : Nat)) ∧ (parsCells l)[k * 3 + 2]? = some (.int .i64 (x.2.2 : Nat)) := by
    intro l
    induction l with
    | nil => intro k h; simp at h
    | cons y l ih =>
      intro k h
      have e : parsCells (y :: l) = .int .i64 (y.1 : Nat) :: .int .i64 (y.2.1 : Nat) :: .int .i64 (y.2.2 : Nat) :: parsCells l := rfl
      rw [e]
      cases k with
      | zero => simp at h; subst h; simp
      | succ k =>
        simp at h
        obtain ⟨a, b, c⟩ := ih k h
        have e1 : (k + 1) * 3 = k * 3 + 1 + 1 + 1 := by omega
        rw [e1]
        exact ⟨by simpa using a, by simpa using b, by simpa using c⟩
  obtain ⟨h0, h1, h2⟩ := hx l k h
  obtain ⟨b, off, rfl, c0⟩ := hat _ _ h0
  obtain ⟨b1, off1, e1, c1⟩ := hat _ _ h1
  obtain ⟨b2, off2, e2, c2⟩ := hat _ _ h2
  simp only [Option.some.injEq, Addr.mk.injEq] at e1 e2
  obtain ⟨rfl, rfl, _⟩ := e1
  obtain ⟨rfl, rfl, _⟩ := e2
  exact ⟨b, off, rfl, c0, by rw [Nat.add_assoc]; exact c1, by rw [Nat.add_assoc]; exact c2⟩

end Go.Proofs.Ytblebkpnjeghoaa
