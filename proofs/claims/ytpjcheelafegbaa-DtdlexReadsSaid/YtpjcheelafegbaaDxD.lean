/-
  Contracts of layer 9: words, within over words, Words.
-/
import Derived.Test.YtpjcheelafegbaaDxC
namespace Go.Proofs.Ytpjcheelafegbaa
open Go.RowKit
set_option linter.unusedVariables false

/-- A row that may be nil. -/
structure NRow (w : World) (a : Option Addr) (n cap : Nat) (l : List Int) : Prop where
  len : l.length = n
  le : n ≤ cap
  max : cap ≤ maxLen
  cells : AtCells w a (l.map (.int .i32))
theorem NRow.below {w w' : World} {a : Option Addr} {n cap : Nat} {l : List Int} (h : NRow w a n cap l) (hb : Below w.heap.size w w') : NRow w' a n cap l := ⟨h.len, h.le, h.max, h.cells.below hb⟩
theorem AtCells.same {w w' : World} {a : Option Addr} {xs : List Value} (h : AtCells w a xs) (hb : ∀ b, b < w.heap.size → w'.heap[b]? = w.heap[b]?) : AtCells w' a xs := fun j u hj => by
  obtain ⟨b, off, ha, hc⟩ := h j u hj
  exact ⟨b, off, ha, (World.cell?_of_block (hb b (cell_lt hc))).trans hc⟩
theorem NRow.same {w w' : World} {a : Option Addr} {n cap : Nat} {l : List Int} (h : NRow w a n cap l) (hb : ∀ b, b < w.heap.size → w'.heap[b]? = w.heap[b]?) : NRow w' a n cap l := ⟨h.len, h.le, h.max, h.cells.same hb⟩
theorem NRow.some {w : World} {a : Option Addr} {n cap : Nat} {l : List Int} (h : NRow w a n cap l) (h0 : 0 < n) : ∃ b off, a = some ⟨b, off, none⟩ ∧ RRow w b off n cap l := by
  obtain ⟨b, off, ha, _⟩ := h.cells.int (k := 0) (by rw [h.len]; exact h0)
  exact ⟨b, off, ha, h.len, h.le, h.max, ha ▸ h.cells⟩

set_option maxHeartbeats 1000000 in
theorem words1_any {b off n cap : Nat} {l : List Int} {w : World} (R : RRow w b off n cap l) (k : Nat) (hk : k < n) (g : Nat) (hg : w.cell? ⟨g, 0, none⟩ = some (.slice (some ⟨b, off, none⟩) n cap)) {t : Nat × Nat} (ht : wdP (l.drop k) = t) :
    Calls Try.prog 71 #[.int .i64 (k : Nat), .pointer (some ⟨g, 0, none⟩)] w fun e w' => e = .returned (parI t.1 k ((k : Int) + t.2)) ∧ Below w.heap.size w w' := by
  have hglt := cell_lt hg
  have HW := Lib.hid (fun (w' : World) (hb : Below w.heap.size w w') => word_any (R.below hb) k hk ht)
  obtain ⟨t0, t1⟩ := t
  simp only at HW ⊢
  clear R ht
  go_enter Try.func71, Try.ntmps71
  go_wp2_with (go_at_call 61; (with_reducible refine (HW.out _ (one_ok _ _)).mono ?_); rintro e w1 ⟨rfl, hb1⟩; obtain ⟨c1, c2⟩ := bcell hb1; have hz := hb1.size; have hz1 : w.heap.size < w1.heap.size := (by simp at hz; omega); have e0 : w1.cell? ⟨w.heap.size, 0, none⟩ = some (.int .i64 0) := (by rw [c1 _ _ (by simp)]; simp); have e1 : w1.cell? ⟨w.heap.size, 1, none⟩ = some (.int .i64 0) := (by rw [c1 _ _ (by simp)]; simp); have e2 : w1.cell? ⟨w.heap.size, 2, none⟩ = some (.int .i64 0) := (by rw [c1 _ _ (by simp)]; simp))
  refine bodyPost_ret (v := parI t0 k ((k : Int) + t1)) ?_ rfl ⟨rfl, ?_⟩
  · simp [results, Try.results71, go_sem, e0, e1, e2, parI]
  · exact ((((one_ok w _).trans (hb1.mono (by simp))).setCell (by simp) _).setCell (by simp) _).setCell (by simp) _

/-- What a call that answers parts of layer 9 answers. -/
def OwnD (w : World) (l : List PartA) (e : Ending) (w' : World) : Prop :=
  ∃ v, e = .returned v ∧ w'.ownsRow w.heap.size 32 3 v l.length (parsCells l) ∧ Below w.heap.size w w'

set_option maxHeartbeats 1000000 in
theorem words_any {a : Option Addr} {n cap : Nat} {l : List Int} {w : World} (R : NRow w a n cap l) (hn : n ≤ 1000) :
    Calls Try.prog 43 #[.slice a n cap] w (OwnD w (rowP wdP 0 l)) := by
  have hln := R.len
  have HALL := Lib.hid (fun (w1 : World) (hw1 : w1 = w.alloc (.cells #[.slice a n cap] 22)) => all_words (n := n) (l := l) R.len hn wdP wdP_reads w.heap.size w.heap.size w1 (by rw [hw1]; simp)
    (fun k gv w' => gv = .slice none 0 0 ∧ w'.cell? ⟨w.heap.size, 0, none⟩ = some (.slice a n cap) ∧ ∀ b, b < w.heap.size → w'.heap[b]? = w.heap[b]?) (.slice none 0 0) rfl
    (by rw [hw1]; exact ⟨rfl, by simp, fun b hlt => Below.heap_alloc _ _ _ hlt⟩)
    (fun k gv w' w'' ⟨h1, h2, h3⟩ hs hb _ => ⟨h1, by rw [World.cell?_of_block (hb _ (by rw [hw1]; simp))]; exact h2, fun b hlt => (hb b (by rw [hw1]; simp; omega)).trans (h3 b hlt)⟩)
    (fun k gv w' hk ⟨h1, h2, h3⟩ hx hle => by
      obtain ⟨b, off, rfl, RR⟩ := (R.same h3).some (by omega)
      refine (words1_any RR k hk w.heap.size h2 rfl).mono ?_
      rintro e w'' ⟨rfl, hb⟩
      subst h1
      exact ⟨_, rfl, ⟨rfl, (hb.cell (p := ⟨w.heap.size, 0, none⟩) (cell_lt h2)).trans h2, fun b hlt => (hb.block b (by rw [hw1] at hle; simp at hle; omega)).trans (h3 b hlt)⟩, Step.of_below hb hx⟩))
  clear R hln
  go_enter Try.func43, Try.ntmps43
  go_wp2_with (go_at_call 66; (with_reducible refine (HALL.out _ rfl).mono ?_); rintro e w1 ⟨v, rfl, hown, hk⟩)
  go_ret
  exact ⟨_, rfl, owns_lower hown (by simp), hk.below (one_ok _ _) (Nat.le_refl _) (by simp)⟩

/-- May there be such places? -/
def mayD (l : List Int) (f t : Int) : Prop := 0 ≤ f ∧ f ≤ t ∧ t ≤ l.length
theorem shiftP_length (d : Nat) (l : List PartA) : (shiftP d l).length = l.length := by simp [shiftP]

end Go.Proofs.Ytpjcheelafegbaa
