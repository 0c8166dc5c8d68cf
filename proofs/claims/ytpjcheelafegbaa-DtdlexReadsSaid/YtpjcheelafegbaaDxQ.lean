/-
  Layer 9: inBrackets, whole; a document type's parts, plainly.
-/
import Derived.Test.YtpjcheelafegbaaDxO
namespace Go.Proofs.Ytpjcheelafegbaa
open Go.RowKit
set_option linter.unusedVariables false

theorem brackets_any {a : Option Addr} {n cap : Nat} {l : List Int} {w : World} (R : NRow w a n cap l) (hn : n ≤ 1000) (k : Nat) (hk : k < n) :
    Calls Try.prog 60 #[.slice a n cap, .int .i64 (k : Nat)] w (OwnD w (brP k (l.drop k))) := by
  have hl := R.len
  have hd : (l.drop k).drop 1 = l.drop (k + 1) := dd ..
  have hdl : (l.drop k).length = n - k := by rw [dropl, hl]
  have hq := sbP_le (l.drop (k + 1))
  rw [dropl, hl] at hq
  unfold brP
  rw [hd, hdl]
  obtain ⟨q, hqe⟩ : ∃ q, sbP (l.drop (k + 1)) = q := ⟨_, rfl⟩
  rw [hqe] at hq ⊢
  by_cases h0 : 0 < q
  · rw [if_pos h0]
    by_cases h1 : 1 + q < n - k
    · rw [if_pos h1]; exact br_11 R hn k hk q hqe h0 (by omega)
    · rw [if_neg h1, List.append_nil]; exact br_10 R hn k hk q hqe h0 (by omega)
  · obtain rfl : q = 0 := by omega
    rw [if_neg h0]
    by_cases h1 : 1 + 0 < n - k
    · rw [if_pos h1]; exact br_01 R hn k hk 0 hqe rfl (by omega)
    · rw [if_neg h1, List.append_nil]; exact br_00 R hn k hk 0 hqe rfl (by omega)

/-- How many runes a subset with its brackets has. -/
def brL (s : List Int) : Nat := 1 + sbP (s.drop 1) + (if 1 + sbP (s.drop 1) < s.length then 1 else 0)
theorem brL_ok (s : List Int) (h : 0 < s.length) : 0 < brL s ∧ brL s ≤ s.length := by
  have := sbP_le (s.drop 1)
  rw [dropl] at this
  unfold brL
  split <;> omega
/-- The parts of a subset with its brackets: how many; the last one's end. -/
theorem brP_len (k : Nat) (s : List Int) : 0 < (brP k s).length ∧ (brP k s).length ≤ brL s := by
  unfold brP brL
  generalize sbP (s.drop 1) = q
  split <;> split <;> simp <;> omega
theorem brP_last (k : Nat) (s : List Int) : ∃ x, (brP k s)[(brP k s).length - 1]? = some x ∧ x.2.2 = k + brL s := by
  unfold brP brL
  generalize sbP (s.drop 1) = q
  split <;> split <;> simp <;> omega
theorem brP_chain (k : Nat) (s : List Int) : chainD k (brP k s) (k + brL s) := by
  unfold brP brL
  generalize sbP (s.drop 1) = q
  split <;> split <;> simp [chainD] <;> omega

/-- A document type's parts, behind its opening; op: has a subset been? -/
def dtF : Nat → Bool → Nat → List Int → List PartA
  | 0, _, _, _ => []
  | _ + 1, _, _, [] => []
  | f + 1, op, k, r :: s =>
    if r = 91 ∧ op = false then brP k (r :: s) ++ dtF f true (k + brL (r :: s)) ((r :: s).drop (brL (r :: s)))
    else if r = 62 ∧ s = [] then [(7, k, k + 1)]
    else ((wdP (r :: s)).1, k, k + (wdP (r :: s)).2) :: dtF f op (k + (wdP (r :: s)).2) ((r :: s).drop (wdP (r :: s)).2)
/-- The parts of a row as a document type. -/
def dtP (l : List Int) : List PartA := if sw sTo l then (1, 0, 9) :: dtF l.length false 9 (l.drop 9) else rowP wdP 0 l
theorem dtF_nil (f : Nat) (op : Bool) (k : Nat) : dtF f op k [] = [] := by cases f <;> rfl

theorem chainD_app : ∀ {P Q : List PartA} {k m e : Nat}, chainD k P m → chainD m Q e → chainD k (P ++ Q) e := by
  intro P
  induction P with
  | nil => intro Q k m e h1 h2; obtain rfl : k = m := h1; exact h2
  | cons x P ih => intro Q k m e h1 h2; exact ⟨h1.1, h1.2.1, ih h1.2.2 h2⟩
theorem dtF_chain : ∀ (f : Nat) (op : Bool) (k : Nat) (s : List Int), s.length ≤ f → chainD k (dtF f op k s) (k + s.length) := by
  intro f
  induction f with
  | zero => intro op k s h; cases s with | nil => simp [dtF, chainD] | cons r s => simp at h
  | succ f ih =>
    intro op k s h
    cases s with
    | nil => simp [dtF, chainD]
    | cons r s =>
      rw [dtF]
      split
      · have h1 := brL_ok (r :: s) (by simp)
        have h2 := ih true (k + brL (r :: s)) ((r :: s).drop (brL (r :: s))) (by rw [dropl]; omega)
        rw [dropl, show k + brL (r :: s) + ((r :: s).length - brL (r :: s)) = k + (r :: s).length by omega] at h2
        exact chainD_app (brP_chain k (r :: s)) h2
      · split
        · rename_i h1
          rw [h1.2]
          exact ⟨rfl, by simp only []; omega, rfl⟩
        · have h1 := wdP_reads (r :: s) (by simp)
          have h2 := ih op (k + (wdP (r :: s)).2) ((r :: s).drop (wdP (r :: s)).2) (by rw [dropl]; omega)
          rw [dropl, show k + (wdP (r :: s)).2 + ((r :: s).length - (wdP (r :: s)).2) = k + (r :: s).length by omega] at h2
          exact ⟨rfl, by simp only []; omega, h2⟩
theorem dtP_chain (l : List Int) : chainD 0 (dtP l) l.length := by
  unfold dtP
  split
  · rename_i h
    have h1 := sw_length h
    simp [sTo] at h1
    have h2 := dtF_chain l.length false 9 (l.drop 9) (by rw [dropl]; omega)
    rw [dropl, show 9 + (l.length - 9) = l.length by omega] at h2
    exact ⟨rfl, by simp only []; omega, h2⟩
  · have := rowF_chain wdP_reads l.length 0 l (Nat.le_refl _)
    rwa [Nat.zero_add] at this
theorem chainD_len : ∀ {P : List PartA} {k e : Nat}, chainD k P e → k + P.length ≤ e ∧ ∀ x ∈ P, x.2.1 ≤ e ∧ x.2.2 ≤ e := by
  intro P
  induction P with
  | nil => intro k e h; exact ⟨Nat.le_of_eq h, fun x hx => by simp at hx⟩
  | cons y P ih =>
    rintro k e ⟨h3, h4, h5⟩
    obtain ⟨i1, i2⟩ := ih h5
    refine ⟨by simp; omega, fun x hx => ?_⟩
    rcases List.mem_cons.1 hx with rfl | hx
    · omega
    · exact i2 x hx

end Go.Proofs.Ytpjcheelafegbaa
