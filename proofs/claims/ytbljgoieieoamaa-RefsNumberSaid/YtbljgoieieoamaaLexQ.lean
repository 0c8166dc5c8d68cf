/-
  Layer 7, plainly: items of a subset, document types, references, markup, tokens: each by the runes from its place on.
-/
import Derived.Test.YtbljgoieieoamaaLexC
namespace Go.Proofs.Ytbljgoieieoamaa
open Go.RowKit
set_option linter.unusedVariables false

def sDo : List Int := [60, 33, 91, 67, 68, 65, 84, 65, 91]
def sDc : List Int := [93, 93, 62]
def sHo : List Int := [38, 35, 120]
def sNo : List Int := [38, 35]
/-- How far it is over what begins with a < in a subset. -/
def itemP (l : List Int) : Nat :=
  if sw sCo l then 4 + (behP sCc (l.drop 4)).1
  else if sw sPo l then 2 + (behP sPc (l.drop 2)).1
  else bareP [62] 0 l + (edgeP (l.drop (bareP [62] 0 l))).1

theorem itemP_le (l : List Int) : itemP l ≤ l.length := by
  unfold itemP
  split
  · rename_i h
    have := sw_length h
    have h2 := behP_le sCc (l.drop 4)
    rw [dropl] at h2
    simp [sCo] at this
    omega
  · split
    · rename_i h
      have := sw_length h
      have h2 := behP_le sPc (l.drop 2)
      rw [dropl] at h2
      simp [sPo] at this
      omega
    · have h1 := bareP_le [62] l 0
      have h2 := edgeP_le (l.drop (bareP [62] 0 l))
      rw [dropl] at h2
      omega

theorem itemP_pos (l : List Int) : 0 < itemP (60 :: l) := by
  unfold itemP
  split
  · omega
  · split
    · omega
    · rw [bareP_go (by rfl)]; omega

/-- How far it is to the ] that closes a subset, or to the end. -/
def subF : Nat → List Int → Nat
  | 0, _ => 0
  | _ + 1, [] => 0
  | f + 1, r :: l => if r = 93 then 0 else if r = 60 then itemP (r :: l) + subF f ((r :: l).drop (itemP (r :: l))) else 1 + subF f l
def subP (l : List Int) : Nat := subF l.length l

theorem subF_le : ∀ (f : Nat) (l : List Int), subF f l ≤ l.length := by
  intro f
  induction f with
  | zero => intro l; simp [subF]
  | succ f ih =>
    intro l
    cases l with
    | nil => simp [subF]
    | cons r l =>
      rw [subF]
      split
      · simp
      · split
        · have h1 := itemP_le (r :: l)
          have h2 := ih ((r :: l).drop (itemP (r :: l)))
          rw [dropl] at h2
          omega
        · have := ih l
          simp
          omega
theorem subP_le (l : List Int) : subP l ≤ l.length := subF_le _ l

/-- How far a document type goes on, over its subsets, from a place on where one may open. -/
def docF : Nat → List Int → Nat
  | 0, _ => 0
  | f + 1, l => if sw sOb l then
      1 + subP (l.drop 1) + bareP [91, 62] 0 (l.drop (1 + subP (l.drop 1))) + docF f (l.drop (1 + subP (l.drop 1) + bareP [91, 62] 0 (l.drop (1 + subP (l.drop 1)))))
    else 0
theorem docF_le : ∀ (f : Nat) (l : List Int), docF f l ≤ l.length := by
  intro f
  induction f with
  | zero => intro l; simp [docF]
  | succ f ih =>
    intro l
    rw [docF]
    split
    · rename_i h
      have h0 := sw_length h
      simp [sOb] at h0
      have h1 := subP_le (l.drop 1)
      rw [dropl] at h1
      have h2 := bareP_le [91, 62] (l.drop (1 + subP (l.drop 1))) 0
      rw [dropl] at h2
      have h3 := ih (l.drop (1 + subP (l.drop 1) + bareP [91, 62] 0 (l.drop (1 + subP (l.drop 1)))))
      rw [dropl] at h3
      omega
    · simp
/-- Where a document type ends, ahead of what may be its >. -/
def docE (l : List Int) : Nat := bareP [91, 62] 0 l + docF l.length (l.drop (bareP [91, 62] 0 l))
theorem docE_le (l : List Int) : docE l ≤ l.length := by
  unfold docE
  have h1 := bareP_le [91, 62] l 0
  have h2 := docF_le l.length (l.drop (bareP [91, 62] 0 l))
  rw [dropl] at h2
  omega
/-- Over a > that stands behind so many. -/
def edgeAt (l : List Int) (k : Nat) : Nat × Bool := (k + (edgeP (l.drop k)).1, (edgeP (l.drop k)).2)
theorem edgeAt_le (l : List Int) (k : Nat) (h : k ≤ l.length) : (edgeAt l k).1 ≤ l.length := by
  unfold edgeAt
  have h2 := edgeP_le (l.drop k)
  rw [dropl] at h2
  simp only
  omega
def docP (l : List Int) : Nat × Bool := edgeAt l (docE l)

/-- A token: its kind, how many runes it has, is it whole? -/
abbrev Tok := Nat × Nat × Bool

/-- A token behind an &. -/
def refT (kind inner k : Nat) (l : List Int) : Tok := if decide (k = 0) || !sw sSc (l.drop (inner + k)) then (11, 1, false) else (kind, inner + k + 1, true)
def refP (l : List Int) : Tok :=
  if sw sHo l then refT 3 3 (runP hexB (l.drop 3)) l
  else if sw sNo l then refT 3 2 (runP digitB (l.drop 2)) l
  else refT 2 1 (leadP (l.drop 1)) l

theorem refT_le (kind inner k : Nat) (l : List Int) (h : inner + k ≤ l.length) (h0 : 0 < l.length) : 0 < (refT kind inner k l).2.1 ∧ (refT kind inner k l).2.1 ≤ l.length ∧ ((refT kind inner k l).1 = 11 ∨ (refT kind inner k l).1 = kind) := by
  unfold refT
  split
  · exact ⟨by decide, h0, .inl rfl⟩
  · rename_i hc
    rw [Bool.or_eq_true, not_or] at hc
    have hs : sw sSc (l.drop (inner + k)) = true := by simpa using hc.2
    have := sw_length hs
    rw [dropl] at this
    simp [sSc] at this
    refine ⟨by simp, ?_, .inr rfl⟩
    show inner + k + 1 ≤ l.length
    omega
theorem refP_le (l : List Int) (h0 : 0 < l.length) : 0 < (refP l).2.1 ∧ (refP l).2.1 ≤ l.length ∧ 1 ≤ (refP l).1 ∧ (refP l).1 ≤ 11 := by
  have key : ∀ kind inner k, inner + k ≤ l.length → (kind = 2 ∨ kind = 3) → 0 < (refT kind inner k l).2.1 ∧ (refT kind inner k l).2.1 ≤ l.length ∧ 1 ≤ (refT kind inner k l).1 ∧ (refT kind inner k l).1 ≤ 11 := by
    intro kind inner k h hk
    obtain ⟨a, b, c⟩ := refT_le kind inner k l h h0
    exact ⟨a, b, by omega, by omega⟩
  unfold refP
  split
  · rename_i h
    have := sw_length h
    have h2 := runP_le hexB (l.drop 3)
    rw [dropl] at h2
    simp [sHo] at this
    exact key _ _ _ (by omega) (.inr rfl)
  · split
    · rename_i h
      have := sw_length h
      have h2 := runP_le digitB (l.drop 2)
      rw [dropl] at h2
      simp [sNo] at this
      exact key _ _ _ (by omega) (.inr rfl)
    · have h2 := leadP_le (l.drop 1)
      rw [dropl] at h2
      exact key _ _ _ (by omega) (.inl rfl)

/-- Is the rune behind the first one a name's beginning? -/
def nsAt (l : List Int) : Bool := decide (1 < l.length) && startB (l.getD 1 0)
/-- A start tag, or an empty one. -/
def tagT (l : List Int) (e : Nat × Bool) : Tok := (if e.2 && decide (l.getD (e.1 - 2) 0 = 47) then 9 else 8, e.1, e.2)
def kTok (kind k : Nat) (e : Nat × Bool) : Tok := (kind, k + e.1, e.2)
/-- A token that begins with a <. -/
def mupP (l : List Int) : Tok :=
  if sw sCo l then kTok 4 4 (behP sCc (l.drop 4))
  else if sw sDo l then kTok 6 9 (behP sDc (l.drop 9))
  else if sw sPo l then kTok 5 2 (behP sPc (l.drop 2))
  else if sw sTo l then kTok 7 9 (docP (l.drop 9))
  else if sw sEo l then kTok 10 0 (edgeAt l (2 + runP inEndB (l.drop 2)))
  else if nsAt l then tagT l (edgeAt l (1 + bareP [60, 62] 0 (l.drop 1)))
  else (11, 1, false)
/-- The token at a row's beginning. -/
def tokP (l : List Int) : Tok :=
  if l.getD 0 0 = 60 then mupP l
  else if l.getD 0 0 = 38 then refP l
  else if l.getD 0 0 = -1 then (11, 1, false)
  else (1, runP plainB l, true)

def TokOk (l : List Int) (t : Tok) : Prop := 0 < t.2.1 ∧ t.2.1 ≤ l.length ∧ 1 ≤ t.1 ∧ t.1 ≤ 11

theorem kTok_ok {l : List Int} {kind k : Nat} {e : Nat × Bool} (h : k + e.1 ≤ l.length) (h0 : 0 < k + e.1) (h1 : 1 ≤ kind) (h2 : kind ≤ 11) : TokOk l (kTok kind k e) := ⟨h0, h, h1, h2⟩

theorem mupP_ok (l : List Int) (h0 : 0 < l.length) : TokOk l (mupP l) := by
  unfold mupP
  split
  · rename_i h
    have := sw_length h
    have h2 := behP_le sCc (l.drop 4)
    rw [dropl] at h2
    simp [sCo] at this
    exact kTok_ok (by omega) (by omega) (by decide) (by decide)
  split
  · rename_i h
    have := sw_length h
    have h2 := behP_le sDc (l.drop 9)
    rw [dropl] at h2
    simp [sDo] at this
    exact kTok_ok (by omega) (by omega) (by decide) (by decide)
  split
  · rename_i h
    have := sw_length h
    have h2 := behP_le sPc (l.drop 2)
    rw [dropl] at h2
    simp [sPo] at this
    exact kTok_ok (by omega) (by omega) (by decide) (by decide)
  split
  · rename_i h
    have := sw_length h
    have h2 := edgeAt_le (l.drop 9) (docE (l.drop 9)) (docE_le _)
    rw [dropl] at h2
    simp [sTo] at this
    exact kTok_ok (by show 9 + (edgeAt _ _).1 ≤ _; omega) (by omega) (by decide) (by decide)
  split
  · rename_i h
    have := sw_length h
    have h2 := runP_le inEndB (l.drop 2)
    rw [dropl] at h2
    simp [sEo] at this
    have h3 := edgeAt_le l (2 + runP inEndB (l.drop 2)) (by omega)
    have h4 : 2 ≤ (edgeAt l (2 + runP inEndB (l.drop 2))).1 := by unfold edgeAt; simp only; omega
    exact kTok_ok (by omega) (by omega) (by decide) (by decide)
  split
  · rename_i h
    have h1 : 1 < l.length := by unfold nsAt at h; rw [Bool.and_eq_true, decide_eq_true_eq] at h; exact h.1
    have h2 := bareP_le [60, 62] (l.drop 1) 0
    rw [dropl] at h2
    have h3 := edgeAt_le l (1 + bareP [60, 62] 0 (l.drop 1)) (by omega)
    have h4 : 1 ≤ (edgeAt l (1 + bareP [60, 62] 0 (l.drop 1))).1 := by unfold edgeAt; simp only; omega
    unfold tagT
    refine ⟨by simp only; omega, h3, ?_, ?_⟩
    · simp only; split <;> decide
    · simp only; split <;> decide
  · exact ⟨by decide, h0, by decide, by decide⟩

theorem tokP_ok (l : List Int) (h0 : 0 < l.length) : TokOk l (tokP l) := by
  unfold tokP
  split
  · exact mupP_ok l h0
  split
  · exact refP_le l h0
  split
  · exact ⟨by decide, h0, by decide, by decide⟩
  · rename_i a b c
    refine ⟨?_, runP_le plainB l, Nat.le_refl 1, (by omega : 1 ≤ 11)⟩
    cases l with
    | nil => simp at h0
    | cons r l =>
      simp only [List.getD_cons_zero] at a b c
      have : plainB r = true := by simp [plainB, a, b, c]
      show 0 < runP plainB (r :: l)
      unfold runP
      rw [List.takeWhile_cons, if_pos this]
      simp

/-- The tokens of a row that begins at a place: kind, from, to, whole. -/
abbrev TokA := Nat × Nat × Nat × Bool
def at_ (k : Nat) (t : Tok) : TokA := (t.1, k, k + t.2.1, t.2.2)
def toksF : Nat → Nat → List Int → List TokA
  | 0, _, _ => []
  | _ + 1, _, [] => []
  | f + 1, k, r :: l => at_ k (tokP (r :: l)) :: toksF f (k + (tokP (r :: l)).2.1) ((r :: l).drop (tokP (r :: l)).2.1)
def toks (l : List Int) : List TokA := toksF l.length 0 l

end Go.Proofs.Ytbljgoieieoamaa
