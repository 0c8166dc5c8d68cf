/-
  Layer 5: what a name is, a plain one, a piece; where the first colon stands.
-/
import Derived.Test.YtlkcnfkfccfhmaaDoorNmC
import Derived.Lib.IndexLaws
import Derived.Lib.IndexMore
namespace Go.Proofs.YtlkcnfkfccfhmaaDoor
open Go.RowKit
set_option linter.unusedVariables false

/-- Is a text a name? -/
def nameS (s : ByteArray) : Bool := decide (0 < s.size) && decide (leadN (runesS s) 0 = (runesS s).length)
/-- Is it a name's piece? -/
def tokenS (s : ByteArray) : Bool := decide (0 < s.size) && (runesS s).all nameB
/-- Where the first colon stands; -1: nowhere. -/
def col (s : ByteArray) : Int := Lib.indexByte s.data.toList 58
/-- Is it a name without a colon? -/
def plainS (s : ByteArray) : Bool := nameS s && decide (col s < 0)

theorem bad_no_name : nameB (-1) = false := by decide
theorem bad_no_start : startB (-1) = false := by decide

theorem runes_pos (s : ByteArray) : 0 < (runesS s).length ↔ 0 < s.size := by
  unfold runesS itemsOf
  rw [List.length_map]
  constructor
  · intro h
    by_cases h0 : 0 < s.size
    · exact h0
    · rw [itemsFrom_end s _ _ h0] at h; simp at h
  · intro h
    obtain ⟨f, hf⟩ : ∃ f, s.size = f + 1 := ⟨s.size - 1, by omega⟩
    rw [hf]
    unfold itemsFrom
    rw [if_pos h]
    simp

theorem run_full {l : List Int} (h : run l = l.length) : l.all nameB = true := by
  induction l with
  | nil => rfl
  | cons x l ih =>
    unfold run at h ih
    rw [List.takeWhile_cons] at h
    cases hx : nameB x
    · rw [hx] at h; simp at h
    · rw [hx] at h
      simp only [if_true, List.length_cons, Nat.add_right_cancel_iff] at h
      rw [List.all_cons, hx, ih h]; rfl

theorem run_of_all {l : List Int} (h : l.all nameB = true) : run l = l.length :=
  run_all l fun j hj => by
    rw [List.getD_eq_getElem?_getD, List.getElem?_eq_getElem hj]
    exact List.all_eq_true.1 h _ (List.getElem_mem hj)

theorem run_iff (l : List Int) : decide (run l = l.length) = l.all nameB := by
  rw [Bool.eq_iff_iff, decide_eq_true_eq]
  exact ⟨run_full, run_of_all⟩

/-- All in a name are runes. -/
theorem good_of_names {s : ByteArray} (h : (runesS s).all nameB = true) : goodS s = true := by
  unfold goodS
  rw [List.all_eq_true]
  intro x hx
  unfold isGood
  have hm : x.1 ∈ runesS s := by unfold runesS; exact List.mem_map_of_mem hx
  have := List.all_eq_true.1 h _ hm
  by_cases h1 : x.1 = -1
  · rw [h1, bad_no_name] at this; exact absurd this (by simp)
  · simpa using h1

theorem lead_full {l : List Int} (h0 : 0 < l.length) : leadN l 0 = l.length ↔ startB (l.getD 0 0) = true ∧ l.all nameB = true := by
  unfold leadN
  rw [if_neg (by omega)]
  show (if startB (l.getD 0 0) then (run (l.drop 0) : Int) else 0) = _ ↔ _
  rw [List.drop_zero]
  cases hs : startB (l.getD 0 0)
  · simp; omega
  · simp only [if_true, true_and]
    constructor
    · intro h; exact run_full (by omega)
    · intro h; rw [run_of_all h]

theorem name_row (s : ByteArray) : (decide (0 < (rowL s).length) && decide (leadN (rowL s) 0 = (rowL s).length)) = nameS s := by
  unfold nameS rowL
  cases hg : goodS s
  · rw [if_neg (by simp)]
    by_cases h0 : 0 < s.size
    · have h1 := (runes_pos s).2 h0
      have hne : ¬ (leadN (runesS s) 0 = (runesS s).length) := fun h => by
        have := good_of_names ((lead_full h1).1 h).2
        rw [hg] at this; exact absurd this (by simp)
      rw [decide_eq_false hne]; simp
    · rw [decide_eq_false h0]; simp
  · rw [if_pos rfl]
    have : decide (0 < (runesS s).length) = decide (0 < s.size) := by rw [decide_eq_decide]; exact runes_pos s
    rw [this]

theorem token_row (s : ByteArray) : (decide (0 < (rowL s).length) && decide (run (rowL s) = (rowL s).length)) = tokenS s := by
  unfold tokenS rowL
  cases hg : goodS s
  · rw [if_neg (by simp)]
    have hne : (runesS s).all nameB = false := by
      cases h : (runesS s).all nameB
      · rfl
      · have := good_of_names h; rw [hg] at this; exact absurd this (by simp)
    rw [hne]; simp
  · rw [if_pos rfl, run_iff]
    have : decide (0 < (runesS s).length) = decide (0 < s.size) := by rw [decide_eq_decide]; exact runes_pos s
    rw [this]

theorem rowL_length (s : ByteArray) : (rowL s).length ≤ s.size := by
  unfold rowL
  split
  · exact runesS_length s
  · simp

theorem col_at {l : List UInt8} {c : UInt8} {k : Nat} (h : l[k]? = some c) (hb : ∀ x, x < k → l[x]? ≠ some c) : Lib.indexByte l c = k := by
  have hge := Lib.indexByte_ge l c
  by_cases hn : Lib.indexByte l c = -1
  · exact absurd h (Lib.indexByte_none hn k)
  · obtain ⟨o, ho⟩ : ∃ o : Nat, Lib.indexByte l c = o := ⟨(Lib.indexByte l c).toNat, by omega⟩
    obtain ⟨h1, h2⟩ := Lib.indexByte_some ho
    rw [ho]
    have a1 : ¬ o < k := fun h => hb o h h1
    have a2 : ¬ k < o := fun h' => h2 k h' h
    omega
theorem col_none {l : List UInt8} {c : UInt8} (hb : ∀ x, x < l.length → l[x]? ≠ some c) : Lib.indexByte l c = -1 := by
  by_cases hn : Lib.indexByte l c = -1
  · exact hn
  · have hge := Lib.indexByte_ge l c
    obtain ⟨o, ho⟩ : ∃ o : Nat, Lib.indexByte l c = o := ⟨(Lib.indexByte l c).toNat, by omega⟩
    obtain ⟨h1, _⟩ := Lib.indexByte_some ho
    exact absurd h1 (hb o (List.getElem?_eq_some_iff.1 h1).1)

theorem byte_at (s : ByteArray) (k : Nat) (h : k < s.size) : s.data.toList[k]? = some s[k] := by
  rw [List.getElem?_eq_getElem (by rw [Array.length_toList]; exact h)]
  rfl
theorem byte_is (b c : UInt8) : (((b.toNat : Nat) : Int) == ((c.toNat : Nat) : Int)) = decide (b = c) := by
  rw [Bool.eq_iff_iff, beq_iff_eq, decide_eq_true_eq]
  constructor
  · intro h; exact UInt8.toNat_inj.1 (by omega)
  · rintro rfl; rfl

set_option maxHeartbeats 400000 in
theorem refColon_any (s : ByteArray) (w : World) (hs : s.size ≤ 200) :
    Calls Tryd.prog 27 #[.string s] w fun e w' => e = .returned (.int .i64 (col s)) ∧ w = w' := by
  go_enter Tryd.func27, Tryd.ntmps27
  go_wp2
  go_loop [3] (fun i => ∃ k : Nat, k ≤ s.size ∧ i = .int .i64 k ∧ Hid (∀ x, x < k → s.data.toList[x]? ≠ some 58)) (fun i => s.size - (intOf i).toNat)
  case atStart => exact ⟨0, Nat.zero_le _, rfl, Lib.hid (fun x hx => by omega)⟩
  case round =>
    obtain ⟨k, hk, rfl, HK⟩ := hrel
    by_cases hlt : k < s.size
    · have hby := byte_is s[k] 58
      by_cases hc : s[k] = 58
      · have hq : (((s[k].toNat : Nat) : Int) == 58) = true := hby.trans (decide_eq_true hc)
        have HR := Lib.hid (show col s = k from col_at (by rw [byte_at s k hlt, hc]) HK.out)
        clear hby hc
        go_wp2
        go_ret
        exact ⟨ret_num (by rw [HR.out]), rfl⟩
      · have hq : (((s[k].toNat : Nat) : Int) == 58) = false := hby.trans (decide_eq_false hc)
        have HN := Lib.hid (show ∀ x, x < k + 1 → s.data.toList[x]? ≠ some 58 from fun x hx => by
          by_cases h : x = k
          · subst h; rw [byte_at s x hlt]; exact fun h => hc (Option.some.inj h)
          · exact HK.out x (by omega))
        clear hby hc
        go_wp2
        go_round
        case rel => exact ⟨k + 1, by omega, by go_num, HN⟩
        case measure => simp [intOf]; omega
    · obtain rfl : k = s.size := by omega
      have HR := Lib.hid (show col s = -1 from col_none (fun x hx => HK.out x (by rwa [Array.length_toList] at hx)))
      clear hk hlt
      go_wp2
      go_ret
      exact ⟨ret_num (by rw [HR.out]), rfl⟩

end Go.Proofs.YtlkcnfkfccfhmaaDoor
