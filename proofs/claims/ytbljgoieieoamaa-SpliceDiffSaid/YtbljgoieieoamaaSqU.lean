/-
  splice.Diff, where nothing is to be changed; its answer for the walk; a literal row of one change.
-/
import Derived.Test.YtbljgoieieoamaaSqT
namespace Go.Proofs.Ytbljgoieieoamaa
open Go.Shelf Go.RowKit Go.Lib Go.Sort
set_option linter.unusedVariables false

set_option maxHeartbeats 1000000 in
theorem difC_no {w : World} {a a' : Option Addr} {n c n' c' : Nat} {A B : List Int} (RA : RowB w a n c A) (RB : RowB w a' n' c' B) (hv : ((strOfNums A).toList == (strOfNums B).toList) = true) :
    Calls Try.prog 19 #[.slice a n c, .slice a' n' c'] w fun e w' => e = .returned (.tuple #[.agg #[.int .i64 0, .int .i64 0, .slice none 0 0], .bool false]) ∧ Below w.heap.size w w' := by
  have HEQ := Lib.hid (fun (W : World) (hb : Below w.heap.size w W) => beq_any (c := c) (c' := c') RA.length (RA.at_.below hb) RB.length (RB.at_.below hb) rfl rfl hv)
  clear RA RB hv
  go_enter Try.func19, Try.ntmps19
  go_wp2_with (first
    | (go_at_call 38; (with_reducible refine (HEQ.out _ (one_ok _ _)).mono ?_); rintro e w1 ⟨rfl, rfl⟩))
  refine bodyPost_ret (v := .tuple #[.agg #[.int .i64 0, .int .i64 0, .slice none 0 0], .bool false]) ?_ rfl ⟨rfl, ?_⟩
  · simp [results, Try.results19, go_sem]
  · exact one_ok _ _

theorem difC_two {w : World} {a a' : Option Addr} {n c n' c' : Nat} {A B : List Int} (RA : RowB w a n c A) (RB : RowB w a' n' c' B) (hv : ((strOfNums A).toList == (strOfNums B).toList) = false) :
    Calls Try.prog 19 #[.slice a n c, .slice a' n' c'] w fun e w' => ∃ (f k t : Nat) (a6 : Option Addr) (c6 : Nat), DifR A B f t (f + k) ∧ e = .returned (.tuple #[.agg #[.int .i64 f, .int .i64 t, .slice a6 k c6], .bool true]) ∧ k ≤ c6 ∧ w'.ownsRow w.heap.size 5 1 (.slice a6 k c6) k (((B.take (f + k)).drop f).map (.int .u8)) ∧ Below w.heap.size w w' := by
  refine (difC_yes RA RB hv).mono ?_
  rintro e w' ⟨f, t, e', v, hD, rfl, own, hb⟩
  obtain ⟨a6, c6, rfl, hc⟩ := owns_slice own
  obtain ⟨k, rfl⟩ : ∃ k, e' = f + k := ⟨e' - f, by have := hD.fe; omega⟩
  have hk : f + k - f = k := by omega
  rw [hk] at own hc
  exact ⟨f, k, t, a6, c6, hD, by rw [hk], hc, own, hb⟩

/-- A literal row of one change. -/
theorem owns_lit (w : World) (x : Chg) : (w.alloc (.cells (encC x).toArray 39)).ownsRow w.heap.size 39 3 (.slice (some ⟨w.heap.size, 0, none⟩) 1 1) 1 (cellsC [x]) :=
  ⟨by simp [cellsC, encC], .inr ⟨w.heap.size, 1, (encC x).toArray, rfl, Nat.le_refl _, heap_alloc_new w _, Nat.le_refl _, by simp [maxLen], by simp [encC], by simp [cellsC, encC]⟩⟩

/-- The one change that leads from the one to the other. -/
theorem dif_yes {A B : List Int} {f t k : Nat} (h : DifR A B f t (f + k)) (ad : Option Addr) (cc : Nat) : ∃ Kp, Yes A [((f : Int), (t : Int), ad, cc, (B.take (f + k)).drop f)] B Kp := by
  have h1 := h.ft
  have h2 := h.tA
  have hap : ∃ Kp, apP A 0 [] [] [((f : Int), (t : Int), (B.take (f + k)).drop f)] = some (B, Kp) := by
    simp only [apP, Int.toNat_natCast]
    rw [if_neg (by omega)]
    refine ⟨_, congrArg some (Prod.ext ?_ rfl)⟩
    simp only [List.nil_append, List.drop_zero]
    rw [h.beg, h.fin]
    have e1 : B.take f = (B.take (f + k)).take f := by rw [List.take_take, Nat.min_eq_left (by omega)]
    rw [e1, List.take_append_drop, List.take_append_drop]
  obtain ⟨Kp, hap⟩ := hap
  refine ⟨Kp, ⟨fun x hx => ?_, ?_, hap⟩⟩
  · simp only [List.mem_cons, List.not_mem_nil, or_false] at hx
    subst hx
    simp only [badC]; omega
  · show (decide ((f : Int) < 0) || false) = false
    simp

/-- Where the strings differ the change is none of nothing by nothing. -/
theorem dif_some {A B : List Int} {f t k : Nat} (h : DifR A B f t (f + k)) (hv : ((strOfNums A).toList == (strOfNums B).toList) = false) : f < t ∨ 0 < k := by
  rcases Nat.lt_or_ge f t with h1 | h1
  · exact .inl h1
  · right
    rcases Nat.eq_zero_or_pos k with rfl | h2
    · have h3 := h.ft
      obtain rfl : t = f := by omega
      have e : A = B := by
        rw [← List.take_append_drop t A, ← List.take_append_drop t B, h.beg]
        have := h.fin
        rw [Nat.add_zero] at this
        rw [this]
      subst e
      simp at hv
    · exact h2

theorem rowB_own {W : World} {base n c : Nat} {a : Option Addr} {B : List Int} (own : W.ownsRow base 5 1 (.slice a n c) n (B.map (.int .u8))) (hc : n ≤ c) (hl : B.length = n) (hn : n ≤ 1000) : RowB W a n c B := ⟨fun h => owns_nil own h, hl, hn, hc, owns_cap own, AtCells.of_owns own⟩

theorem apply_lit {W : World} {a : Option Addr} {len cap : Nat} {A B : List Int} (R : RowB W a len cap A) {f t k : Nat} {a6 : Option Addr} {c6 base : Nat} (hD : DifR A B f t (f + k)) (hBl : B.length ≤ 1000) (hk : k ≤ c6) (own : W.ownsRow base 5 1 (.slice a6 k c6) k (((B.take (f + k)).drop f).map (.int .u8))) (q : Nat) (hq : q = W.heap.size) :
    Calls Try.prog 14 #[.slice a len cap, .slice (some ⟨q, 0, none⟩) 1 1] (W.alloc (.cells #[.int .i64 f, .int .i64 t, .slice a6 k c6] 39)) fun e w' => ∃ v9 v10, e = .returned (.tuple #[v9, v10, .int .i64 0]) ∧ w'.ownsRow (W.heap.size + 1) 5 1 v9 B.length (B.map (.int .u8)) ∧ Below (W.heap.size + 1) (W.alloc (.cells #[.int .i64 f, .int .i64 t, .slice a6 k c6] 39)) w' := by
  subst hq
  have hl : ((B.take (f + k)).drop f).length = k := by rw [List.length_drop, List.length_take]; have := hD.eB; omega
  obtain ⟨Kp, hy⟩ := dif_yes hD a6 c6
  have ho := owns_lit W ((f : Int), (t : Int), a6, c6, (B.take (f + k)).drop f)
  have hc : (encC ((f : Int), (t : Int), a6, c6, (B.take (f + k)).drop f)).toArray = #[.int .i64 f, .int .i64 t, .slice a6 k c6] := by simp only [encC, hl]
  rw [hc] at ho
  have RO := rowB_own own hk hl (by have := hD.eB; omega)
  refine (apply_yes (R.below (one_ok _ _)) ho rfl (by omega) (fun x hx => ?_) hy).mono ?_
  · simp only [List.mem_cons, List.not_mem_nil, or_false] at hx
    subst hx
    exact ⟨fun j u hj => by
      obtain ⟨b, off, ha, hcl⟩ := RO.at_ j u hj
      have hlt := cell_lt hcl
      refine ⟨b, off, ha, by simp; omega, ?_⟩
      rw [(one_ok W _).cell (p := ⟨b, off + j, none⟩) hlt]; exact hcl, by simp only [hl]; exact hk, RO.max, by simp only [hl]; have := hD.eB; omega, RO.nil⟩
  · rintro e w' ⟨v9, v10, K, rfl, o9, _, _, _, hb⟩
    have hz : (W.alloc (.cells #[.int .i64 f, .int .i64 t, .slice a6 k c6] 39)).heap.size = W.heap.size + 1 := by simp
    rw [hz] at o9 hb
    exact ⟨v9, v10, rfl, o9, hb⟩

end Go.Proofs.Ytbljgoieieoamaa
