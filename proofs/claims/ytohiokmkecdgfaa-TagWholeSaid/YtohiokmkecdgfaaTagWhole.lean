/-
  TagWhole: for every row of runes it returns true.
-/
import Derived.Test.YtohiokmkecdgfaaTagR
namespace Go.Proofs.Ytohiokmkecdgfaa
open Go.RowKit
set_option linter.unusedVariables false

theorem achain_le {al : List AttA} {k e : Nat} (h : achain k al e) : k ≤ e := by
  induction al generalizing k with
  | nil => exact Nat.le_of_eq h
  | cons x al ih =>
    obtain ⟨⟨h1, h2, h3, h4, h5, h7⟩, h6⟩ := h
    have := ih h6
    omega
theorem readP_chain {P : List PartA} {n : Nat} (hc : chain 0 P n) {nm : PartA} {al : List AttA} {r m : Bool} (h : readP P = (nm, al, r, m)) : ∃ e, achain nm.2.2 al e ∧ e ≤ n := by
  unfold readP at h
  have key : ∀ (hd n' : PartA) (Q1 : List PartA), takeP [1, 2] P = ([hd, n'], true, Q1) → ∃ e, achain n'.2.2 (attrsP Q1).1 e ∧ e ≤ n := by
    intro hd n' Q1 h1
    obtain ⟨m1, c1, d1⟩ := takeP_chain h1 hc
    obtain ⟨_, _, _, _, _, _, _, _, _, _, e1⟩ := c1
    have e1' : n'.2.2 = m1 := e1
    obtain ⟨m2, a1, a2, _⟩ := attrsF_chain Q1.length Q1 m1 n d1
    rw [e1']
    exact ⟨m2, a1, chain_le a2⟩
  split at h
  · rename_i hd n' Q1 h1
    obtain ⟨e, a1, a2⟩ := key hd n' Q1 h1
    split at h
    · split at h
      · simp only [Prod.mk.injEq] at h
        obtain ⟨rfl, rfl, _⟩ := h
        exact ⟨e, a1, a2⟩
      · simp only [Prod.mk.injEq] at h
        obtain ⟨rfl, rfl, _⟩ := h
        exact ⟨e, a1, a2⟩
    · simp only [Prod.mk.injEq] at h
      obtain ⟨rfl, rfl, _⟩ := h
      exact ⟨e, a1, a2⟩
  · simp only [Prod.mk.injEq] at h
    obtain ⟨rfl, rfl, _⟩ := h
    exact ⟨0, rfl, Nat.zero_le _⟩
theorem readP_len {P : List PartA} {nm : PartA} {al : List AttA} {r m : Bool} (h : readP P = (nm, al, r, m)) : al.length ≤ P.length := by
  unfold readP at h
  have key : ∀ (hd n' : PartA) (Q1 : List PartA), takeP [1, 2] P = ([hd, n'], true, Q1) → (attrsP Q1).1.length ≤ P.length := by
    intro hd n' Q1 h1
    have a := takeP_len [1, 2] P
    rw [h1] at a
    exact Nat.le_trans (attrsP_len Q1) a
  split at h
  · rename_i hd n' Q1 h1
    have a := key hd n' Q1 h1
    split at h
    · split at h
      · simp only [Prod.mk.injEq] at h
        obtain ⟨_, rfl, _⟩ := h
        exact a
      · simp only [Prod.mk.injEq] at h
        obtain ⟨_, rfl, _⟩ := h
        exact a
    · simp only [Prod.mk.injEq] at h
      obtain ⟨_, rfl, _⟩ := h
      exact a
  · simp only [Prod.mk.injEq] at h
    obtain ⟨_, rfl, _⟩ := h
    exact Nat.zero_le _
theorem chain_drop {P : List PartA} {k n : Nat} {x : PartA} (hk : P[k]? = some x) {j : Nat} (h : chain j (P.drop k) n) : x.2.1 = j ∧ j < x.2.2 ∧ 1 ≤ x.1 ∧ x.1 ≤ 7 ∧ chain x.2.2 (P.drop (k + 1)) n ∧ x.2.2 ≤ n := by
  have hl := (List.getElem?_eq_some_iff.1 hk).1
  have hx := (List.getElem?_eq_some_iff.1 hk).2
  rw [List.drop_eq_getElem_cons hl, hx] at h
  obtain ⟨h1, h2, _, h4, h5, h6⟩ := h
  exact ⟨h1, h2, h4, h5, h6, chain_le h6⟩
theorem achain_drop {al : List AttA} {k n : Nat} {x : AttA} (hk : al[k]? = some x) {j : Nat} (h : achain j (al.drop k) n) : attOk j x ∧ achain x.2.2.2.2 (al.drop (k + 1)) n ∧ x.2.2.2.2 ≤ n := by
  have hl := (List.getElem?_eq_some_iff.1 hk).1
  have hx := (List.getElem?_eq_some_iff.1 hk).2
  rw [List.drop_eq_getElem_cons hl, hx] at h
  obtain ⟨h1, h6⟩ := h
  exact ⟨h1, h6, achain_le h6⟩

theorem attsCells_at : ∀ (l : List AttA) (k : Nat) (x : AttA) (i : Nat), l[k]? = some x → i < 9 → (attsCells l)[k * 9 + i]? = (attCells x)[i]? := by
  intro l
  induction l with
  | nil => intro k x i h; simp at h
  | cons y l ih =>
    intro k x i h hi
    have hy : (attCells y).length = 9 := rfl
    have e : attsCells (y :: l) = attCells y ++ attsCells l := rfl
    rw [e]
    cases k with
    | zero =>
      simp at h; subst h
      rw [Nat.zero_mul, Nat.zero_add, List.getElem?_append_left (by omega)]
    | succ k =>
      simp at h
      rw [List.getElem?_append_right (by omega), hy, show (k + 1) * 9 + i - 9 = k * 9 + i by omega]
      exact ih k x i h hi
theorem att_cell {w : World} {b off : Nat} {l : List AttA} (hat : AtCells w (some ⟨b, off, none⟩) (attsCells l)) {k : Nat} {x : AttA} (h : l[k]? = some x) (i : Nat) (hi : i < 9) {u : Value} (hu : (attCells x)[i]? = some u) : w.cell? ⟨b, off + k * 9 + i, none⟩ = some u := by
  obtain ⟨b', off', hy, hc⟩ := hat (k * 9 + i) u (by rw [attsCells_at l k x i h hi]; exact hu)
  simp only [Option.some.injEq, Addr.mk.injEq] at hy
  obtain ⟨rfl, rfl, _⟩ := hy
  rw [Nat.add_assoc]
  exact hc

set_option maxRecDepth 20000 in
set_option maxHeartbeats 4000000 in
theorem tagWhole_any (a : Option Addr) (len cap : Nat) (zs : List Int) (w : World) (hlen : zs.length = len) (hc : len ≤ cap) (hm : cap ≤ maxLen) (hat : AtCells w a (zs.map (.int .i32))) :
    Calls Try.prog 6 #[.slice a len cap] w fun e w' => e = .returned (.bool true) ∧ Below w.heap.size w w' := by
  have HF := Lib.hid (fewT_any a len cap w hc hm)
  obtain ⟨n, hn⟩ : ∃ n, n = min len 120 := ⟨_, rfl⟩
  obtain ⟨l, hl⟩ : ∃ l, l = zs.take 120 := ⟨_, rfl⟩
  have hln : l.length = n := by rw [hl, hn, List.length_take, hlen]; omega
  have hnc : n ≤ cap := by omega
  have hn120 : n ≤ 120 := by omega
  have hatl : AtCells w a (l.map (.int .i32)) := by rw [hl, List.map_take]; exact hat.take 120
  rw [← hn] at HF
  obtain ⟨P, hP⟩ : ∃ P, parts l 0 n = P := ⟨_, rfl⟩
  have hch : chain 0 P n := by
    rw [← hP]
    unfold parts
    rw [if_neg (by rw [hln]; omega)]
    have := parS_chain 0 ((l.take n).drop 0)
    rw [List.drop_zero, List.length_take, hln, Nat.min_self, Nat.zero_add] at this
    simpa using this
  have HCH := Lib.hid hch
  have HP := Lib.hid (hP ▸ parts_row a n cap l w hln hnc hm (by omega) hatl 0 n)
  obtain ⟨⟨nm, al, r, m⟩, hR⟩ : ∃ t, readP P = t := ⟨_, rfl⟩
  obtain ⟨e0, he0, hen⟩ := readP_chain hch hR
  have HE := Lib.hid he0
  have HRD := Lib.hid hR
  have HR := Lib.hid (fun (w' : World) (hb : Below w.heap.size w w') => read_row a n cap l w' hln hnc hm (by omega) (hatl.below hb) 0 n (hP ▸ hR))
  have hq : P.length ≤ 121 := by have := parts_len l 0 n; rw [hP, hln] at this; omega
  unfold maxLen at hm
  clear hat hlen hc hn hl hatl hln hP hch hR he0
  go_enter Try.func6, Try.ntmps6
  go_wp2_with (first
    | (go_at_call 11; (with_reducible refine HF.out.mono ?_); rintro e w' ⟨rfl, rfl⟩)
    | (go_at_call 12; (with_reducible refine HP.out.mono ?_); rintro e w1 ⟨v, rfl, hown, hb1⟩; obtain ⟨va, vc, rfl, hvc⟩ := owns_slice hown))
  obtain ⟨q, hqe⟩ : ∃ q, q = P.length := ⟨_, rfl⟩
  have HPO := Lib.hid (AtCells.of_owns hown)
  have HQ := Lib.hid hqe
  rw [← hqe] at hown hvc hq ⊢
  clear hown hqe
  go_loopw [3, 5, 17] (fun xv _p i wr => ∃ (k x : Nat), i = .int .i64 k ∧ xv = .int .i64 x ∧ k ≤ q ∧ x ≤ n ∧ Hid (chain x (P.drop k) n) ∧ Below w1.heap.size w1 wr) (fun _ _ i _ => q - (intOf i).toNat)
  case atStart => exact ⟨0, 0, rfl, rfl, Nat.zero_le _, Nat.zero_le _, Lib.hid HCH.out, Below.refl _ _⟩
  case round =>
    obtain ⟨k, x, rfl, rfl, hkq, hxn, HK, hbl⟩ := hrel
    by_cases hlt : k < q
    · obtain ⟨p, hp⟩ : ∃ p, P[k]? = some p := ⟨_, List.getElem?_eq_getElem (by rw [← HQ.out]; exact hlt)⟩
      obtain ⟨vb, vo, rfl, c0, c1, c2⟩ := par_cells (HPO.out.below hbl) hp
      obtain ⟨p1, p2, p3, p4, p5, p6⟩ := chain_drop hp HK.out
      obtain ⟨p0, pf, pt⟩ := p
      simp only at c0 c1 c2 p1 p2 p3 p4 p5 p6
      subst p1
      have HN := Lib.hid p5
      have hvlt := cell_lt c0
      have e1 : ¬ ((pt : Int) ≤ (pf : Int)) := by omega
      have e2 : ¬ ((p0 : Int) < 1) := by omega
      have e3 : ¬ ((7 : Int) < (p0 : Int)) := by omega
      clear hp p5 HK
      go_wp2
      go_roundw
      case rel => exact ⟨k + 1, pt, by go_num, rfl, by omega, p6, HN, hbl.alloc hbl.size _⟩
      case measure => simp [intOf]; omega
    · obtain rfl : q = k := by omega
      have hxe : x = n := by
        have := HK.out
        rw [List.drop_eq_nil_of_le (by rw [← HQ.out]; exact Nat.le_refl _)] at this
        exact this
      subst hxe
      have hbw := Below.more hb1 hbl
      clear hlt HK
      go_wp2_with (go_at_call 16; (with_reducible refine (HR.out _ hbw).mono ?_); rintro e w3 ⟨av, rfl, own3, hb3⟩; obtain ⟨ta, tc, rfl, htc⟩ := owns_slice own3)
      obtain ⟨qa, hqa⟩ : ∃ qa, qa = al.length := ⟨_, rfl⟩
      have HAO := Lib.hid (AtCells.of_owns own3)
      have HQA := Lib.hid hqa
      rw [← hqa] at own3 htc ⊢
      clear own3 hqa
      have hqb : qa ≤ 1000 := by have h1 := readP_len HRD.out; rw [← HQA.out, ← HQ.out] at h1; omega
      go_loopw [7, 9, 55] (fun ev _p i wr => ∃ (k y : Nat), i = .int .i64 k ∧ ev = .int .i64 y ∧ k ≤ qa ∧ Hid (achain y (al.drop k) e0) ∧ Below w3.heap.size w3 wr) (fun _ _ i _ => qa - (intOf i).toNat)
      case atStart => exact ⟨0, nm.2.2, rfl, rfl, Nat.zero_le _, Lib.hid HE.out, one_ok _ _⟩
      case round =>
        obtain ⟨k, y, rfl, rfl, hkq2, HK2, hbl2⟩ := hrel
        by_cases hlt2 : k < qa
        · obtain ⟨⟨⟨b0, b1, b2⟩, ⟨u0, u1, u2⟩, ⟨k0, k1, k2⟩⟩, hx⟩ : ∃ x, al[k]? = some x := ⟨_, List.getElem?_eq_getElem (by rw [← HQA.out]; exact hlt2)⟩
          have hat1 := HAO.out.below hbl2
          obtain ⟨tb, tao, rfl, _⟩ := hat1 (k * 9 + 0) (.int .i64 (b0 : Nat)) (by rw [attsCells_at al k _ 0 hx (by omega)]; rfl)
          have hat2 := hat1
          have d0 := att_cell hat2 hx 0 (by omega) (u := .int .i64 (b0 : Nat)) rfl
          have d1 := att_cell hat2 hx 1 (by omega) (u := .int .i64 (b1 : Nat)) rfl
          have d2 := att_cell hat2 hx 2 (by omega) (u := .int .i64 (b2 : Nat)) rfl
          have d3 := att_cell hat2 hx 3 (by omega) (u := .int .i64 (u0 : Nat)) rfl
          have d4 := att_cell hat2 hx 4 (by omega) (u := .int .i64 (u1 : Nat)) rfl
          have d5 := att_cell hat2 hx 5 (by omega) (u := .int .i64 (u2 : Nat)) rfl
          have d6 := att_cell hat2 hx 6 (by omega) (u := .int .i64 (k0 : Nat)) rfl
          have d7 := att_cell hat2 hx 7 (by omega) (u := .int .i64 (k1 : Nat)) rfl
          have d8 := att_cell hat2 hx 8 (by omega) (u := .int .i64 (k2 : Nat)) rfl
          obtain ⟨⟨q1, q2, q3, q4, q5, q6⟩, q7, q8⟩ := achain_drop hx HK2.out
          simp only at q1 q2 q3 q4 q5 q6 q7 q8
          subst q1
          subst q4
          rw [Nat.add_zero] at d0
          have HN := Lib.hid q7
          have hvlt2 := cell_lt d0
          have e1 : ¬ ((b1 : Int) ≤ (k1 : Int)) := by omega
          have e2 : ¬ ((u1 : Int) < (b2 : Int)) := by omega
          have e3 : ¬ ((u2 : Int) - (u1 : Int) < 2) := by omega
          clear hx q7 HK2 hat1 hat2
          go_wp2
          go_roundw
          case rel => exact ⟨k + 1, u2, by go_num, rfl, by omega, HN, hbl2.alloc hbl2.size _⟩
          case measure => simp [intOf]; omega
        · obtain rfl : qa = k := by omega
          have hye : y = e0 := by
            have := HK2.out
            rw [List.drop_eq_nil_of_le (by rw [← HQA.out]; exact Nat.le_refl _)] at this
            exact this
          subst hye
          have hbw2 := Below.more hbw (Below.more hb3 hbl2)
          clear hlt2 HK2
          go_wp2_with (go_at_call 15; (with_reducible refine (awakeT_any _).mono ?_); rintro e w4 ⟨rfl, hb4⟩)
          go_ret
          exact ⟨rfl, Below.more hbw2 hb4⟩

end Go.Proofs.Ytohiokmkecdgfaa
