/-
  TagReads: for every row of runes and any two places it returns true.
-/
import Derived.Test.YtblebkpnjeghoaaRefL
namespace Go.Proofs.Ytblebkpnjeghoaa
open Go.RowKit
set_option linter.unusedVariables false

set_option maxHeartbeats 1000000 in
theorem likeT_any (x0 x1 x2 : Nat) (w : World) :
    Calls Try.prog 47 #[parI x0 x1 x2, parI x0 x1 x2] w fun e w' => e = .returned (.bool true) ∧ Below w.heap.size w w' := by
  go_enter Try.func47, Try.ntmps47
  go_wp2
  go_ret
  exact ⟨rfl, two_ok _ _ _⟩

theorem wf_boundsR {zs : List Int} (h : ∀ z ∈ zs, (Lit.int .i32 z).wf = true) (m : Nat) (j : Nat) : -2147483648 ≤ (zs.take m).getD j 0 ∧ (zs.take m).getD j 0 ≤ 2147483647 := by
  by_cases hj : j < (zs.take m).length
  · rw [List.getD_eq_getElem?_getD, List.getElem?_eq_getElem hj]
    have := h _ (List.mem_of_mem_take (List.getElem_mem hj))
    simp [Lit.wf, IntKind.min, IntKind.max, IntKind.signed, IntKind.bits] at this ⊢
    omega
  · rw [List.getD_eq_getElem?_getD, List.getElem?_eq_none (by omega)]
    decide

theorem kp_bel {W W' : World} {a : Addr} {v : Value} (hb : Below W.heap.size W W') (h : W.cell? a = some v) : W'.cell? a = some v := by
  obtain ⟨b, off, spot⟩ := a
  obtain rfl : spot = none := World.cell?_spot h
  rw [hb.cell (p := ⟨b, off, none⟩) (cell_lt h)]
  exact h

theorem attsCellsR_at : ∀ (l : List AttA) (k : Nat) (x : AttA) (i : Nat), l[k]? = some x → i < 9 → (attsCells l)[k * 9 + i]? = (attCells x)[i]? := by
  intro l
  induction l with
  | nil => intro k x i h; simp at h
  | cons y l ih =>
    intro k x i h hi
    have hy : (attCells y).length = 9 := rfl
    have e : attsCells (y :: l) = attCells y ++ attsCells l := rfl
    rw [e]
    cases k with
    | zero =>
      simp at h; subst h
      rw [Nat.zero_mul, Nat.zero_add, List.getElem?_append_left (by omega)]
    | succ k =>
      simp at h
      rw [List.getElem?_append_right (by omega), hy, show (k + 1) * 9 + i - 9 = k * 9 + i by omega]
      exact ih k x i h hi
theorem attR_cell {w : World} {b off : Nat} {l : List AttA} (hat : AtCells w (some ⟨b, off, none⟩) (attsCells l)) {k : Nat} {x : AttA} (h : l[k]? = some x) (i : Nat) (hi : i < 9) {u : Value} (hu : (attCells x)[i]? = some u) : w.cell? ⟨b, off + k * 9 + i, none⟩ = some u := by
  obtain ⟨b', off', hy, hc⟩ := hat (k * 9 + i) u (by rw [attsCellsR_at l k x i h hi]; exact hu)
  simp only [Option.some.injEq, Addr.mk.injEq] at hy
  obtain ⟨rfl, rfl, _⟩ := hy
  rw [Nat.add_assoc]
  exact hc
theorem readPR_len {P : List PartA} {nm : PartA} {al : List AttA} {r m : Bool} (h : readP P = (nm, al, r, m)) : al.length ≤ P.length := by
  unfold readP at h
  have key : ∀ (hd n' : PartA) (Q1 : List PartA), takeP [1, 2] P = ([hd, n'], true, Q1) → (attrsP Q1).1.length ≤ P.length := by
    intro hd n' Q1 h1
    have a := takeP_len [1, 2] P
    rw [h1] at a
    exact Nat.le_trans (attrsP_len Q1) a
  split at h
  · rename_i hd n' Q1 h1
    have a := key hd n' Q1 h1
    split at h
    · split at h
      · simp only [Prod.mk.injEq] at h
        obtain ⟨_, rfl, _⟩ := h
        exact a
      · simp only [Prod.mk.injEq] at h
        obtain ⟨_, rfl, _⟩ := h
        exact a
    · simp only [Prod.mk.injEq] at h
      obtain ⟨_, rfl, _⟩ := h
      exact a
  · simp only [Prod.mk.injEq] at h
    obtain ⟨_, rfl, _⟩ := h
    exact Nat.zero_le _
theorem nine_cells {w : World} {A : Option Addr} {l : List AttA} (hat : AtCells w A (attsCells l)) {k : Nat} {b0 b1 b2 u0 u1 u2 k0 k1 k2 : Nat} (h : l[k]? = some ((b0, b1, b2), (u0, u1, u2), (k0, k1, k2))) :
    ∃ b off, A = some ⟨b, off, none⟩ ∧ w.cell? ⟨b, off + k * 9, none⟩ = some (.int .i64 b0) ∧ w.cell? ⟨b, off + k * 9 + 1, none⟩ = some (.int .i64 b1) ∧ w.cell? ⟨b, off + k * 9 + 2, none⟩ = some (.int .i64 b2) ∧ w.cell? ⟨b, off + k * 9 + 3, none⟩ = some (.int .i64 u0) ∧ w.cell? ⟨b, off + k * 9 + 4, none⟩ = some (.int .i64 u1) ∧ w.cell? ⟨b, off + k * 9 + 5, none⟩ = some (.int .i64 u2) ∧ w.cell? ⟨b, off + k * 9 + 6, none⟩ = some (.int .i64 k0) ∧ w.cell? ⟨b, off + k * 9 + 7, none⟩ = some (.int .i64 k1) ∧ w.cell? ⟨b, off + k * 9 + 8, none⟩ = some (.int .i64 k2) := by
  obtain ⟨tb, tao, rfl, _⟩ := hat (k * 9 + 0) (.int .i64 (b0 : Nat)) (by rw [attsCellsR_at l k _ 0 h (by omega)]; rfl)
  exact ⟨tb, tao, rfl, attR_cell hat h 0 (by omega) rfl, attR_cell hat h 1 (by omega) rfl, attR_cell hat h 2 (by omega) rfl, attR_cell hat h 3 (by omega) rfl, attR_cell hat h 4 (by omega) rfl, attR_cell hat h 5 (by omega) rfl, attR_cell hat h 6 (by omega) rfl, attR_cell hat h 7 (by omega) rfl, attR_cell hat h 8 (by omega) rfl⟩

set_option maxRecDepth 20000 in
set_option maxHeartbeats 8000000 in
theorem tagReads_any (a : Option Addr) (len cap : Nat) (zs : List Int) (f t : Int) (w : World) (hlen : zs.length = len) (hc : len ≤ cap) (hm : cap ≤ maxLen) (hat : AtCells w a (zs.map (.int .i32))) (hwf : ∀ z ∈ zs, (Lit.int .i32 z).wf = true) :
    Calls Try.prog 11 #[.slice a len cap, .int .i64 f, .int .i64 t] w fun e w' => e = .returned (.bool true) ∧ Below w.heap.size w w' := by
  have HF := Lib.hid (fewT_any a len cap w hc hm)
  obtain ⟨n, hn⟩ : ∃ n, n = min len 120 := ⟨_, rfl⟩
  obtain ⟨l, hl⟩ : ∃ l, l = zs.take 120 := ⟨_, rfl⟩
  have hln : l.length = n := by rw [hl, hn, List.length_take, hlen]; omega
  have hnc : n ≤ cap := by omega
  have hn120 : n ≤ 120 := by omega
  have hatl : AtCells w a (l.map (.int .i32)) := by rw [hl, List.map_take]; exact hat.take 120
  rw [← hn] at HF
  have hwl : ∀ j, -2147483648 ≤ l.getD j 0 ∧ l.getD j 0 ≤ 2147483647 := fun j => by rw [hl]; exact wf_boundsR hwf 120 j
  obtain ⟨P, hP⟩ : ∃ P, parts l f t = P := ⟨_, rfl⟩
  obtain ⟨⟨⟨m0, m1, m2⟩, al, r, m⟩, hR⟩ : ∃ x, readP P = x := ⟨_, rfl⟩
  have HA := Lib.hid (fun (w' : World) (hb : Below w.heap.size w w') => read_row a n cap l w' hln hnc hm (by omega) (hatl.below hb) f t (hP ▸ hR))
  have HB := Lib.hid (fun (w' : World) (hb : Below w.heap.size w w') => refRead_row a n cap l w' hln hnc hm (by omega) (hatl.below hb) hwl f t rfl (show readI (parts l f t) = ((m0, m1, m2), al, r, m) by rw [readI_parts, hP]; exact hR))
  have hq : al.length ≤ 121 := by have h1 := parts_len l f t; have h2 := readPR_len hR; rw [hP, hln] at h1; omega
  unfold maxLen at hm
  clear hat hlen hc hn hl hatl hln hP hwl hwf hR
  obtain ⟨q, hqe⟩ : ∃ q, q = al.length := ⟨_, rfl⟩
  have HQ := Lib.hid hqe
  rw [← hqe] at hq
  clear hqe
  go_enter Try.func11, Try.ntmps11
  go_wp2_with (first
    | (go_at_call 44; (with_reducible refine HF.out.mono ?_); rintro e w' ⟨rfl, rfl⟩)
    | (go_at_call 45; (with_reducible refine (HA.out _ (Below.refl _ _)).mono ?_); rintro e w1 ⟨v, rfl, hown, hb1⟩; obtain ⟨va, vc, rfl, hvc⟩ := owns_slice hown; rw [← HQ.out] at hown hvc ⊢)
    | (go_at_call 46; (with_reducible refine (HB.out _ hb1).mono ?_); rintro e w2 ⟨v2, rfl, hown2, hb2⟩; obtain ⟨va2, vc2, rfl, hvc2⟩ := owns_slice hown2; rw [← HQ.out] at hown2 hvc2 ⊢; have HA1 := Lib.hid ((AtCells.of_owns hown).below hb2); have HA2 := Lib.hid (AtCells.of_owns hown2); have hbw := Below.more hb1 hb2; clear hown hown2)
    | (go_at_call 47; (with_reducible refine (likeT_any m0 m1 m2 _).mono ?_); rintro e w3 ⟨rfl, hb3⟩; obtain ⟨c1, c2⟩ := bcell hb3; have hz := hb3.size))
  have hb23 : Below w2.heap.size w2 w3 := (((Below.refl _ _).alloc (Nat.le_refl _) _).alloc (by simp) _).trans (hb3.mono (by simp; omega))
  have x3 : w3.cell? ⟨w2.heap.size, 3, none⟩ = some (.slice va q vc) := by rw [c1 _ _ (by simp; omega)]; simp
  have HX := Lib.hid x3
  have HA3 := Lib.hid (HA1.out.below hb23)
  have HA4 := Lib.hid (HA2.out.below hb23)
  have hbw3 := Below.more hbw hb23
  have hzz : w2.heap.size < w3.heap.size := by simp at hz; omega
  generalize hg : w2.heap.size = g at HX hzz ⊢
  clear c1 c2 hb3 hz x3 HA1 HA2 hbw hb23 hb2 hg hb1
  go_loopw [9, 10, 53] (fun _s9 _s10 i wr => ∃ k : Nat, i = .int .i64 k ∧ k ≤ q ∧ Below w3.heap.size w3 wr) (fun _ _ i _ => q - (intOf i).toNat)
  case atStart => exact ⟨0, rfl, Nat.zero_le _, Below.refl _ _⟩
  case round =>
    obtain ⟨k, rfl, hkq, hbl⟩ := hrel
    by_cases hlt : k < q
    · obtain ⟨⟨⟨b0, b1, b2⟩, ⟨u0, u1, u2⟩, ⟨k0, k1, k2⟩⟩, hx⟩ : ∃ x, al[k]? = some x := ⟨_, List.getElem?_eq_getElem (by rw [← HQ.out]; exact hlt)⟩
      obtain ⟨vb, vo, rfl, a0, a1, a2, a3, a4, a5, a6, a7, a8⟩ := nine_cells (HA3.out.below hbl) hx
      obtain ⟨rb, ro, rfl, d0, d1, d2, d3, d4, d5, d6, d7, d8⟩ := nine_cells (HA4.out.below hbl) hx
      have x3 := kp_bel hbl HX.out
      have l1 := cell_lt a0
      have l2 := cell_lt d0
      have l3 := cell_lt x3
      have i1 : (k : Int) < (q : Int) := by omega
      clear hx
      go_wp2
      obtain ⟨W1, hW1⟩ : ∃ W1, W1 = wr.alloc (.cells #[.int .i64 (b0 : Nat), .int .i64 (b1 : Nat), .int .i64 (b2 : Nat), .int .i64 (u0 : Nat), .int .i64 (u1 : Nat), .int .i64 (u2 : Nat), .int .i64 (k0 : Nat), .int .i64 (k1 : Nat), .int .i64 (k2 : Nat)] 87) := ⟨_, rfl⟩
      have hbA : Below wr.heap.size wr W1 := by rw [hW1]; exact one_ok _ _
      have z0 : W1.cell? ⟨wr.heap.size, 0, none⟩ = some (.int .i64 b0) := by rw [hW1]; simp
      have z1 : W1.cell? ⟨wr.heap.size, 1, none⟩ = some (.int .i64 b1) := by rw [hW1]; simp
      have z2 : W1.cell? ⟨wr.heap.size, 2, none⟩ = some (.int .i64 b2) := by rw [hW1]; simp
      have z3 : W1.cell? ⟨wr.heap.size, 3, none⟩ = some (.int .i64 u0) := by rw [hW1]; simp
      have z4 : W1.cell? ⟨wr.heap.size, 4, none⟩ = some (.int .i64 u1) := by rw [hW1]; simp
      have z5 : W1.cell? ⟨wr.heap.size, 5, none⟩ = some (.int .i64 u2) := by rw [hW1]; simp
      have z6 : W1.cell? ⟨wr.heap.size, 6, none⟩ = some (.int .i64 k0) := by rw [hW1]; simp
      have z7 : W1.cell? ⟨wr.heap.size, 7, none⟩ = some (.int .i64 k1) := by rw [hW1]; simp
      have z8 : W1.cell? ⟨wr.heap.size, 8, none⟩ = some (.int .i64 k2) := by rw [hW1]; simp
      replace a0 := kp_bel hbA a0
      replace a1 := kp_bel hbA a1
      replace a2 := kp_bel hbA a2
      replace a3 := kp_bel hbA a3
      replace a4 := kp_bel hbA a4
      replace a5 := kp_bel hbA a5
      replace a6 := kp_bel hbA a6
      replace a7 := kp_bel hbA a7
      replace a8 := kp_bel hbA a8
      replace x3 := kp_bel hbA x3
      clear d0 d1 d2 d3 d4 d5 d6 d7 d8
      rw [← hW1]
      clear hW1
      have HBA := Lib.hid hbA
      clear hbA
      go_region_held_law (fun W => W.cell? ⟨g, 3, none⟩ = some (.slice (some ⟨vb, vo, none⟩) q vc) ∧ W.cell? ⟨vb, vo + k * 9, none⟩ = some (.int .i64 b0) ∧ W.cell? ⟨vb, vo + k * 9 + 1, none⟩ = some (.int .i64 b1) ∧ W.cell? ⟨vb, vo + k * 9 + 2, none⟩ = some (.int .i64 b2) ∧ W.cell? ⟨vb, vo + k * 9 + 3, none⟩ = some (.int .i64 u0) ∧ W.cell? ⟨vb, vo + k * 9 + 4, none⟩ = some (.int .i64 u1) ∧ W.cell? ⟨vb, vo + k * 9 + 5, none⟩ = some (.int .i64 u2) ∧ W.cell? ⟨vb, vo + k * 9 + 6, none⟩ = some (.int .i64 k0) ∧ W.cell? ⟨vb, vo + k * 9 + 7, none⟩ = some (.int .i64 k1) ∧ W.cell? ⟨vb, vo + k * 9 + 8, none⟩ = some (.int .i64 k2) ∧ W.cell? ⟨wr.heap.size, 0, none⟩ = some (.int .i64 b0) ∧ W.cell? ⟨wr.heap.size, 1, none⟩ = some (.int .i64 b1) ∧ W.cell? ⟨wr.heap.size, 2, none⟩ = some (.int .i64 b2) ∧ W.cell? ⟨wr.heap.size, 3, none⟩ = some (.int .i64 u0) ∧ W.cell? ⟨wr.heap.size, 4, none⟩ = some (.int .i64 u1) ∧ W.cell? ⟨wr.heap.size, 5, none⟩ = some (.int .i64 u2) ∧ W.cell? ⟨wr.heap.size, 6, none⟩ = some (.int .i64 k0) ∧ W.cell? ⟨wr.heap.size, 7, none⟩ = some (.int .i64 k1) ∧ W.cell? ⟨wr.heap.size, 8, none⟩ = some (.int .i64 k2))
        ((refine ⟨?_, ?_, ?_, ?_, ?_, ?_, ?_, ?_, ?_, ?_, ?_, ?_, ?_, ?_, ?_, ?_, ?_, ?_, ?_⟩ <;> (repeat (first | (with_reducible assumption) | (with_reducible refine kp_drew ?_) | (with_reducible refine kp_bel (by with_reducible assumption) ?_)))))
        (first
          | (go_at_call 47; (with_reducible refine (likeT_any b0 b1 b2 _).mono ?_); rintro e w4 ⟨rfl, hb4⟩)
          | (go_at_call 47; (with_reducible refine (likeT_any u0 u1 u2 _).mono ?_); rintro e w5 ⟨rfl, hb5⟩)
          | (go_at_call 47; (with_reducible refine (likeT_any k0 k1 k2 _).mono ?_); rintro e w6 ⟨rfl, hb6⟩))
      go_wp2
      exact ⟨⟨k + 1, by go_num, by omega, Below.more hbl (Below.more HBA.out (Below.more (((Below.refl W1.heap.size W1).drew).trans hb4) (Below.more hb5 hb6)))⟩, by simp [intOf]; omega⟩
    · obtain rfl : q = k := by omega
      clear hlt
      go_wp2_with (go_at_call 48; (with_reducible refine (awakeT_any _).mono ?_); rintro e w4 ⟨rfl, hb4⟩)
      go_ret
      exact ⟨rfl, Below.more (Below.more hbw3 hbl) hb4⟩

end Go.Proofs.Ytblebkpnjeghoaa
