/-
  SpliceApplies: for every row of bytes and every row of changes it returns true.
-/
import Derived.Test.YtbljgoieieoamaaSqW
namespace Go.Proofs.Ytbljgoieieoamaa
open Go.Shelf Go.RowKit Go.Lib Go.Sort
set_option linter.unusedVariables false

theorem apply_split (a : Option Addr) (m cap : Nat) (B : List Int) (q : Nat) (l : List Chg) (hl : l.length = q) (hq8 : q ≤ 8) (hB : B.length = m) (hsh : ∀ x ∈ l, x.2.2.2.2.length ≤ 80) :
    (∃ k : Int, (∀ W v base, RowB W a m cap B → W.ownsRow base 39 3 v q (cellsC l) → Held W W.heap.size l → Calls Try.prog 14 #[.slice a m cap, v] W fun e w' => e = .returned (.tuple #[.slice none 0 0, .slice none 0 0, .int .i64 k]) ∧ Below W.heap.size W w') ∧
      (∀ W a2 c2, RowB W a m cap B → AtCells W a2 (cellsC l) → q ≤ c2 → Calls Try.prog 16 #[.slice a m cap, .slice a2 q c2] W fun e w' => e = .returned (.tuple #[.slice none 0 0, .slice none 0 0, .int .i64 k]) ∧ Below W.heap.size W w')) ∨
    (∃ C Kp, Yes B l C Kp ∧ (∀ W a2 c2, RowB W a m cap B → AtCells W a2 (cellsC l) → q ≤ c2 → Held W W.heap.size l → Calls Try.prog 16 #[.slice a m cap, .slice a2 q c2] W fun e w' => ∃ v9 v10 K, e = .returned (.tuple #[v9, v10, .int .i64 0]) ∧ w'.ownsRow W.heap.size 5 1 v9 C.length (C.map (.int .u8)) ∧ w'.ownsRow W.heap.size 66 3 v10 q (cellsC K) ∧ K.map img = Kp ∧ (∀ x ∈ K, BytesW w' x) ∧ Below W.heap.size W w')) := by
  by_cases hbad : ∃ x ∈ l, badC x
  · refine .inl ⟨3, fun W v base R own hh => ?_, fun W a2 c2 R hat hc => ?_⟩
    · obtain ⟨a3, c3, rfl, _⟩ := owns_slice own
      exact apC_refused a m cap _ 3 (by decide) W (psC_bad a3 q c3 l W hl (by omega) (AtCells.of_owns own) hbad)
    · refine raC_refused a m cap _ 3 (by decide) W ((rsC_main a2 q c2 l W hl (by omega) hc hat).mono ?_)
      rintro e w' ⟨⟨_, h⟩ | ⟨h, _⟩, hb⟩
      · exact ⟨h, hb⟩
      · obtain ⟨x, hx, hx2⟩ := hbad; exact absurd hx2 (h x hx)
  · have hgood : ∀ x ∈ l, ¬ badC x := fun x hx hb => hbad ⟨x, hx, hb⟩
    cases htk : takenC 0 (isort ltC l) with
    | true =>
      refine .inl ⟨9, fun W v base R own hh => ?_, fun W a2 c2 R hat hc => ?_⟩
      · refine apC_refused a m cap _ 9 (by decide) W ((psC_own own hl (by omega) hgood hh).mono ?_)
        rintro e w' ⟨⟨_, h1⟩ | ⟨h1, _⟩, hb⟩
        · exact ⟨h1, hb⟩
        · rw [htk] at h1; cases h1
      · refine raC_refused a m cap _ 9 (by decide) W ((rsC_main a2 q c2 l W hl (by omega) hc hat).mono ?_)
        rintro e w' ⟨⟨h, _⟩ | ⟨_, ⟨_, h1⟩ | ⟨h1, _⟩⟩, hb⟩
        · exact absurd h hbad
        · exact ⟨h1, hb⟩
        · rw [htk] at h1; cases h1
    | false =>
      have hrs : ∀ W a2 c2, AtCells W a2 (cellsC l) → q ≤ c2 → Calls Try.prog 37 #[.slice a2 q c2] W fun e w' => ∃ v, e = .returned (.tuple #[v, .int .i64 0]) ∧ w'.ownsRow W.heap.size 66 3 v q (cellsC (isort ltC l)) ∧ Below W.heap.size W w' := fun W a2 c2 hat hc => (rsC_main a2 q c2 l W hl (by omega) hc hat).mono fun e w' h => by
        obtain ⟨⟨h, _⟩ | ⟨_, ⟨h1, _⟩ | ⟨_, v, h1, h2⟩⟩, hb⟩ := h
        · exact absurd h hbad
        · rw [htk] at h1; cases h1
        · exact ⟨v, h1, h2, hb⟩
      have hSl : (isort ltC l).length = q := by rw [isort_length, hl]
      by_cases hbe : ∃ x ∈ isort ltC l, (m : Int) < x.2.1
      · refine .inl ⟨3, fun W v base R own hh => ?_, fun W a2 c2 R hat hc => ?_⟩
        · refine (apC_main a m cap B v q l W R.nil R.length R.few R.le R.max R.at_ hl (by omega) (psC_own own hl (by omega) hgood hh) hgood htk).mono ?_
          rintro e w' ⟨⟨_, h1⟩ | ⟨v9, v10, C', K, hap, _⟩, hb⟩
          · exact ⟨h1, hb⟩
          · rw [apP_none B _ _ _ _ (by obtain ⟨x, hx, hx2⟩ := hbe; exact ⟨img x, List.mem_map.2 ⟨x, hx, rfl⟩, by rw [hB]; exact hx2⟩)] at hap
            cases hap
        · exact raC_beyond a m cap _ q (isort ltC l) W (by omega) hSl (hrs W a2 c2 hat hc) hbe
      · have hok : ∀ x ∈ isort ltC l, x.2.1 ≤ (m : Int) := fun x hx => by
          rcases Int.lt_or_le (m : Int) x.2.1 with h | h
          · exact absurd ⟨x, hx, h⟩ hbe
          · exact h
        have hch := chP_of (isort ltC l) 0 htk (fun x hx => hgood x (mem_isort.1 hx))
        have hap := apP_rev B ((isort ltC l).map img) 0 [] [] (Nat.zero_le _) hch (fun x hx => by
          obtain ⟨y, hy, rfl⟩ := List.mem_map.1 hx
          rw [hB]; exact hok y hy)
        simp only [List.nil_append, List.drop_zero, List.length_nil, Int.natCast_zero, Int.sub_self] at hap
        refine .inr ⟨_, _, ⟨hgood, htk, hap⟩, fun W a2 c2 R hat hc hh => ?_⟩
        refine (raC_main _ q (isort ltC l) W R (by omega) hSl (hrs W a2 c2 hat hc) (fun x hx => hh x (mem_isort.1 hx)) (fun x hx => hsh x (mem_isort.1 hx)) hch hok).mono ?_
        rintro e w' ⟨v9, v10, K, h1, h2, h3, h4, h5, h6⟩
        exact ⟨v9, v10, K, h1, h2, h3, h4, h5, h6⟩

theorem held_wa {w : World} {g : Nat} {L : List Chg} (h : Held w g L) : ∀ x ∈ L, BytesW w x := fun x hx => ⟨(h x hx).at_, (h x hx).le, (h x hx).max⟩

theorem row80s {w : World} {a : Option Addr} {len cap : Nat} {zs : List Int} (w0 : Arg .u8 w a len cap zs) : RowB w a (min len 80) cap (zs.take 80) :=
  ⟨w0.nil, by rw [List.length_take, w0.length]; omega, by omega, by have := w0.le; omega, w0.max, by rw [List.map_take]; exact w0.cells.take 80⟩

set_option maxRecDepth 20000 in
set_option maxHeartbeats 4000000 in
theorem spliceApplies_any (a : Option Addr) (len cap : Nat) (zs : List Int) (a1 : Option Addr) (n c : Nat) (L : List Chg) (w : World) (w0 : Arg .u8 w a len cap zs) (w1 : ArgC w a1 n c L) :
    Calls Try.prog 3 #[.slice a len cap, .slice a1 n c] w fun e w' => e = .returned (.bool true) ∧ Below w.heap.size w w' := by
  have R := row80s w0
  obtain ⟨m, hm⟩ : ∃ m, m = min len 80 := ⟨_, rfl⟩
  obtain ⟨B, hB⟩ : ∃ B, B = zs.take 80 := ⟨_, rfl⟩
  rw [← hm, ← hB] at R
  have HS := Lib.hid (fun (W : World) => hm ▸ short_any a len cap W w0.le w0.max)
  have hlen8 := fewL_length w1.len
  have HF := Lib.hid (few_any a1 n c L w w1.len (Nat.le_trans w1.le w1.max) w1.at_ (fun x hx => ⟨(w1.held x hx).le, (w1.held x hx).max⟩))
  have HH := Lib.hid (fun (W : World) (hb : Below w.heap.size w W) => fewL_held w1.held hb)
  have hsh : ∀ x ∈ fewL L, x.2.2.2.2.length ≤ 80 := fun x hx => fewL_short hx
  obtain ⟨q, hq⟩ : ∃ q, q = min n 8 := ⟨_, rfl⟩
  have hq8 : q ≤ 8 := by omega
  obtain ⟨l, hl⟩ : ∃ l, l = fewL L := ⟨_, rfl⟩
  have hfl : fewL L = (L.take 8).map shC := rfl
  rw [← hfl] at HF
  rw [← hl, ← hq] at HF
  rw [← hl] at HH hlen8 hsh
  rw [← hq] at hlen8
  have hcs := apply_split a m cap B q l hlen8 hq8 R.length hsh
  have HL := Lib.hid hlen8
  have HR := Lib.hid R
  clear hm hB w0 w1 hlen8 hq hl hfl R hsh
  rcases hcs with ⟨k, hp, hr⟩ | ⟨C, Kp, hy, hr⟩
  · have HP := Lib.hid hp
    have HQ := Lib.hid hr
    have HSM := Lib.hid (fun (W : World) => same_true none none 0 0 0 [] [] W rfl (by omega) (fun j u hj => by simp [cellsC] at hj) (fun j u hj => by simp [cellsC] at hj) rfl (fun x hx => by simp at hx) (fun x hx => by simp at hx))
    clear hp hr
    go_enter Try.func3, Try.ntmps3
    go_wp2_with (first
      | (go_at_call 12; (with_reducible refine (HS.out _).mono ?_); rintro e w' ⟨rfl, rfl⟩)
      | (go_at_call 13; (with_reducible refine HF.out.mono ?_); rintro e w1 ⟨v1, rfl, own1, hb1⟩; obtain ⟨b1, d1, rfl, hd1⟩ := owns_slice own1; have HO1 := Lib.hid (And.intro own1 (And.intro hb1 hd1)); clear own1 hb1 hd1)
      | (go_at_call 15; (with_reducible refine (ours_any _ _ _ l w1 HL.out (by omega) (AtCells.of_owns HO1.out.1)).mono ?_); rintro e w2 ⟨v2, rfl, own2, hb2⟩; have HO2 := Lib.hid (And.intro own2 (And.intro hb2 (Below.more HO1.out.2.1 hb2))); clear own2 hb2)
      | (go_at_call 14; (with_reducible refine (HP.out _ _ _ (HR.out.below HO2.out.2.2) HO2.out.1 (HH.out _ HO2.out.2.2)).mono ?_); rintro e w3 ⟨rfl, hb3⟩; have HB3 := Lib.hid (And.intro (Below.more HO2.out.2.1 hb3) (Below.more HO2.out.2.2 hb3)); clear hb3)
      | (go_at_call 16; (with_reducible refine (HQ.out _ _ _ (HR.out.below HB3.out.2) ((AtCells.of_owns HO1.out.1).below HB3.out.1) HO1.out.2.2).mono ?_); rintro e w4 ⟨rfl, hb4⟩; have HB4 := Lib.hid (Below.more HB3.out.2 hb4); have r1 := run_strB (P := Try.prog) w4 22 5 9 Try.underlying22 Try.underlying5 Try.underlying9 none 0 0 [] rfl (AtCells.nil _ _); clear hb4)
      | (go_at_call 17; (with_reducible refine (HSM.out _).mono ?_); rintro e w5 ⟨rfl, hb5⟩; have HB5 := Lib.hid (Below.more HB4.out hb5); clear hb5)
      | (go_at_call 18; (with_reducible refine (awake12_any _).mono ?_); rintro e w6 ⟨rfl, hb6⟩; have HB6 := Lib.hid (Below.more HB5.out hb6); clear hb6))
    go_ret
    exact ⟨rfl, HB6.out⟩
  · have HY := Lib.hid hy
    have HQ := Lib.hid hr
    obtain ⟨S, hS⟩ : ∃ S, S = strOfNums C := ⟨_, rfl⟩
    have HST := Lib.hid (fun (W : World) (a9 : Option Addr) (c9 : Nat) (hat : AtCells W a9 (C.map (.int .u8))) => show Sem.run Try.prog (convert 22 9 (.slice a9 C.length c9)) W = .ok (.string S) W from by
      rw [hS]; exact run_strB W 22 5 9 Try.underlying22 Try.underlying5 Try.underlying9 a9 C.length c9 C rfl hat)
    clear hy hr hS
    go_enter Try.func3, Try.ntmps3
    go_wp2_with (first
      | (go_at_call 12; (with_reducible refine (HS.out _).mono ?_); rintro e w' ⟨rfl, rfl⟩)
      | (go_at_call 13; (with_reducible refine HF.out.mono ?_); rintro e w1 ⟨v1, rfl, own1, hb1⟩; obtain ⟨b1, d1, rfl, hd1⟩ := owns_slice own1; have HO1 := Lib.hid (And.intro own1 (And.intro hb1 hd1)); clear own1 hb1 hd1)
      | (go_at_call 15; (with_reducible refine (ours_any _ _ _ l w1 HL.out (by omega) (AtCells.of_owns HO1.out.1)).mono ?_); rintro e w2 ⟨v2, rfl, own2, hb2⟩; have HO2 := Lib.hid (And.intro own2 (And.intro hb2 (Below.more HO1.out.2.1 hb2))); clear own2 hb2)
      | (go_at_call 14; (with_reducible refine (apply_yes (HR.out.below HO2.out.2.2) HO2.out.1 HL.out (by omega) (HH.out _ HO2.out.2.2) HY.out).mono ?_); rintro e w3 ⟨v9, v10, K, rfl, o9, o10, hK, hh, hb3⟩; obtain ⟨a9, c9, rfl, hc9⟩ := owns_slice o9; obtain ⟨a10, c10, rfl, hc10⟩ := owns_slice o10; have HB3 := Lib.hid (And.intro (Below.more HO2.out.2.1 hb3) (Below.more HO2.out.2.2 hb3)); have HO3 := Lib.hid (And.intro (AtCells.of_owns o9) (And.intro (AtCells.of_owns o10) (And.intro hK (held_wa hh)))); clear o9 o10 hK hh hb3 hc9 hc10)
      | (go_at_call 16; (with_reducible refine (HQ.out _ _ _ (HR.out.below HB3.out.2) ((AtCells.of_owns HO1.out.1).below HB3.out.1) HO1.out.2.2 (HH.out _ HB3.out.2)).mono ?_); rintro e w4 ⟨u9, u10, K4, rfl, o9, o10, hK, hh, hb4⟩; obtain ⟨e9, f9, rfl, hf9⟩ := owns_slice o9; obtain ⟨e10, f10, rfl, hf10⟩ := owns_slice o10; have HB4 := Lib.hid (Below.more HB3.out.2 hb4); have r1 := HST.out w4 e9 f9 (AtCells.of_owns o9); have r2 := HST.out w4 a9 c9 (HO3.out.1.below hb4); have HSM := Lib.hid (same_true a10 e10 q c10 f10 K K4 w4 (kp_len HY.out HO3.out.2.2.1 HL.out) (by omega) (HO3.out.2.1.below hb4) (AtCells.of_owns o10) (HO3.out.2.2.1.trans hK.symm) (fun x hx => (HO3.out.2.2.2 x hx).below hb4) hh); clear o9 o10 hK hh hb4 hf9 hf10)
      | (go_at_call 17; (with_reducible refine HSM.out.mono ?_); rintro e w5 ⟨rfl, hb5⟩; have HB5 := Lib.hid (Below.more HB4.out hb5); clear hb5)
      | (go_at_call 18; (with_reducible refine (awake12_any _).mono ?_); rintro e w6 ⟨rfl, hb6⟩; have HB6 := Lib.hid (Below.more HB5.out hb6); clear hb6))
    go_ret
    exact ⟨rfl, HB6.out⟩

end Go.Proofs.Ytbljgoieieoamaa
