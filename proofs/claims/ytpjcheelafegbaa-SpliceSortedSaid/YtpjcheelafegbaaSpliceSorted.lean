/-
  SpliceSorted: for every row of changes it returns true.
-/
import Derived.Test.YtpjcheelafegbaaSqL
import Derived.Test.YtpjcheelafegbaaSqR
namespace Go.Proofs.Ytpjcheelafegbaa
open Go.Shelf Go.RowKit Go.Lib Go.Sort
set_option linter.unusedVariables false

theorem held_w {w : World} {g : Nat} {L : List Chg} (h : Held w g L) : ∀ x ∈ L, BytesW w x := fun x hx => ⟨(h x hx).at_, (h x hx).le, (h x hx).max⟩
theorem bytesW_mem {w : World} {L L' : List Chg} (h : ∀ x ∈ L', BytesW w x) (hs : ∀ x ∈ L, x ∈ L') : ∀ x ∈ L, BytesW w x := fun x hx => h x (hs x hx)


set_option maxRecDepth 20000 in
set_option maxHeartbeats 4000000 in
theorem spliceSorted_any (a1 : Option Addr) (n c : Nat) (L : List Chg) (w : World) (w1 : ArgC w a1 n c L) :
    Calls Try.prog 7 #[.slice a1 n c] w fun e w' => e = .returned (.bool true) ∧ Below w.heap.size w w' := by
  have hlen8 := fewL_length w1.len
  have HF := Lib.hid (few_any a1 n c L w w1.len (Nat.le_trans w1.le w1.max) w1.at_ (fun x hx => ⟨(w1.held x hx).le, (w1.held x hx).max⟩))
  have HH := Lib.hid (fun (W : World) (hb : Below w.heap.size w W) => fewL_held w1.held hb)
  obtain ⟨q, hq⟩ : ∃ q, q = min n 8 := ⟨_, rfl⟩
  have hq8 : q ≤ 8 := by omega
  obtain ⟨l, hl⟩ : ∃ l, l = fewL L := ⟨_, rfl⟩
  have hfl : fewL L = (L.take 8).map shC := rfl
  rw [← hfl] at HF
  rw [← hl, ← hq] at HF
  rw [← hl] at HH hlen8
  rw [← hq] at hlen8
  have HL := Lib.hid hlen8
  clear w1 hlen8 hq hl hfl
  have hcs : (∃ k : Int, (∀ W v base, W.ownsRow base 64 3 v q (cellsC l) → Held W W.heap.size l → Calls Try.prog 25 #[v] W fun e w' => e = .returned (.tuple #[.slice none 0 0, .int .i64 k]) ∧ Below W.heap.size W w') ∧ (∀ W a c, AtCells W a (cellsC l) → q ≤ c → Calls Try.prog 27 #[.slice a q c] W fun e w' => e = .returned (.tuple #[.slice none 0 0, .int .i64 k]) ∧ Below W.heap.size W w')) ∨
      ((∀ W v base, W.ownsRow base 64 3 v q (cellsC l) → Held W W.heap.size l → Calls Try.prog 25 #[v] W fun e w' => ∃ v L' g, e = .returned (.tuple #[v, .int .i64 0]) ∧ w'.ownsRow W.heap.size 64 3 v q (cellsC L') ∧ L'.map img = (isort ltC l).map img ∧ Held w' g L' ∧ Below W.heap.size W w') ∧ (∀ W a c, AtCells W a (cellsC l) → q ≤ c → Calls Try.prog 27 #[.slice a q c] W fun e w' => ∃ v, e = .returned (.tuple #[v, .int .i64 0]) ∧ w'.ownsRow W.heap.size 86 3 v q (cellsC (isort ltC l)) ∧ Below W.heap.size W w')) := by
    by_cases hbad : ∃ x ∈ l, badC x
    · refine .inl ⟨3, fun W v base own hh => ?_, fun W a c hat hc => ?_⟩
      · obtain ⟨a2, c2, rfl, _⟩ := owns_slice own
        exact psC_bad a2 q c2 l W HL.out (by omega) (AtCells.of_owns own) hbad
      · refine (rsC_main a q c l W HL.out (by omega) hc hat).mono ?_
        rintro e w' ⟨⟨_, h⟩ | ⟨h, _⟩, hb⟩
        · exact ⟨h, hb⟩
        · obtain ⟨x, hx, hx2⟩ := hbad; exact absurd hx2 (h x hx)
    · have hgood : ∀ x ∈ l, ¬ badC x := fun x hx hb => hbad ⟨x, hx, hb⟩
      cases htk : takenC 0 (isort ltC l) with
      | true =>
        refine .inl ⟨9, fun W v base own hh => ?_, fun W a c hat hc => ?_⟩
        · refine (psC_own own HL.out (by omega) hgood hh).mono ?_
          rintro e w' ⟨⟨_, h1⟩ | ⟨h1, _⟩, hb⟩
          · exact ⟨h1, hb⟩
          · rw [htk] at h1; cases h1
        · refine (rsC_main a q c l W HL.out (by omega) hc hat).mono ?_
          rintro e w' ⟨⟨h, _⟩ | ⟨_, ⟨_, h1⟩ | ⟨h1, _⟩⟩, hb⟩
          · exact absurd h hbad
          · exact ⟨h1, hb⟩
          · rw [htk] at h1; cases h1
      | false =>
        refine .inr ⟨fun W v base own hh => ?_, fun W a c hat hc => ?_⟩
        · refine (psC_own own HL.out (by omega) hgood hh).mono ?_
          rintro e w' ⟨⟨h1, _⟩ | ⟨_, v, L', g, h1, h2, h3, h4⟩, hb⟩
          · rw [htk] at h1; cases h1
          · exact ⟨v, L', g, h1, h2, h3, h4, hb⟩
        · refine (rsC_main a q c l W HL.out (by omega) hc hat).mono ?_
          rintro e w' ⟨⟨h, _⟩ | ⟨_, ⟨h1, _⟩ | ⟨_, v, h1, h2⟩⟩, hb⟩
          · exact absurd h hbad
          · rw [htk] at h1; cases h1
          · exact ⟨v, h1, h2, hb⟩
  rcases hcs with ⟨k, hp, hr⟩ | ⟨hp, hr⟩
  · have HP := Lib.hid hp
    have HR := Lib.hid hr
    have HSM := Lib.hid (fun (W : World) => same_true none none 0 0 0 [] [] W rfl (by omega) (fun j u hj => by simp [cellsC] at hj) (fun j u hj => by simp [cellsC] at hj) rfl (fun x hx => by simp at hx) (fun x hx => by simp at hx))
    clear hp hr
    go_enter Try.func7, Try.ntmps7
    go_wp2_with (first
      | (go_at_call 24; (with_reducible refine HF.out.mono ?_); rintro e w1 ⟨v1, rfl, own1, hb1⟩; obtain ⟨b1, d1, rfl, hd1⟩ := owns_slice own1; have HO1 := Lib.hid (And.intro own1 (And.intro hb1 hd1)); clear own1 hb1 hd1)
      | (go_at_call 26; (with_reducible refine (ours_any _ _ _ l w1 HL.out (by omega) (AtCells.of_owns HO1.out.1)).mono ?_); rintro e w2 ⟨v2, rfl, own2, hb2⟩; have HO2 := Lib.hid (And.intro own2 (And.intro hb2 (Below.more HO1.out.2.1 hb2))); clear own2 hb2)
      | (go_at_call 25; (with_reducible refine (HP.out _ _ _ HO2.out.1 (HH.out _ HO2.out.2.2)).mono ?_); rintro e w3 ⟨rfl, hb3⟩; have HB3 := Lib.hid (And.intro (Below.more HO2.out.2.1 hb3) (Below.more HO2.out.2.2 hb3)); clear hb3)
      | (go_at_call 27; (with_reducible refine (HR.out _ _ _ ((AtCells.of_owns HO1.out.1).below HB3.out.1) HO1.out.2.2).mono ?_); rintro e w4 ⟨rfl, hb4⟩; have HB4 := Lib.hid (Below.more HB3.out.2 hb4); clear hb4)
      | (go_at_call 28; (with_reducible refine (HSM.out _).mono ?_); rintro e w5 ⟨rfl, hb5⟩; have HB5 := Lib.hid (Below.more HB4.out hb5); clear hb5)
      | (go_at_call 29; (with_reducible refine (awake12_any _).mono ?_); rintro e w6 ⟨rfl, hb6⟩; have HB6 := Lib.hid (Below.more HB5.out hb6); clear hb6))
    go_ret
    exact ⟨rfl, HB6.out⟩
  · have HP := Lib.hid hp
    have HR := Lib.hid hr
    clear hp hr
    go_enter Try.func7, Try.ntmps7
    go_wp2_with (first
      | (go_at_call 24; (with_reducible refine HF.out.mono ?_); rintro e w1 ⟨v1, rfl, own1, hb1⟩; obtain ⟨b1, d1, rfl, hd1⟩ := owns_slice own1; have HO1 := Lib.hid (And.intro own1 (And.intro hb1 hd1)); clear own1 hb1 hd1)
      | (go_at_call 26; (with_reducible refine (ours_any _ _ _ l w1 HL.out (by omega) (AtCells.of_owns HO1.out.1)).mono ?_); rintro e w2 ⟨v2, rfl, own2, hb2⟩; have HO2 := Lib.hid (And.intro own2 (And.intro hb2 (Below.more HO1.out.2.1 hb2))); clear own2 hb2)
      | (go_at_call 25; (with_reducible refine (HP.out _ _ _ HO2.out.1 (HH.out _ HO2.out.2.2)).mono ?_); rintro e w3 ⟨v3, L3, g3, rfl, o3, him, hh3, hb3⟩; obtain ⟨a3, c3, rfl, hc3⟩ := owns_slice o3; have HB3 := Lib.hid (And.intro (Below.more HO2.out.2.1 hb3) (Below.more HO2.out.2.2 hb3)); have HO3 := Lib.hid (And.intro (AtCells.of_owns o3) (And.intro him hh3)); clear o3 him hh3 hb3 hc3)
      | (go_at_call 27; (with_reducible refine (HR.out _ _ _ ((AtCells.of_owns HO1.out.1).below HB3.out.1) HO1.out.2.2).mono ?_); rintro e w4 ⟨v4, rfl, o4, hb4⟩; obtain ⟨a4, c4, rfl, hc4⟩ := owns_slice o4; have HB4 := Lib.hid (Below.more HB3.out.2 hb4); have HSM := Lib.hid (same_true a3 a4 q c3 c4 L3 (isort ltC l) w4 (by have h := congrArg List.length HO3.out.2.1; (rw [List.length_map, List.length_map, isort_length, HL.out] at h); exact h) (by omega) (HO3.out.1.below hb4) (AtCells.of_owns o4) HO3.out.2.1 (fun x hx => (held_w HO3.out.2.2 x hx).below hb4) (fun x hx => held_w (HH.out _ HB4.out) x (mem_isort.1 hx))); clear o4 hb4 hc4)
      | (go_at_call 28; (with_reducible refine HSM.out.mono ?_); rintro e w5 ⟨rfl, hb5⟩; have HB5 := Lib.hid (Below.more HB4.out hb5); clear hb5)
      | (go_at_call 29; (with_reducible refine (awake12_any _).mono ?_); rintro e w6 ⟨rfl, hb6⟩; have HB6 := Lib.hid (Below.more HB5.out hb6); clear hb6))
    go_ret
    exact ⟨rfl, HB6.out⟩

end Go.Proofs.Ytpjcheelafegbaa
