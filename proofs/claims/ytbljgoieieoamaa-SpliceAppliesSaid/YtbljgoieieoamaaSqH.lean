/-
  Contract of layer 12's statements' own function few.
-/
import Derived.Test.YtbljgoieieoamaaSqG
namespace Go.Proofs.Ytbljgoieieoamaa
open Go.Shelf Go.RowKit Go.Lib Go.Sort
set_option linter.unusedVariables false

theorem Try.infoRC : (Try.prog.info? 66).map (fun i => (i.zero, i.size, i.bytes)) = some (some (.agg #[.int .i64 0, .int .i64 0, .slice none 0 0]), 3, 40) := by kernel_rfl

set_option maxRecDepth 20000 in
set_option maxHeartbeats 4000000 in
theorem few_any (a : Option Addr) (n c : Nat) (L : List Chg) (w : World) (hl : L.length = n) (hn : n ≤ maxLen) (hat : AtCells w a (cellsC L)) (hok : ∀ x ∈ L, x.2.2.2.2.length ≤ x.2.2.2.1 ∧ x.2.2.2.1 ≤ maxLen) :
    Calls Try.prog 13 #[.slice a n c] w fun e w' => ∃ v, e = .returned v ∧ w'.ownsRow w.heap.size 66 3 v (min n 8) (cellsC ((L.take 8).map shC)) ∧ Below w.heap.size w w' := by
  obtain ⟨iC, hiC, hz0, hz1, hz2⟩ := info_parts Try.infoRC
  have HIC := Lib.hid (And.intro hiC (And.intro hz0 (And.intro hz1 hz2)))
  have HL := Lib.hid hl
  have HAT := Lib.hid hat
  have HOK := Lib.hid hok
  have hn' : n ≤ 9223372036854775807 := by unfold maxLen at hn; omega
  clear hiC hz0 hz1 hz2 hl hat hok
  go_enter Try.func13, Try.ntmps13
  go_wp2
  go_loopw [3, 4, 5, 8] (fun x3 _i _p iv wr => ∃ (k : Nat) (v : Value), v = x3 ∧ iv = .int .i64 k ∧ k ≤ n ∧ Hid (wr.ownsRow w.heap.size 66 3 v (min k 8) (cellsC ((L.take (min k 8)).map shC)) ∧ Below w.heap.size w wr)) (fun _ _ _ iv _ => n - (intOf iv).toNat)
  case atStart => exact ⟨0, _, rfl, rfl, Nat.zero_le _, Lib.hid ⟨World.ownsRow_nil _ _ _ _, Below.refl _ _⟩⟩
  case round =>
    obtain ⟨k, v, rfl, rfl, hk, HO⟩ := hrel
    by_cases hkn : k < n
    · obtain ⟨⟨f, t, ba, bc, bs⟩, hx⟩ : ∃ x, L[k]? = some x := ⟨_, List.getElem?_eq_getElem (by rw [HL.out]; omega)⟩
      obtain ⟨b', off', rfl, c0, c1, c2⟩ := chg_cells (HAT.out.below HO.out.2) hx
      have hokx := HOK.out _ (List.mem_of_getElem? hx)
      simp only at c0 c1 c2 hokx
      obtain ⟨bl, hbl⟩ : ∃ bl, bl = bs.length := ⟨_, rfl⟩
      rw [← hbl] at c2 hokx
      have hkn2 : (k : Int) < (n : Int) := by omega
      by_cases hk8 : k < 8
      · have htake : L.take (k + 1) = L.take k ++ [(f, t, ba, bc, bs)] := by
          have hlt : k < L.length := by rw [HL.out]; exact hkn
          rw [List.take_succ_eq_append_getElem hlt, (List.getElem?_eq_some_iff.1 hx).2]
        have hm1 : min k 8 = k := by omega
        have hm2 : min (k + 1) 8 = k + 1 := by omega
        have hO := HO.out
        rw [hm1] at hO
        have HTK := Lib.hid (show cellsC ((L.take (min (k + 1) 8)).map shC) = cellsC ((L.take k).map shC) ++ [.int .i64 f, .int .i64 t, .slice ba (min bl 80) bc] by rw [hm2, htake, List.map_append, cellsC_append, hbl]; simp [cellsC, encC, shC, Nat.min_comm])
        have HM := Lib.hid hm2
        have HO1 := Lib.hid hO
        have HSH := Lib.hid (fun (W : World) => short_any ba bl bc W hokx.1 hokx.2)
        have hk82 : (k : Int) < 8 := by omega
        clear hx htake hbl hm1 hm2 hO HO hokx
        go_wp2
        have f0 : (wr.alloc (.cells #[.int .i64 f, .int .i64 t, .slice ba bl bc] 66)).cell? ⟨wr.heap.size, 0, none⟩ = some (.int .i64 f) := by simp
        have f1 : (wr.alloc (.cells #[.int .i64 f, .int .i64 t, .slice ba bl bc] 66)).cell? ⟨wr.heap.size, 1, none⟩ = some (.int .i64 t) := by simp
        have f2 : (wr.alloc (.cells #[.int .i64 f, .int .i64 t, .slice ba bl bc] 66)).cell? ⟨wr.heap.size, 2, none⟩ = some (.slice ba bl bc) := by simp
        have HB5 := Lib.hid (one_ok wr (.cells #[.int .i64 f, .int .i64 t, .slice ba bl bc] 66))
        obtain ⟨P, hP⟩ : ∃ P, P = wr.heap.size := ⟨_, rfl⟩
        obtain ⟨W5, hW5⟩ : ∃ W5, W5 = wr.alloc (.cells #[.int .i64 f, .int .i64 t, .slice ba bl bc] 66) := ⟨_, rfl⟩
        rw [← hW5] at f0 f1 f2 HB5 ⊢
        rw [← hP] at f0 f1 f2 ⊢
        have HNP := Lib.hid (show some P ≠ v.ownBlock from fun h => absurd (HO1.out.1.lt _ h.symm).2 (by omega))
        have HO2 := Lib.hid (And.intro (owns_below HO1.out.1 HB5.out) (Below.more HO1.out.2 HB5.out))
        clear hW5 hP
        go_region_held_law (fun W => W.cell? ⟨P, 0, none⟩ = some (.int .i64 f) ∧ W.cell? ⟨P, 1, none⟩ = some (.int .i64 t) ∧ W.cell? ⟨P, 2, none⟩ = some (.slice ba bl bc))
          ((refine ⟨?_, ?_, ?_⟩ <;> (repeat (first | (with_reducible exact G0) | (with_reducible exact G1) | (with_reducible exact G2) | (with_reducible exact f0) | (with_reducible exact f1) | (with_reducible exact f2) | (with_reducible refine kp_alloc _ ?_) | (with_reducible refine kp_drew ?_)))))
          (first
            | (go_at_call 12; (with_reducible refine (HSH.out _).mono ?_); rintro e' w6 ⟨rfl, rfl⟩)
            | (refine step_append_lies _ rfl _ _ 23 rfl w.heap.size 66 iC _ 3 40 Try.underlying23 HIC.out.1 HIC.out.2.1 HIC.out.2.2.1 HIC.out.2.2.2 rfl (by decide) v k (cellsC ((L.take k).map shC)) rfl (owns_below HO2.out.1 (one_ok W5 _).drew) ⟨W5.heap.size, 0, none⟩ 1 1 [.int .i64 f, .int .i64 t, .slice ba (min bl 80) bc] rfl rfl (new_cells_at W5 _ _ _ rfl) (one_chg _ _ _ _ _) (by decide) (by unfold maxLen; omega) (by omega) (Nat.le_trans HO2.out.2.size (one_ok W5 _).drew.size) _ rfl ?_; intro g gc w7 own7 g7 at7 _; have HO7 := Lib.hid (And.intro own7 ((Below.more HO2.out.2 (one_ok W5 _).drew).grown g7 (Nat.le_trans HO2.out.2.size (one_ok W5 _).drew.size) (fun y hy => (HO2.out.1.lt y hy).1))); have G0 := g7.cell (a := ⟨P, 0, none⟩) (kp_drew (kp_alloc _ f0)) HNP.out; have G1 := g7.cell (a := ⟨P, 1, none⟩) (kp_drew (kp_alloc _ f1)) HNP.out; have G2 := g7.cell (a := ⟨P, 2, none⟩) (kp_drew (kp_alloc _ f2)) HNP.out; clear own7 g7 at7))
        go_wp2
        go_roundw
        case rel => exact ⟨k + 1, _, rfl, by go_num, by omega, Lib.hid ⟨by rw [HTK.out, HM.out]; exact HO7.out.1, HO7.out.2⟩⟩
        case measure => simp [intOf]; omega
      · have hm1 : min k 8 = 8 := by omega
        have hm2 : min (k + 1) 8 = 8 := by omega
        have hO := HO.out
        rw [hm1, ← hm2] at hO
        have HO1 := Lib.hid hO
        have hk82 : ¬ (k : Int) < 8 := by omega
        clear hx hbl hm1 hm2 hO HO hokx
        go_wp2
        go_roundw
        case rel => exact ⟨k + 1, _, rfl, by go_num, by omega, Lib.hid ⟨owns_below HO1.out.1 (one_ok wr _), Below.more HO1.out.2 (one_ok wr _)⟩⟩
        case measure => simp [intOf]; omega
    · obtain rfl : k = n := by omega
      have hf := HO.out.1
      rw [show L.take (min k 8) = L.take 8 by
        by_cases h8 : k < 8
        · rw [List.take_of_length_le (by rw [HL.out]; omega), List.take_of_length_le (by rw [HL.out]; omega)]
        · rw [show min k 8 = 8 by omega]] at hf
      have HF := Lib.hid hf
      have hknf : ¬ (k : Int) < (k : Int) := by omega
      clear hf hkn
      go_wp2
      go_ret
      exact ⟨_, rfl, by have h := HF.out; simp only [List.map_take] at h; exact h, HO.out.2⟩

end Go.Proofs.Ytbljgoieieoamaa
