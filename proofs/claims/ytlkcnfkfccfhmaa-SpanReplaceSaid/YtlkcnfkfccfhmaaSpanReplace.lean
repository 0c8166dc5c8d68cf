/-
  SpanReplace: the walk.
-/
import Derived.Test.YtlkcnfkfccfhmaaSpB
import Derived.Test.YtlkcnfkfccfhmaaSpG
import Derived.Test.YtlkcnfkfccfhmaaArgs
import Derived.Deep.DeepCutAuto
import Derived.Deep.QuietTactic
import Derived.BigQuiet
import Derived.Deep.RegionHeldLaw
namespace Go.Proofs.Ytlkcnfkfccfhmaa
open Go.RowKit
set_option linter.unusedVariables false

theorem strOfNums_app (xs ys : List Int) : strOfNums (xs ++ ys) = strOfNums xs ++ strOfNums ys := by
  apply ByteArray.ext
  apply Array.toList_inj.1
  rw [ByteArray.data_append, Array.toList_append, strOfNums_data, strOfNums_data, strOfNums_data, List.map_append]

theorem res_ahead {ys ys' : List Int} {i j k : Nat} (hk : k < i) (hi : i ≤ ys.length) : (ys.take i ++ ys' ++ ys.drop j).getD k 0 = ys.getD k 0 := by
  rw [List.append_assoc, List.getD_eq_getElem?_getD, List.getElem?_append_left (by simp; omega), List.getElem?_take, if_pos hk, List.getD_eq_getElem?_getD]
theorem res_behind {ys ys' : List Int} {i j k kk : Nat} (hkk : kk + j = k + i + ys'.length) (hij : i ≤ j) (hk : j ≤ k) (hkl : k < ys.length) : (ys.take i ++ ys' ++ ys.drop j).getD kk 0 = ys.getD k 0 := by
  rw [List.getD_eq_getElem?_getD, List.getElem?_append_right (by simp; omega), List.getElem?_drop, List.getD_eq_getElem?_getD]
  congr 2
  simp
  omega

set_option maxHeartbeats 2000000 in
set_option maxRecDepth 100000 in
theorem spanReplace_walk (a : Option Addr) (n cap : Nat) (zs : List Int) (f t : Int) (a' : Option Addr) (n' cap' : Nat) (zs' : List Int) (k : Int) (w : World) (h1 : Arg .u8 w a n cap zs) (h2 : Arg .u8 w a' n' cap' zs')
    (hk : -9223372036854775808 ≤ k) (hk' : k ≤ 9223372036854775807) (hf : -9223372036854775808 ≤ f) (hf' : f ≤ 9223372036854775807) (ht : -9223372036854775808 ≤ t) (ht' : t ≤ 9223372036854775807) :
    Calls Try.prog 7 #[.slice a n cap, .agg #[.int .i64 f, .int .i64 t], .slice a' n' cap', .int .i64 k] w fun e w' => e = .returned (.bool true) ∧ Below w.heap.size w w' := by
  obtain ⟨m, hm⟩ : ∃ m, m = min n 80 := ⟨_, rfl⟩
  obtain ⟨m', hm'⟩ : ∃ m, m = min n' 40 := ⟨_, rfl⟩
  have HX1 := Lib.hid h1
  have HX2 := Lib.hid h2
  have l1 := h1.le
  have l2 := h2.le
  have c1 := h1.max
  have c2 := h2.max
  unfold maxLen at c1 c2
  clear h1 h2
  go_enter Try.func7, Try.ntmps7
  go_upto_if 14 with fail
  go_cut [0] (fun s0 wx => s0 = .slice a m cap ∧ wx = w.alloc (.cells #[.int .i64 f, .int .i64 t] 23))
  case first => as_aux_lemma =>
    by_cases h80 : n ≤ 80
    · obtain rfl : n = m := by omega
      clear hm
      go_wp2
      go_meet
      exact ⟨rfl, rfl⟩
    · obtain rfl : m = 80 := by omega
      have h80' : 80 < n := by omega
      clear hm h80
      go_wp2
      go_meet
      exact ⟨rfl, rfl⟩
  case rest => as_aux_lemma =>
    obtain ⟨rfl, rfl⟩ := hcut
    go_upto_if 19 with fail
    go_cut [2] (fun s0 wx => s0 = .slice a' m' cap' ∧ wx = w.alloc (.cells #[.int .i64 f, .int .i64 t] 23))
    case first => as_aux_lemma =>
      by_cases h80 : n' ≤ 40
      · obtain rfl : n' = m' := by omega
        clear hm'
        go_wp2
        go_meet
        exact ⟨rfl, rfl⟩
      · obtain rfl : m' = 40 := by omega
        have h80' : 40 < n' := by omega
        clear hm' h80
        go_wp2
        go_meet
        exact ⟨rfl, rfl⟩
    case rest => as_aux_lemma =>
      obtain ⟨rfl, rfl⟩ := hcut
      have hb0 := Below.refl (w.alloc (.cells #[.int .i64 f, .int .i64 t] 23)).heap.size (w.alloc (.cells #[.int .i64 f, .int .i64 t] 23))
      have hmn : m ≤ n := by omega
      have hmn' : m' ≤ n' := by omega
      have h80 : m ≤ 80 := by omega
      have h40 : m' ≤ 40 := by omega
      clear hm hm'
      have hcm : m ≤ cap := by omega
      by_cases hbad : f < 0 ∨ t < f ∨ (m : Int) < t
      · have HBAD := Lib.hid (fun W => replace_bad a a' m cap m' cap' f t W (by unfold maxLen; omega) hcm hbad)
        by_cases g1 : f < 0
        · clear hbad
          go_wp2_with (first
            | (go_at_call 9; (with_reducible refine (ours_any _ _ _).mono ?_); rintro e w1 ⟨rfl, hb1⟩; replace hb0 := Below.more hb0 hb1; clear hb1; obtain ⟨c1, c2⟩ := bcell hb0)
            | (go_at_call 19; (with_reducible refine (HBAD.out _).mono ?_); rintro e w1 ⟨rfl, hb1⟩; replace hb0 := Below.more hb0 hb1; clear hb1; obtain ⟨c1, c2⟩ := bcell hb0)
            | (go_at_call 13; (with_reducible refine (awake_any _).mono ?_); rintro e w1 ⟨rfl, hb1⟩; replace hb0 := Below.more hb0 hb1; clear hb1))
          go_ret
          exact ⟨rfl, (bl1 _ _).trans (hb0.mono (by simp))⟩
        · have g1' : 0 ≤ f := by omega
          clear g1
          by_cases g2 : t < f
          · clear hbad
            go_wp2_with (first
              | (go_at_call 9; (with_reducible refine (ours_any _ _ _).mono ?_); rintro e w1 ⟨rfl, hb1⟩; replace hb0 := Below.more hb0 hb1; clear hb1; obtain ⟨c1, c2⟩ := bcell hb0)
              | (go_at_call 19; (with_reducible refine (HBAD.out _).mono ?_); rintro e w1 ⟨rfl, hb1⟩; replace hb0 := Below.more hb0 hb1; clear hb1; obtain ⟨c1, c2⟩ := bcell hb0)
              | (go_at_call 13; (with_reducible refine (awake_any _).mono ?_); rintro e w1 ⟨rfl, hb1⟩; replace hb0 := Below.more hb0 hb1; clear hb1))
            go_ret
            exact ⟨rfl, (bl1 _ _).trans (hb0.mono (by simp))⟩
          · have g2' : f ≤ t := by omega
            have g3 : (m : Int) < t := by omega
            clear hbad g2
            go_wp2_with (first
              | (go_at_call 9; (with_reducible refine (ours_any _ _ _).mono ?_); rintro e w1 ⟨rfl, hb1⟩; replace hb0 := Below.more hb0 hb1; clear hb1; obtain ⟨c1, c2⟩ := bcell hb0)
              | (go_at_call 19; (with_reducible refine (HBAD.out _).mono ?_); rintro e w1 ⟨rfl, hb1⟩; replace hb0 := Below.more hb0 hb1; clear hb1; obtain ⟨c1, c2⟩ := bcell hb0)
              | (go_at_call 13; (with_reducible refine (awake_any _).mono ?_); rintro e w1 ⟨rfl, hb1⟩; replace hb0 := Below.more hb0 hb1; clear hb1))
            go_ret
            exact ⟨rfl, (bl1 _ _).trans (hb0.mono (by simp))⟩
      · obtain ⟨i, rfl⟩ : ∃ i : Nat, f = i := ⟨f.toNat, by omega⟩
        obtain ⟨j, rfl⟩ : ∃ j : Nat, t = j := ⟨t.toNat, by omega⟩
        have hij : (i : Int) ≤ j := by omega
        have hjm : (j : Int) ≤ m := by omega
        have hi0 : (0 : Int) ≤ i := by omega
        have hk1 : OkB w ⟨a, m, cap, zs.take m⟩ := ⟨by simp; have := HX1.out.length; omega, hcm, fun h => by have := HX1.out.nil h; simp only; omega, by rw [List.map_take]; exact HX1.out.cells.take m⟩
        have hk2 : OkB w ⟨a', m', cap', zs'.take m'⟩ := ⟨by simp; have := HX2.out.length; omega, by simp only; omega, fun h => by have := HX2.out.nil h; simp only; omega, by rw [List.map_take]; exact HX2.out.cells.take m'⟩
        have hsp := HX1.out.spot
        obtain ⟨ys, hys⟩ : ∃ ys, ys = zs.take m := ⟨_, rfl⟩
        obtain ⟨ys', hys'⟩ : ∃ ys', ys' = zs'.take m' := ⟨_, rfl⟩
        rw [← hys] at hk1
        rw [← hys'] at hk2
        have HOK := Lib.hid (fun W (hW : Below w.heap.size w W) => replace_ok a a' m cap m' cap' ys ys' i j W (by unfold maxLen; omega) (hk1.below hW) h80 (hk2.below hW) h40 hi0 hij hjm hsp)
        have HK1 := Lib.hid hk1
        have HK2 := Lib.hid hk2
        have HSP := Lib.hid hsp
        have hL : (ys.take i ++ ys' ++ ys.drop j).length = i + m' + (m - j) := by
          have q1 := hk1.length
          have q2 := hk2.length
          simp only at q1 q2
          simp [q1, q2]; omega
        rw [Int.toNat_natCast, Int.toNat_natCast] at HOK
        obtain ⟨res, hres⟩ : ∃ res, res = ys.take i ++ ys' ++ ys.drop j := ⟨_, rfl⟩
        rw [← hres] at HOK hL
        have HRES := Lib.hid hres
        obtain ⟨L, hLL⟩ : ∃ L, L = i + m' + (m - j) := ⟨_, rfl⟩
        rw [← hLL] at hL
        have HL := Lib.hid hL
        clear hbad hys hys' hk1 hk2 hsp hres hL
        have hL1 : L + j = i + m' + m := by omega
        clear hLL
        go_wp2_with (first
          | (go_at_call 9; (with_reducible refine (ours_any _ _ _).mono ?_); rintro e w1 ⟨rfl, hb1⟩; replace hb0 := Below.more hb0 hb1; clear hb1; obtain ⟨c1, c2⟩ := bcell hb0)
          | (go_at_call 19; (refine (HOK.out _ ((bl1 _ _).trans (hb0.mono (by simp)))).mono ?_); rintro e w2 ⟨v, rfl, hown, hb1⟩; replace hb0 := Below.more hb0 hb1; clear hb1; obtain ⟨c1, c2⟩ := bcell hb0))
        have hb2 := (bl1 w (.cells #[.int .i64 i, .int .i64 j] 23)).trans (hb0.mono (by simp))
        have HBW := Lib.hid hb2
        have d0 := (c1 w.heap.size 0 (by simp)).trans (show _ = some (.int .i64 i) by simp)
        have d1 := (c1 w.heap.size 1 (by simp)).trans (show _ = some (.int .i64 j) by simp)
        have HD := Lib.hid (And.intro d0 d1)
        clear c1 c2 hb0
        obtain ⟨va, vc, rfl, hvc⟩ := owns_slice hown
        have HOWN := Lib.hid hown
        clear hown
        obtain ⟨S, hS⟩ : ∃ S, S = strOfNums res := ⟨_, rfl⟩
        obtain ⟨S1, hS1⟩ : ∃ S, S = strOfNums (ys.take i) := ⟨_, rfl⟩
        obtain ⟨S2, hS2⟩ : ∃ S, S = strOfNums ys' := ⟨_, rfl⟩
        obtain ⟨S3, hS3⟩ : ∃ S, S = strOfNums (ys.drop j) := ⟨_, rfl⟩
        have hSS : S = S1 ++ S2 ++ S3 := by rw [hS, hS1, hS2, hS3, HRES.out, strOfNums_app, strOfNums_app]
        have HR0 : Hid (∀ W, Below w2.heap.size w2 W → Sem.run Try.prog (convert 49 9 (.slice va res.length vc)) W = .ok (.string S) W) := Lib.hid fun W hW => by
          rw [hS]; exact run_strB _ _ 5 _ Try.underlying49 Try.underlying5 Try.underlying9 va _ vc _ rfl ((AtCells.of_owns HOWN.out).below hW)
        have HR1 : Hid (∀ W, Below w2.heap.size w2 W → Sem.run Try.prog (convert 49 9 (.slice a i cap)) W = .ok (.string S1) W) := Lib.hid fun W hW => by
          rw [hS1]; exact run_strB _ _ 5 _ Try.underlying49 Try.underlying5 Try.underlying9 a _ cap _ (by have := HK1.out.length; simp only at this; simp; omega) (by rw [List.map_take]; exact (((HK1.out.below HBW.out).cells).take i).below hW)
        have HR2 : Hid (∀ W, Below w2.heap.size w2 W → Sem.run Try.prog (convert 49 9 (.slice a' m' cap')) W = .ok (.string S2) W) := Lib.hid fun W hW => by
          rw [hS2]; exact run_strB _ _ 5 _ Try.underlying49 Try.underlying5 Try.underlying9 a' _ cap' _ HK2.out.length ((HK2.out.below HBW.out).cells.below hW)
        have HDD : Hid (∀ W, Below w2.heap.size w2 W → W.cell? ⟨w.heap.size, 0, none⟩ = some (.int .i64 i) ∧ W.cell? ⟨w.heap.size, 1, none⟩ = some (.int .i64 j)) := Lib.hid fun W hW => ⟨(hW.cell (p := ⟨w.heap.size, 0, none⟩) (cell_lt HD.out.1)).trans HD.out.1, (hW.cell (p := ⟨w.heap.size, 1, none⟩) (cell_lt HD.out.2)).trans HD.out.2⟩
        clear d0 d1
        have HSS := Lib.hid hSS
        have z1 : S1.size ≤ 80 := by rw [hS1, strOfNums_size]; have := HK1.out.length; simp only at this; simp; omega
        have z2 : S2.size ≤ 40 := by rw [hS2, strOfNums_size]; have := HK2.out.length; simp only at this; omega
        have z3 : S3.size ≤ 80 := by rw [hS3, strOfNums_size]; have := HK1.out.length; simp only at this; simp; omega
        have z12 : (S1 ++ S2).size ≤ 120 := by rw [ByteArray.size_append]; omega
        clear hSS hS hS1 hS2
        go_cut [77] (fun s77 wx => s77 = .bool false ∧ Below w2.heap.size w2 wx)
        case first => as_aux_lemma =>
          by_cases hjc : j = cap
          · obtain rfl : m = cap := by omega
            obtain rfl : j = m := by omega
            have HR3 : Hid (∀ W, Below w2.heap.size w2 W → Sem.run Try.prog (convert 49 9 (.slice a 0 0)) W = .ok (.string S3) W) := Lib.hid fun W hW => by
              have e : ys.drop j = [] := List.drop_of_length_le (by have := HK1.out.length; simp only at this; omega)
              rw [hS3, e]; exact run_strB _ _ 5 _ Try.underlying49 Try.underlying5 Try.underlying9 a 0 0 [] rfl (AtCells.nil _ _)
            clear hS3
            have HALL := Lib.hid (show ∀ W, Below w2.heap.size w2 W → Sem.run Try.prog (convert 49 9 (.slice va res.length vc)) W = .ok (.string S) W ∧ Sem.run Try.prog (convert 49 9 (.slice a i j)) W = .ok (.string S1) W ∧ Sem.run Try.prog (convert 49 9 (.slice a' m' cap')) W = .ok (.string S2) W ∧ Sem.run Try.prog (convert 49 9 (.slice a 0 0)) W = .ok (.string S3) W ∧ W.cell? ⟨w.heap.size, 0, none⟩ = some (.int .i64 i) ∧ W.cell? ⟨w.heap.size, 1, none⟩ = some (.int .i64 j) from fun W hW => ⟨HR0.out W hW, HR1.out W hW, HR2.out W hW, HR3.out W hW, HDD.out W hW⟩)
            have hbd : Below w2.heap.size w2 w2.drew := (Below.refl w2.heap.size w2).drew
            go_region_held_law (fun W => Sem.run Try.prog (convert 49 9 (.slice va res.length vc)) W = .ok (.string S) W ∧ Sem.run Try.prog (convert 49 9 (.slice a i j)) W = .ok (.string S1) W ∧ Sem.run Try.prog (convert 49 9 (.slice a' m' cap')) W = .ok (.string S2) W ∧ Sem.run Try.prog (convert 49 9 (.slice a 0 0)) W = .ok (.string S3) W ∧ W.cell? ⟨w.heap.size, 0, none⟩ = some (.int .i64 i) ∧ W.cell? ⟨w.heap.size, 1, none⟩ = some (.int .i64 j)) (first | (exact HALL.out _ (by assumption)) | assumption)
              ((fail))
            go_wp2_with fail
            go_meet
            exact ⟨by rw [HSS.out]; simp, hbd⟩
          · have ha : ∃ b off, a = some ⟨b, off, none⟩ := by
              cases a with
              | none => have := HX1.out.nil rfl; omega
              | some x => exact ⟨x.block, x.off, by have := HSP.out x rfl (by omega); rw [← this]⟩
            obtain ⟨b, off, rfl⟩ := ha
            have HR3 : Hid (∀ W, Below w2.heap.size w2 W → Sem.run Try.prog (convert 49 9 (.slice (some ⟨b, off + j, none⟩) (m - j) (cap - j))) W = .ok (.string S3) W) := Lib.hid fun W hW => by
              rw [hS3]; exact run_strB _ _ 5 _ Try.underlying49 Try.underlying5 Try.underlying9 _ _ _ _ (by have := HK1.out.length; simp only at this; simp; omega) (by rw [List.map_drop]; exact (((HK1.out.below HBW.out).cells).drop j).below hW)
            have hjc' : (j : Int) < cap := by omega
            have hjc'' : ¬ cap = j := by omega
            have hic : (i : Int) ≤ cap := by omega
            clear hS3
            have HALL := Lib.hid (show ∀ W, Below w2.heap.size w2 W → Sem.run Try.prog (convert 49 9 (.slice va res.length vc)) W = .ok (.string S) W ∧ Sem.run Try.prog (convert 49 9 (.slice (some ⟨b, off, none⟩) i cap)) W = .ok (.string S1) W ∧ Sem.run Try.prog (convert 49 9 (.slice a' m' cap')) W = .ok (.string S2) W ∧ Sem.run Try.prog (convert 49 9 (.slice (some ⟨b, off + j, none⟩) (m - j) (cap - j))) W = .ok (.string S3) W ∧ W.cell? ⟨w.heap.size, 0, none⟩ = some (.int .i64 i) ∧ W.cell? ⟨w.heap.size, 1, none⟩ = some (.int .i64 j) from fun W hW => ⟨HR0.out W hW, HR1.out W hW, HR2.out W hW, HR3.out W hW, HDD.out W hW⟩)
            have hbd : Below w2.heap.size w2 w2.drew := (Below.refl w2.heap.size w2).drew
            go_region_held_law (fun W => Sem.run Try.prog (convert 49 9 (.slice va res.length vc)) W = .ok (.string S) W ∧ Sem.run Try.prog (convert 49 9 (.slice (some ⟨b, off, none⟩) i cap)) W = .ok (.string S1) W ∧ Sem.run Try.prog (convert 49 9 (.slice a' m' cap')) W = .ok (.string S2) W ∧ Sem.run Try.prog (convert 49 9 (.slice (some ⟨b, off + j, none⟩) (m - j) (cap - j))) W = .ok (.string S3) W ∧ W.cell? ⟨w.heap.size, 0, none⟩ = some (.int .i64 i) ∧ W.cell? ⟨w.heap.size, 1, none⟩ = some (.int .i64 j)) (first | (exact HALL.out _ (by assumption)) | assumption)
              ((fail))
            go_wp2_with fail
            go_meet
            exact ⟨by rw [HSS.out]; simp, hbd⟩
        case rest => as_aux_lemma =>
          obtain ⟨rfl, hbc⟩ := hcut
          obtain ⟨w3, hw3⟩ : ∃ w3, w3 = wc := ⟨_, rfl⟩
          rw [← hw3] at hbc ⊢
          clear hw3 z1 z2 z3 z12 HSS HR0 HR1 HR2 hS3
          have HOW3 := Lib.hid (AtCells.of_owns (owns_below HOWN.out hbc))
          have HBX := Lib.hid (Below.more HBW.out hbc)
          have HDE : Hid (∀ W, Below w3.heap.size w3 W → W.cell? ⟨w.heap.size, 0, none⟩ = some (.int .i64 i) ∧ W.cell? ⟨w.heap.size, 1, none⟩ = some (.int .i64 j)) := Lib.hid fun W hW => HDD.out W (Below.more hbc hW)
          have hb0 := Below.refl w3.heap.size w3
          obtain ⟨e0, e1⟩ := HDE.out w3 hb0
          clear hbc HDD HD HBW HOWN
          by_cases g0 : k < 0
          · go_wp2_with (go_at_call 13; (with_reducible refine (awake_any _).mono ?_); rintro e w1 ⟨rfl, hb1⟩; replace hb0 := Below.more hb0 hb1; clear hb1)
            go_ret
            exact ⟨rfl, Below.more HBX.out hb0⟩
          · have g0' : 0 ≤ k := by omega
            clear g0
            by_cases g1 : (m : Int) ≤ k
            · go_wp2_with (go_at_call 13; (with_reducible refine (awake_any _).mono ?_); rintro e w1 ⟨rfl, hb1⟩; replace hb0 := Below.more hb0 hb1; clear hb1)
              go_ret
              exact ⟨rfl, Below.more HBX.out hb0⟩
            · obtain ⟨k, rfl⟩ : ∃ x : Nat, k = x := ⟨k.toNat, by omega⟩
              have g1' : (k : Int) < m := by omega
              clear g1
              have HSH := Lib.hid (fun w => shift_any k i j m' w hk hk')
              have hK : shiftF k i j m' = if (i : Int) < 0 ∨ (j : Int) < i ∨ 2147483647 < (j : Int) ∨ (m' : Int) < 0 ∨ 2147483647 < (m' : Int) ∨ 2147483647 < (k : Int) ∨ (k : Int) < i then (k : Int) else if (k : Int) < j then (i : Int) else k - (j - i) + m' := rfl
              generalize shiftF k i j m' = K at HSH hK
              by_cases g2 : k < i
              · obtain rfl : (k : Int) = K := by rw [if_pos (by omega)] at hK; exact hK.symm
                clear hK
                go_wp2_with (first
                  | (go_at_call 9; (with_reducible refine (ours_any _ _ _).mono ?_); rintro e w4 ⟨rfl, hb1⟩; replace hb0 := Below.more hb0 hb1; clear hb1; obtain ⟨e0, e1⟩ := HDE.out _ hb0)
                  | (go_at_call 20; (with_reducible refine (HSH.out _).mono ?_); rintro e w4 ⟨rfl, hb1⟩; replace hb0 := Below.more hb0 hb1; clear hb1; obtain ⟨e0, e1⟩ := HDE.out _ hb0)
                  | (go_at_call 13; (with_reducible refine (awake_any _).mono ?_); rintro e w1 ⟨rfl, hb1⟩; replace hb0 := Below.more hb0 hb1; clear hb1))
                have hb0 := hb0
                obtain ⟨bo, oo, rfl, z1⟩ := HOW3.out.int (k := k) (by rw [HL.out]; omega)
                obtain ⟨b, off, rfl, z2⟩ := (HK1.out.below HBX.out).cells.int (k := k) (by have := HK1.out.length; show k < ys.length; simp only at this; omega)
                simp only at z2
                have hzz : res.getD k 0 = ys.getD k 0 := by rw [HRES.out]; exact res_ahead (by omega) (by have := HK1.out.length; simp only at this; omega)
                rw [hzz] at z1
                obtain ⟨z, hz⟩ : ∃ z, z = ys.getD k 0 := ⟨_, rfl⟩
                rw [← hz] at z1 z2
                clear hz hzz
                have HZ : Hid (∀ W, Below w3.heap.size w3 W → W.cell? ⟨bo, oo + k, none⟩ = some (.int .u8 z) ∧ W.cell? ⟨b, off + k, none⟩ = some (.int .u8 z)) := Lib.hid fun W hW => ⟨by rw [hW.cell (p := ⟨bo, oo + k, none⟩) (cell_lt z1)]; exact z1, by rw [hW.cell (p := ⟨b, off + k, none⟩) (cell_lt z2)]; exact z2⟩
                have hbd := hb0.drew
                clear z1 z2 e0 e1
                have hl1 := HL.out
                have i1 : (k : Int) < (res.length : Int) := by omega
                have i2 : (0 : Int) ≤ (k : Int) := by omega
                have i3 : (0 : Int) ≤ (k : Int) := by omega
                clear hl1
                go_region_held_law (fun W => W.cell? ⟨bo, oo + k, none⟩ = some (.int .u8 z) ∧ W.cell? ⟨b, off + k, none⟩ = some (.int .u8 z)) (first | (exact HZ.out _ (by assumption)) | assumption)
                  ((go_at_call 13; (with_reducible refine (awake_any _).mono ?_); rintro e w1 ⟨rfl, hb1⟩; have hb7 := Below.more hbd hb1))
                all_goals
                  go_wp2
                  go_ret
                  exact ⟨rfl, Below.more HBX.out hb7⟩
              · have g2' : (i : Int) ≤ k := by omega
                clear g2
                by_cases g3 : k < j
                · have g3' : (k : Int) < j := by omega
                  obtain rfl : (i : Int) = K := by rw [if_neg (by omega), if_pos (by omega)] at hK; exact hK.symm
                  clear hK g3
                  go_wp2_with (first
                    | (go_at_call 9; (with_reducible refine (ours_any _ _ _).mono ?_); rintro e w4 ⟨rfl, hb1⟩; replace hb0 := Below.more hb0 hb1; clear hb1; obtain ⟨e0, e1⟩ := HDE.out _ hb0)
                    | (go_at_call 20; (with_reducible refine (HSH.out _).mono ?_); rintro e w4 ⟨rfl, hb1⟩; replace hb0 := Below.more hb0 hb1; clear hb1; obtain ⟨e0, e1⟩ := HDE.out _ hb0)
                    | (go_at_call 13; (with_reducible refine (awake_any _).mono ?_); rintro e w1 ⟨rfl, hb1⟩; replace hb0 := Below.more hb0 hb1; clear hb1))
                  go_ret
                  exact ⟨rfl, Below.more HBX.out hb0⟩
                · have g3' : (j : Int) ≤ k := by omega
                  clear g3
                  obtain ⟨kk, hkk⟩ : ∃ kk : Nat, kk = k - (j - i) + m' := ⟨_, rfl⟩
                  obtain rfl : (kk : Int) = K := by rw [if_neg (by omega), if_neg (by omega)] at hK; omega
                  have hkk2 : kk + j = k + i + m' := by omega
                  clear hK hkk
                  go_wp2_with (first
                    | (go_at_call 9; (with_reducible refine (ours_any _ _ _).mono ?_); rintro e w4 ⟨rfl, hb1⟩; replace hb0 := Below.more hb0 hb1; clear hb1; obtain ⟨e0, e1⟩ := HDE.out _ hb0)
                    | (go_at_call 20; (with_reducible refine (HSH.out _).mono ?_); rintro e w4 ⟨rfl, hb1⟩; replace hb0 := Below.more hb0 hb1; clear hb1; obtain ⟨e0, e1⟩ := HDE.out _ hb0))
                  have hb0 := hb0
                  obtain ⟨bo, oo, rfl, z1⟩ := HOW3.out.int (k := kk) (by rw [HL.out]; omega)
                  obtain ⟨b, off, rfl, z2⟩ := (HK1.out.below HBX.out).cells.int (k := k) (by have := HK1.out.length; show k < ys.length; simp only at this; omega)
                  simp only at z2
                  have hzz : res.getD kk 0 = ys.getD k 0 := by rw [HRES.out]; exact res_behind (by have := HK2.out.length; simp only at this; omega) (by omega) (by omega) (by have := HK1.out.length; simp only at this; omega)
                  rw [hzz] at z1
                  obtain ⟨z, hz⟩ : ∃ z, z = ys.getD k 0 := ⟨_, rfl⟩
                  rw [← hz] at z1 z2
                  clear hz hzz
                  have HZ : Hid (∀ W, Below w3.heap.size w3 W → W.cell? ⟨bo, oo + kk, none⟩ = some (.int .u8 z) ∧ W.cell? ⟨b, off + k, none⟩ = some (.int .u8 z)) := Lib.hid fun W hW => ⟨by rw [hW.cell (p := ⟨bo, oo + kk, none⟩) (cell_lt z1)]; exact z1, by rw [hW.cell (p := ⟨b, off + k, none⟩) (cell_lt z2)]; exact z2⟩
                  have hbd := hb0.drew
                  clear z1 z2 e0 e1
                  have hl1 := HL.out
                  have i1 : (kk : Int) < (res.length : Int) := by omega
                  have i2 : (0 : Int) ≤ (kk : Int) := by omega
                  have i3 : (0 : Int) ≤ (k : Int) := by omega
                  clear hl1
                  go_region_held_law (fun W => W.cell? ⟨bo, oo + kk, none⟩ = some (.int .u8 z) ∧ W.cell? ⟨b, off + k, none⟩ = some (.int .u8 z)) (first | (exact HZ.out _ (by assumption)) | assumption)
                    ((go_at_call 13; (with_reducible refine (awake_any _).mono ?_); rintro e w1 ⟨rfl, hb1⟩; have hb7 := Below.more hbd hb1))
                  all_goals
                    go_wp2
                    go_ret
                    exact ⟨rfl, Below.more HBX.out hb7⟩

end Go.Proofs.Ytlkcnfkfccfhmaa
