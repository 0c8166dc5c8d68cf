/-
  SniffBack: for every kind and all runes it returns true.
-/
import Derived.Test.YtmibajofbagphaaDoorSnE
import Derived.Test.YtmibajofbagphaaDoorSnG
import Derived.Test.YtmibajofbagphaaDoorCut3
import Derived.Test.YtmibajofbagphaaDoorEnc1
import Derived.Test.YtmibajofbagphaaDoorEnc2
import Derived.Test.YtmibajofbagphaaDoorBits3
namespace Go.Proofs.YtmibajofbagphaaDoor
open Go.RowKit

theorem width_zero (r : Int) : U16.width r = 0 ↔ U8.width r = 0 := by
  have h := U8.width_bd r
  unfold U16.width
  repeat' split
  all_goals omega
theorem wkept_eq (l : List Int) : wkept l = kept l := by
  unfold wkept kept
  congr 1
  funext r
  by_cases h : U8.width r = 0
  · simp [h, (width_zero r).2 h]
  · have h' : ¬ U16.width r = 0 := fun h' => h ((width_zero r).1 h')
    simp [h, h']

theorem encsOf_bys (kd : Int) (l : List Int) : Bys (encsOf kd l) := by
  unfold encsOf
  split
  · exact encs_bys l
  · split
    · exact fun z hz => by have := enc_byte16 true l z hz; omega
    · split
      · exact fun z hz => by have := enc_byte16 false l z hz; omega
      · exact fun z hz => by simp at hz

theorem pieces_fst (l : List Int) : ∀ o, (pieces l o).map (·.1) = l := by
  induction l with
  | nil => intro o; rfl
  | cons r l ih => intro o; simp [pieces, ih]
theorem wpieces_fst (l : List Int) : ∀ o, (wpieces l o).map (·.1) = l := by
  induction l with
  | nil => intro o; rfl
  | cons r l ih => intro o; simp [wpieces, ih]

/-- The text of runes' bytes, if they do not begin otherwise. -/
theorem back_runes (kd : Int) (l : List Int) (hk : kd = 0 ∨ kd = 1 ∨ kd = 2) (h : kindOf (encsOf kd l) = (kd, 0)) : runesOf (encsOf kd l) = kept l := by
  unfold runesOf
  rw [h]
  simp only [Int.toNat_zero, List.drop_zero]
  rcases hk with rfl | rfl | rfl
  · show (itemsOf (strOfNums (U8.encs l))).map (·.1) = _
    rw [items_encs, pieces_fst]
  · show (U16.items (U16.encs true l) true (U16.encs true l).length).map (·.1) = _
    rw [witems_encs, wpieces_fst, wkept_eq]
  · show (U16.items (U16.encs false l) false (U16.encs false l).length).map (·.1) = _
    rw [witems_encs, wpieces_fst, wkept_eq]

theorem owns_max {w : World} {b n s : Nat} {e : TypeId} {a : Option Addr} {m c : Nat} {xs : List Value} (h : w.ownsRow b e s (.slice a m c) n xs) : c ≤ maxLen := by
  obtain ⟨_, ⟨h, _⟩ | ⟨g, c', cur, h, _, _, _, hm, _⟩⟩ := h
  · simp at h; unfold maxLen; omega
  · simp at h; omega

theorem kept_le (l : List Int) : (kept l).length ≤ l.length := List.length_filter_le _ _

theorem one_one32 (z : Int) : ∀ u ∈ [Value.int .i32 z], u.oneCell' = true := fun u hu => by
  simp only [List.mem_cons, List.not_mem_nil, or_false] at hu
  subst hu; rfl

set_option maxRecDepth 100000 in
set_option maxHeartbeats 4000000 in
theorem sniffBack_walk (kd0 : Int) (a : Option Addr) (n cap : Nat) (zs : List Int) (w : World) (hs : Signs w) (hn : zs.length = n) (hc : n ≤ cap) (hm : cap ≤ maxLen) (hz : Runes zs) (hat : AtCells w a (zs.map (.int .i32))) :
    Calls Tryd.prog 8 #[.int .i64 kd0, .slice a n cap] w fun e w' => e = .returned (.bool true) ∧ Below w.heap.size w w' := by
  obtain ⟨m, hmm⟩ : ∃ m, m = min n 60 := ⟨_, rfl⟩
  have hm60 : m ≤ 60 := by omega
  have hat' := hat.take m
  rw [← List.map_take] at hat'
  have hz' : Runes (zs.take m) := fun z h => hz z (List.mem_of_mem_take h)
  have hn' : (zs.take m).length = m := by simp; omega
  generalize zs.take m = ys at hat' hz' hn'
  have HF := Lib.hid (few_any a n cap w hc hm)
  rw [← hmm] at HF
  have HKD := Lib.hid (kind_three kd0)
  have HE := Lib.hid (fun kd => encode_any kd a m cap ys w hn' (by omega) hz' hat')
  have HAW := Lib.hid (fun W (hW : Below w.heap.size w W) => sawake_at hs hW)
  have HY := Lib.hid (And.intro hat' (And.intro hn' hs))
  obtain ⟨i0, hi, hz0, hz1, hz2⟩ := info_parts Tryd.infoI32
  have HI := Lib.hid (And.intro hi (And.intro hz0 (And.intro hz1 hz2)))
  clear hat' hz' hn' hat hz hn hmm hm hc hs hi hz0 hz1 hz2
  go_enter Tryd.func8, Tryd.ntmps8
  go_wp2_with fail
  have hK := HKD.out
  generalize (bits BinOp.and IntKind.i64 kd0 3).tmod 3 = K at hK ⊢
  have HK := Lib.hid hK
  clear hK HKD
  refine HF.out.mono ?_
  rintro e w' ⟨rfl, rfl⟩
  go_wp2_with fail
  refine (HE.out K).mono ?_
  rintro e w1 ⟨v, rfl, hown, hb1⟩
  have hbx := encsOf_bys K ys
  have hback := back_runes K ys HK.out
  have hle : (encsOf K ys).length ≤ 240 := by
    have h1 := U8.encs_length_le ys
    have h2 := U16.encs_length_le true ys
    have h3 := U16.encs_length_le false ys
    have := HY.out.2.1
    unfold encsOf
    repeat' split
    all_goals first | omega | (simp; done)
  generalize encsOf K ys = xs at hown hbx hback hle
  obtain ⟨ab, cb, rfl, hcb⟩ := owns_slice hown
  have hmx := owns_max hown
  have hA1 := AtCells.of_owns hown
  have HKI := Lib.hid (refKind_any ab xs.length cb xs w1 rfl hcb hmx hA1)
  have HB1 := Lib.hid hb1
  have HX := Lib.hid (And.intro hA1 (And.intro hbx (And.intro hcb (And.intro hmx (And.intro hle hback)))))
  clear hown hbx hback hle hcb hmx hA1 hb1
  go_wp2_with fail
  refine HKI.out.mono ?_
  rintro e w' ⟨rfl, rfl⟩
  by_cases h1 : (kindOf xs).1 = K
  · by_cases h2 : (kindOf xs).2 = 0
    · have hkd : kindOf xs = (K, 0) := Prod.ext h1 h2
      have HKD := Lib.hid hkd
      have HRU := Lib.hid (HX.out.2.2.2.2.2 hkd)
      rw [h1, h2]
      have e1 : (K != K) = false := by simp
      clear h1 h2 hkd HE HKI HF
      go_wp2_with fail
      go_loopw [8, 37] (fun v i wr => ∃ k : Nat, k ≤ m ∧ i = .int .i64 k ∧ wr.ownsRow w1.heap.size 21 1 v (kept (ys.take k)).length ((kept (ys.take k)).map (Value.int .i32)) ∧ Below w1.heap.size w1 wr) (fun _ i _ => m - (intOf i).toNat)
      case atStart => exact ⟨0, Nat.zero_le _, rfl, World.ownsRow_nil _ _ _ _, Below.refl _ _⟩
      case round =>
        obtain ⟨k, hk, rfl, hown, hbl⟩ := hrel
        by_cases hlt : k < m
        · obtain ⟨b, off, rfl, c⟩ := (HY.out.1.below (HB1.out.trans (hbl.mono HB1.out.size))).int (k := k) (by rw [HY.out.2.1]; exact hlt)
          have hsn := U8.take_succ ys k (by rw [HY.out.2.1]; exact hlt)
          have hks := kept_snoc (ys.take k) (ys.getD k 0)
          rw [← hsn] at hks
          obtain ⟨z, hz⟩ : ∃ z, z = ys.getD k 0 := ⟨_, rfl⟩
          rw [← hz] at c hks
          have hkl := kept_le (ys.take k)
          have htl : (ys.take k).length ≤ 60 := by simp; omega
          have HKS := Lib.hid hks
          have HO := Lib.hid hown
          have HBL := Lib.hid hbl
          have HMX := Lib.hid (show (kept (ys.take k)).length + 1 ≤ maxLen ∧ ((kept (ys.take k)).length + 1) * 4 ≤ 140737488355328 by unfold maxLen; omega)
          have HSZ := Lib.hid (show ∀ ob : Obj, w1.heap.size ≤ (wr.alloc ob).heap.size from fun ob => by have := hbl.size; simp; omega)
          have hwb := U8.width_bd z
          clear hsn hz hks hkl htl hown hbl
          by_cases hw : 0 < U8.width z
          · have HW := Lib.hid (show U8.width z ≠ 0 by omega)
            go_wp2_with (first
              | (go_at_call 26; refine (refWidth_any _ _).mono ?_; rintro e w' ⟨rfl, rfl⟩)
              | (at_builtin; refine wpList_append_own _ rfl _ _ 24 rfl w1.heap.size 21 i0 (.int .i32 0) 1 4 Tryd.underlying24 HI.out.1 HI.out.2.1 HI.out.2.2.1 HI.out.2.2.2 rfl (by decide) _ _ _ rfl (HO.out.alloc _) _ _ _ [.int .i32 z] rfl rfl (new_cells_at _ [.int .i32 z] _ _ rfl) (one_one32 _) HMX.out.1 HMX.out.2 (HSZ.out _) ?_; intro v1 W2 hown1 hg1 _; have HG := Lib.hid (And.intro hown1 hg1); clear hown1 hg1))
            go_roundw
            case rel =>
              have h1 := HG.out.1
              rw [if_pos HW.out] at HKS
              refine ⟨k + 1, by omega, by go_num, ?_, below_grown_alloc HBL.out HBL.out.size HG.out.2 (fun g hg => (HO.out.lt g hg).1)⟩
              rw [HKS.out, List.length_append, List.map_append]
              exact h1
            case measure => simp [intOf]; omega
          · have HW := Lib.hid (show ¬ U8.width z ≠ 0 by omega)
            have hw' : U8.width z ≤ 0 := by omega
            clear hw
            go_wp2_with (go_at_call 26; refine (refWidth_any _ _).mono ?_; rintro e w' ⟨rfl, rfl⟩)
            go_roundw
            case rel =>
              rw [if_neg HW.out, List.append_nil] at HKS
              exact ⟨k + 1, by omega, by go_num, by rw [HKS.out]; exact HO.out, HBL.out⟩
            case measure => simp [intOf]; omega
        · obtain rfl : k = m := by omega
          rw [List.take_of_length_le (by rw [HY.out.2.1]; exact Nat.le_refl _)] at hown
          obtain ⟨av, cv, rfl, _⟩ := owns_slice hown
          have hbw := HB1.out.trans (hbl.mono HB1.out.size)
          have hdec := decode_any ab xs.length cb xs wr (HY.out.2.2.below hbw) rfl HX.out.2.2.1 HX.out.2.2.2.1 (by have := HX.out.2.2.2.2.1; omega) HX.out.2.1 (HX.out.1.below hbl)
          rw [HKD.out, HRU.out] at hdec
          have HD := Lib.hid hdec
          have hal := AtCells.of_owns hown
          obtain ⟨q, hq⟩ : ∃ q, q = (kept ys).length := ⟨_, rfl⟩
          have hqm : q ≤ 60 := by have := kept_le ys; have := HY.out.2.1; omega
          rw [← hq] at hown ⊢
          have HQ := Lib.hid hq
          have HA := Lib.hid hal
          have HBW := Lib.hid hbw
          clear hown hbw hdec hal hq hlt hk hbl
          go_wp2_with fail
          refine HD.out.mono ?_
          rintro e w4 ⟨r4, o4, rfl, hr4, ho4, hb4⟩
          rw [← HQ.out] at hr4
          obtain ⟨ar, cr, rfl, _⟩ := owns_slice hr4
          obtain ⟨ao, co, rfl, _⟩ := owns_slice ho4
          have HA2 := Lib.hid (HA.out.below hb4)
          have HR2 := Lib.hid (AtCells.of_owns hr4)
          have HB4 := Lib.hid (HBW.out.trans (hb4.mono HBW.out.size))
          clear hr4 ho4 hb4
          go_wp2_with fail
          have HBX := Lib.hid (show ∀ wx, Below (w4.heap.size + 1) (w4.alloc (.cells #[.int .i64 K, .int .i64 0, .slice ar q cr, .slice ao (offsOf xs).length co] 27)) wx → wx.cell? ⟨w4.heap.size, 2, none⟩ = some (.slice ar q cr) from fun wx hx => by
            rw [hx.cell (p := ⟨w4.heap.size, 2, none⟩) (by simp)]; simp)
          have hb40 : Below w4.heap.size w4 (w4.alloc (.cells #[.int .i64 K, .int .i64 0, .slice ar q cr, .slice ao (offsOf xs).length co] 27)) := (Below.refl _ _).alloc (Nat.le_refl _) _
          go_loopw [59] (fun i wx => ∃ j : Nat, j ≤ q ∧ i = .int .i64 j ∧ Below (w4.heap.size + 1) (w4.alloc (.cells #[.int .i64 K, .int .i64 0, .slice ar q cr, .slice ao (offsOf xs).length co] 27)) wx) (fun i _ => q - (intOf i).toNat)
          case atStart => exact ⟨0, Nat.zero_le _, rfl, Below.refl _ _⟩
          case round =>
            obtain ⟨j, hj, rfl, hbj⟩ := hrel
            have hb5 : Below w4.heap.size w4 _ := hb40.trans (hbj.mono (by omega))
            have t2 := HBX.out _ hbj
            have HBJ := Lib.hid hbj
            have HB5 := Lib.hid hb5
            have HBW5 := Lib.hid (HB4.out.trans (hb5.mono HB4.out.size))
            by_cases hjl : j < q
            · obtain ⟨b1, f1, rfl, c1⟩ := (HA2.out.below hb5).int (k := j) (by rw [← HQ.out]; exact hjl)
              obtain ⟨b2, f2, rfl, c2⟩ := (HR2.out.below hb5).int (k := j) (by rw [← HQ.out]; exact hjl)
              obtain ⟨z, hz⟩ : ∃ z, z = (kept ys).getD j 0 := ⟨_, rfl⟩
              rw [← hz] at c1 c2
              clear hz hbj hb5 hb40
              go_wp2
              go_roundw
              case rel => exact ⟨j + 1, by omega, by go_num, HBJ.out⟩
              case measure => simp [intOf]; omega
            · have hge : q ≤ j := by omega
              clear hjl hbj hb5 hb40
              go_wp2_with (go_at_call 15; refine (HAW.out _ HBW5.out).mono ?_; rintro e w6 ⟨rfl, hb6⟩)
              go_ret
              exact ⟨rfl, HBW5.out.trans (hb6.mono HBW5.out.size)⟩
    · have e1 : (K != K) = false := by simp
      rw [h1]
      have e2 : ((kindOf xs).2 != 0) = true := by simp [h2]
      clear h1 h2 HE HKI HF
      go_wp2_with (go_at_call 15; refine (HAW.out _ HB1.out).mono ?_; rintro e w6 ⟨rfl, hb6⟩)
      go_ret
      exact ⟨rfl, HB1.out.trans (hb6.mono HB1.out.size)⟩
  · have e2 : ((kindOf xs).1 != K) = true := by simp [h1]
    clear h1 HE HKI HF
    go_wp2_with (go_at_call 15; refine (HAW.out _ HB1.out).mono ?_; rintro e w6 ⟨rfl, hb6⟩)
    go_ret
    exact ⟨rfl, HB1.out.trans (hb6.mono HB1.out.size)⟩

end Go.Proofs.YtmibajofbagphaaDoor
