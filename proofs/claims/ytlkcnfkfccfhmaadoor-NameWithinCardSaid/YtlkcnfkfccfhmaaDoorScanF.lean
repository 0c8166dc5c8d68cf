/-
  Contracts: First of layer 1, and the reference's.
-/
import Derived.Test.YtlkcnfkfccfhmaaDoorScanE
import Derived.Deep.RegionHeld3
import Derived.Deep.RegionWith
import Derived.Deep.QuietTactic
import Derived.BigQuiet
import Derived.IntWalk
import Derived.MapKept
namespace Go.Proofs.YtlkcnfkfccfhmaaDoor
open Go.RowKit

theorem str_eq {a b : ByteArray} (h : (a.toList == b.toList) = true) : a = b := by
  have e : a.toList = b.toList := by simpa using h
  rw [ByteArray.toList_eq, ByteArray.toList_eq] at e
  cases a; cases b; simp at e; simp [e]

theorem ret_pair2 {a b c d : Int} (h : a = b ∧ c = d) : Ending.returned (.tuple #[.int .i32 a, .int .i64 c]) = .returned (.tuple #[.int .i32 b, .int .i64 d]) := by rw [h.1, h.2]

theorem refRune_any (r : Int) (w : World) : Calls Tryd.prog 48 #[.int .i32 r] w (OwnBytes w (U8.enc r)) := by
  by_cases h : 0 < U8.width r
  · refine (refRune_some r w h).mono ?_
    rintro e w' ⟨rfl, rfl⟩
    have hl := U8.enc_length r
    have hw := U8.width_bd r
    obtain ⟨h1, h2⟩ := ret_lit (w := w) (e := 5) (cs := ((U8.enc r).map (Value.int .u8)).toArray) (n := (U8.enc r).length) (xs := (U8.enc r).map (Value.int .u8)) rfl (by simp) (by unfold maxLen; omega)
    exact ⟨_, rfl, h1, h2⟩
  · have h0 : U8.width r = 0 := by have := U8.width_bd r; omega
    refine (refRune_none r w h0).mono ?_
    rintro e w' ⟨rfl, rfl⟩
    rw [U8.enc_zero h0]
    exact ⟨_, rfl, World.ownsRow_nil _ _ _ _, Below.refl _ _⟩

theorem lead_cells {w w' : World} (hb : Below (w.heap.size + 1) (w.alloc (.cells #[.int .i64 0, .int .i64 0, .int .i64 192, .int .i64 224, .int .i64 240] 3)) w') {k : Nat} (hk : k ≤ 4) :
    w'.cell? ⟨w.heap.size, k, none⟩ = some (.int .i64 (lead k)) := by
  have h := AtCells.of_owns (World.ownsRow_lit (base := w.heap.size) (e := 3) (size := 1) w #[.int .i64 0, .int .i64 0, .int .i64 192, .int .i64 224, .int .i64 240] 5 (Nat.le_refl _) (by unfold maxLen; omega) rfl)
  have hsz : (w.alloc (.cells #[.int .i64 0, .int .i64 0, .int .i64 192, .int .i64 224, .int .i64 240] 3)).heap.size = w.heap.size + 1 := by simp
  have h' : AtCells _ _ ([0, 0, 192, 224, 240].map (Value.int .i64)) := h.below (w' := w') (by rw [hsz]; exact hb)
  obtain ⟨b, off, he, hc⟩ := h'.int (k := k) (by simp; omega)
  simp only [Option.some.injEq, Addr.mk.injEq] at he
  obtain ⟨rfl, rfl, _⟩ := he
  rw [Nat.zero_add] at hc
  exact hc

set_option maxRecDepth 100000 in
set_option maxHeartbeats 2000000 in
theorem refFirst_any (b off n cap : Nat) (zs : List Int) (x q : Int) (w : World) (hn : zs.length = n) (h0 : 0 < n) (hc : n ≤ cap) (hm : cap ≤ maxLen) (hb : Bys zs) (hat : AtCells w (some ⟨b, off, none⟩) (zs.map (.int .u8)))
    (hp : U8.IsPiece zs x q) :
    Calls Tryd.prog 45 #[.slice (some ⟨b, off, none⟩) n cap] w fun e w' => e = .returned (.tuple #[.int .i32 x, .int .i64 q]) ∧ Below w.heap.size w w' := by
  have hne : ((n : Int) == 0) = false := by simp; omega
  have HY := Lib.hid (And.intro hat (And.intro hb (And.intro hn hp)))
  unfold maxLen at hm
  clear hat hb hn hp
  go_enter Tryd.func45, Tryd.ntmps45
  go_wp2
  have HC := Lib.hid (show ∀ wx, Below (w.heap.size + 1) (w.alloc (.cells #[.int .i64 0, .int .i64 0, .int .i64 192, .int .i64 224, .int .i64 240] 3)) wx → ∀ j, j < n → wx.cell? ⟨b, off + j, none⟩ = some (.int .u8 (zs.getD j 0)) from fun wx hx j hj => by
    obtain ⟨_, _, he, hc⟩ := ((HY.out.1.alloc _).below (w' := wx) (by simpa using hx)).int (k := j) (by rw [HY.out.2.2.1]; exact hj)
    simp only [Option.some.injEq, Addr.mk.injEq] at he
    obtain ⟨rfl, rfl, _⟩ := he
    exact hc)
  go_loopw [5] (fun i wr => ∃ k : Nat, 1 ≤ k ∧ k ≤ 5 ∧ i = .int .i64 k ∧ Below (w.heap.size + 1) (w.alloc (.cells #[.int .i64 0, .int .i64 0, .int .i64 192, .int .i64 224, .int .i64 240] 3)) wr ∧ ∀ j : Nat, 1 ≤ j → j < k → j ≤ n → ¬ okAt zs j)
    (fun i _ => 6 - (intOf i).toNat)
  case atStart => exact ⟨1, by omega, by omega, rfl, Below.refl _ _, fun j h1 h2 => by omega⟩
  case round =>
    obtain ⟨k, hk1, hk5, rfl, hbl, hno⟩ := hrel
    have hsz := hbl.size
    have HNO := Lib.hid hno
    clear hno
    by_cases h4 : k ≤ 4
    · by_cases hkn : k ≤ n
      · have hcd0 := cand_bd HY.out.2.1 k
        have hlb := lead_bd k
        have hzb := HY.out.2.1.at 0
        have c0 := HC.out wr hbl 0 h0
        rw [Nat.add_zero] at c0
        have cl := lead_cells hbl h4
        obtain ⟨hlb0, hlb1⟩ := hlb
        obtain ⟨hzb0, hzb1⟩ := hzb
        have hv0 : zs.getD 0 0 - lead k = cand zs k 1 := rfl
        have HCD := Lib.hid hcd0
        have HV := Lib.hid hv0
        generalize hz0 : zs.getD 0 0 = z0 at c0 hzb0 hzb1 HV
        generalize hld : lead k = ld at cl hlb0 hlb1 HV
        have k5 : k < 5 := by omega
        clear hcd0 hv0 hz0 hld
        go_wp2
        go_quiet (fail)
        go_wp2
        have hblq := bel_drewN hbl nq
        obtain ⟨wq, hwq⟩ : ∃ wq, wq = wr.drewN nq := ⟨_, rfl⟩
        rw [← hwq] at hblq ⊢
        clear hwq c0 cl hbl hsz hzb0 hzb1
        have hsz := hblq.size
        go_loop [6, 7] (fun v i => ∃ j : Nat, 1 ≤ j ∧ j ≤ k ∧ i = .int .i64 j ∧ v = .int .i64 (cand zs k j)) (fun _ i => k - (intOf i).toNat)
        case atStart => exact ⟨1, by omega, by omega, rfl, by rw [HV.out]⟩
        case round =>
          obtain ⟨j, hj1, hjk, rfl, rfl⟩ := hrel
          by_cases hj : j < k
          · have hcd := (cand_bd HY.out.2.1 k j hj1 (by omega)).2.2 (by omega)
            have hzb := HY.out.2.1.at j
            have cj := HC.out wq hblq j (by omega)
            have hst := cand_step zs k j hj1
            obtain ⟨hcd0, hcd1⟩ := hcd
            obtain ⟨hzb0, hzb1⟩ := hzb
            have HST := Lib.hid hst
            generalize hz : zs.getD j 0 = z at cj hzb0 hzb1 HST
            generalize hcn : cand zs k j = c at hcd0 hcd1 HST ⊢
            have hjn : j < n := by omega
            clear hst hz hcn HCD
            go_wp2
            go_round
            case rel => exact ⟨j + 1, by omega, by omega, by go_num, by rw [HST.out]⟩
            case measure => simp [intOf]; omega
          · obtain rfl : j = k := by omega
            have hcd := cand_bd HY.out.2.1 j j hj1 (by omega)
            have hno : ¬ okAt zs j → ∀ i : Nat, 1 ≤ i → i < j + 1 → i ≤ n → ¬ okAt zs i := fun h i h1 h2 h3 => by
              by_cases hi : i < j
              · exact HNO.out i h1 hi h3
              · obtain rfl : i = j := by omega
                exact h
            obtain ⟨v, hv⟩ : ∃ v, v = cand zs j j := ⟨_, rfl⟩
            rw [← hv] at hcd ⊢
            have HOK := Lib.hid (show okAt zs j ↔ 0 ≤ v ∧ v ≤ 1114111 ∧ strOfNums (U8.enc v) = strOfNums (zs.take j) by rw [hv]; exact Iff.rfl)
            obtain ⟨hv0, hv1, _⟩ := hcd
            have HNN := Lib.hid hno
            have HB := Lib.hid hblq
            clear hv hno HCD HV hlb0 hlb1 hblq
            by_cases hn0 : 0 ≤ v
            · by_cases hn1 : v ≤ 1114111
              · obtain ⟨S1, hS1⟩ : ∃ S1, S1 = strOfNums (U8.enc v) := ⟨_, rfl⟩
                obtain ⟨S2, hS2⟩ : ∃ S2, S2 = strOfNums (zs.take j) := ⟨_, rfl⟩
                have hcv : ∀ wx, Below wq.heap.size wq wx → Sem.run Tryd.prog (convert 42 9 (.slice (some ⟨b, off, none⟩) j cap)) wx = .ok (.string S2) wx := fun wx hx => by
                  have hat := (((HY.out.1.alloc _).below (w' := wq) (by simpa using HB.out)).below hx).take j
                  rw [← List.map_take] at hat
                  rw [hS2]
                  exact run_str wx _ _ _ Tryd.underlying42 Tryd.underlying5 Tryd.underlying9 _ j cap _ (by rw [List.length_take, HY.out.2.2.1]; omega) hat
                have hcv2 : ∀ (wx : World) (B : Nat) (v2 : Value), wx.ownsRow B 5 1 v2 (U8.enc v).length ((U8.enc v).map (Value.int .u8)) → Sem.run Tryd.prog (convert 42 9 v2) wx = .ok (.string S1) wx := fun wx B v2 hx => by
                  obtain ⟨a2, c2, rfl, _⟩ := owns_slice hx
                  rw [hS1]; exact run_str wx _ _ _ Tryd.underlying42 Tryd.underlying5 Tryd.underlying9 a2 _ c2 _ rfl (AtCells.of_owns hx)
                have HCV2 := Lib.hid hcv2
                have hrefl := Below.refl wq.heap.size wq
                have hrefld : Below wq.heap.size wq wq.drew := hrefl.drew
                have HS := Lib.hid (And.intro hS1 hS2)
                have hjc : j ≤ cap := by omega
                clear hcv2 hS1 hS2
                have HHIT := Lib.hid (show (S1.toList == S2.toList) = true → v = x ∧ (j : Int) = q from fun hq => U8.isPiece_unique (piece_of_ok HY.out.2.1 hj1 (by rw [HY.out.2.2.1]; exact hkn) (by rw [← HS.out.1, ← HS.out.2]; exact str_eq hq)) HY.out.2.2.2)
                have HMISS := Lib.hid (show (S1.toList == S2.toList) = false → ∀ i : Nat, 1 ≤ i → i < j + 1 → i ≤ n → ¬ okAt zs i from fun hq => HNN.out fun h => by
                  have e := (HOK.out.1 h).2.2
                  rw [← HS.out.1, ← HS.out.2] at e
                  rw [e] at hq
                  simp at hq)
                have HSZ := Lib.hid (show w.heap.size + 1 ≤ wq.heap.size by simpa using hsz)
                have h32 : IntKind.i32.wrap v = v := IntWalk.i32_in _ (by omega)
                have d0 : decide (0 ≤ v) = true := by simp; omega
                have d1 : decide (v ≤ 1114111) = true := by simp; omega
                clear hn0 hn1 hv0 hv1 hsz
                go_wp2
                refine wp_region_any (by kernel_rfl) ?_
                change wpAny _ _ _ _ _ _ _ (World.drew _)
                (refine wpAny_take (i := 0) (v := ?_) rfl (by kernel_rfl) (by kernel_rfl) (by kernel_rfl) (fun _ _ _ h => h) (Or.inl ⟨by kernel_rfl, ?_⟩) ?_; rotate_left; focus (intro w; go_simp; (try with_reducible rfl))); rotate_left
                (refine wpAny_take (i := 1) (v := ?_) rfl (by kernel_rfl) (by kernel_rfl) (by kernel_rfl) (fun _ _ _ h => h) (Or.inl ⟨by kernel_rfl, ?_⟩) ?_; rotate_left; focus (intro w; go_simp; (try with_reducible rfl))); rotate_left
                (refine wpAny_take (i := 2) (v := ?_) rfl (by kernel_rfl) (by kernel_rfl) (by kernel_rfl) (fun _ _ _ h => h) (Or.inl ⟨by kernel_rfl, ?_⟩) ?_; rotate_left; focus (intro w; go_simp; (try with_reducible rfl))); rotate_left
                (refine wpAny_take (i := 3) (v := ?_) rfl (by kernel_rfl) (by kernel_rfl) (by kernel_rfl) (fun _ _ _ h => h) (Or.inl ⟨by kernel_rfl, ?_⟩) ?_; rotate_left; focus (intro w; go_simp; (try with_reducible rfl))); rotate_left
                (refine wpAny_take (i := 4) (v := ?_) rfl (by kernel_rfl) (by kernel_rfl) (by kernel_rfl) (fun _ _ _ h => h) (Or.inl ⟨by kernel_rfl, ?_⟩) ?_; rotate_left; focus (intro w; go_simp; (try with_reducible rfl))); rotate_left
                (refine wpAny_take (i := 5) (v := ?_) rfl (by kernel_rfl) (by kernel_rfl) (by kernel_rfl) (fun _ _ _ h => h) (Or.inl ⟨by kernel_rfl, ?_⟩) ?_; rotate_left; focus (intro w; go_simp; (try with_reducible rfl))); rotate_left
                (refine wpAny_take (i := 6) (v := ?_) rfl (by kernel_rfl) (by kernel_rfl) (by kernel_rfl) (fun _ _ _ h => h) (Or.inl ⟨by kernel_rfl, ?_⟩) ?_; rotate_left; focus (intro w; go_simp; (try with_reducible rfl))); rotate_left
                (refine wpAny_take (i := 7) (v := ?_) rfl (by kernel_rfl) (by kernel_rfl) (by kernel_rfl) (fun _ _ _ h => h) (Or.inl ⟨by kernel_rfl, ?_⟩) ?_; rotate_left; focus (intro w; go_simp; (try with_reducible rfl))); rotate_left
                (refine wpAny_take (i := 8) (v := ?_) rfl (by kernel_rfl) (by kernel_rfl) (by kernel_rfl) (fun _ _ _ h => h) (Or.inl ⟨by kernel_rfl, ?_⟩) ?_; rotate_left; focus (intro w; go_simp; (try with_reducible rfl))); rotate_left
                (refine wpAny_take (i := 11) (v := ?_) rfl (by kernel_rfl) (by kernel_rfl) (by kernel_rfl) (fun _ _ _ h => h) (Or.inl ⟨by kernel_rfl, ?_⟩) ?_; rotate_left; focus (intro w; go_simp; (try with_reducible rfl))); rotate_left
                (refine wpAny_take (i := 12) (v := ?_) rfl (by kernel_rfl) (by kernel_rfl) (by kernel_rfl) (fun _ _ _ h => h) (Or.inl ⟨by kernel_rfl, ?_⟩) ?_; rotate_left; focus (intro w; go_simp; (try with_reducible rfl))); rotate_left
                (refine wpAny_take (i := 13) (v := ?_) rfl (by kernel_rfl) (by kernel_rfl) (by kernel_rfl) (fun _ _ _ h => h) (Or.inl ⟨by kernel_rfl, ?_⟩) ?_; rotate_left; focus (intro w; go_simp; (try with_reducible rfl))); rotate_left
                refine wpAny_ready (rs := [9, 14]) (by kernel_rfl) (by simp) ?_
                refine AllReady.cons rfl (fun K hK => ?_) (AllReady.cons rfl (fun K hK => ?_) AllReady.nil)
                · go_simp
                  go_wp2_with (go_at_call 48; refine (refRune_any _ _).mono ?_; rintro e w2 ⟨v2, rfl, hown2, hb2⟩; have hcv3 := HCV2.out _ _ _ hown2; have hb4 : Below wq.heap.size wq w2 := Below.trans hrefld hb2; clear hown2)
                  refine wpAny_ready (rs := [10, 14]) (by kernel_rfl) (by simp) ?_
                  refine AllReady.cons rfl (fun K hK => ?_) (AllReady.cons rfl (fun K hK => ?_) AllReady.nil)
                  · go_simp
                    refine hK _ _ ?_
                    clear hK K
                    refine wpAny_ready (rs := [14]) (by kernel_rfl) (by simp) ?_
                    refine AllReady.cons rfl (fun K hK => ?_) AllReady.nil
                    go_simp
                    refine hK _ _ ?_
                    clear hK K
                    (refine wpAny_take (i := 15) (v := ?_) rfl (by kernel_rfl) (by kernel_rfl) (by kernel_rfl) (fun _ _ _ h => h) (Or.inl ⟨by kernel_rfl, ?_⟩) ?_; rotate_left; focus (intro w; go_simp; (try with_reducible rfl))); rotate_left
                    (refine wpAny_take (i := 16) (v := ?_) rfl (by kernel_rfl) (by kernel_rfl) (by kernel_rfl) (fun _ _ _ h => h) (Or.inl ⟨by kernel_rfl, ?_⟩) ?_; rotate_left; focus (intro w; go_simp; (try with_reducible rfl))); rotate_left
                    refine wpAny_done (by kernel_rfl) ?_ _
                    go_wp2
                    · have hq : (S1.toList == S2.toList) = true := by assumption
                      go_ret2
                      exact ⟨ret_pair2 (HHIT.out hq), ((Below.refl _ _).alloc (Nat.le_refl _) _).trans ((HB.out.trans (hb4.mono HSZ.out)).mono (by omega))⟩
                    · have hq : (S1.toList == S2.toList) = false := by assumption
                      go_roundw
                      case rel => exact ⟨j + 1, by omega, by omega, by go_num, HB.out.trans (hb4.mono HSZ.out), HMISS.out hq⟩
                      case measure => simp [intOf]; omega
                  · go_simp
                    refine hK _ _ ?_
                    clear hK K
                    refine wpAny_ready (rs := [10]) (by kernel_rfl) (by simp) ?_
                    refine AllReady.cons rfl (fun K hK => ?_) AllReady.nil
                    go_simp
                    refine hK _ _ ?_
                    clear hK K
                    (refine wpAny_take (i := 15) (v := ?_) rfl (by kernel_rfl) (by kernel_rfl) (by kernel_rfl) (fun _ _ _ h => h) (Or.inl ⟨by kernel_rfl, ?_⟩) ?_; rotate_left; focus (intro w; go_simp; (try with_reducible rfl))); rotate_left
                    (refine wpAny_take (i := 16) (v := ?_) rfl (by kernel_rfl) (by kernel_rfl) (by kernel_rfl) (fun _ _ _ h => h) (Or.inl ⟨by kernel_rfl, ?_⟩) ?_; rotate_left; focus (intro w; go_simp; (try with_reducible rfl))); rotate_left
                    refine wpAny_done (by kernel_rfl) ?_ _
                    go_wp2
                    · have hq : (S1.toList == S2.toList) = true := by assumption
                      go_ret2
                      exact ⟨ret_pair2 (HHIT.out hq), ((Below.refl _ _).alloc (Nat.le_refl _) _).trans ((HB.out.trans (hb4.mono HSZ.out)).mono (by omega))⟩
                    · have hq : (S1.toList == S2.toList) = false := by assumption
                      go_roundw
                      case rel => exact ⟨j + 1, by omega, by omega, by go_num, HB.out.trans (hb4.mono HSZ.out), HMISS.out hq⟩
                      case measure => simp [intOf]; omega
                · go_simp
                  refine hK _ _ ?_
                  clear hK K
                  refine wpAny_ready (rs := [9]) (by kernel_rfl) (by simp) ?_
                  refine AllReady.cons rfl (fun K hK => ?_) AllReady.nil
                  go_simp
                  go_wp2_with (go_at_call 48; refine (refRune_any _ _).mono ?_; rintro e w2 ⟨v2, rfl, hown2, hb2⟩; have hcv3 := HCV2.out _ _ _ hown2; have hb4 : Below wq.heap.size wq w2 := Below.trans hrefld hb2; clear hown2)
                  refine wpAny_ready (rs := [10]) (by kernel_rfl) (by simp) ?_
                  refine AllReady.cons rfl (fun K hK => ?_) AllReady.nil
                  go_simp
                  refine hK _ _ ?_
                  clear hK K
                  (refine wpAny_take (i := 15) (v := ?_) rfl (by kernel_rfl) (by kernel_rfl) (by kernel_rfl) (fun _ _ _ h => h) (Or.inl ⟨by kernel_rfl, ?_⟩) ?_; rotate_left; focus (intro w; go_simp; (try with_reducible rfl))); rotate_left
                  (refine wpAny_take (i := 16) (v := ?_) rfl (by kernel_rfl) (by kernel_rfl) (by kernel_rfl) (fun _ _ _ h => h) (Or.inl ⟨by kernel_rfl, ?_⟩) ?_; rotate_left; focus (intro w; go_simp; (try with_reducible rfl))); rotate_left
                  refine wpAny_done (by kernel_rfl) ?_ _
                  go_wp2
                  · have hq : (S1.toList == S2.toList) = true := by assumption
                    go_ret2
                    exact ⟨ret_pair2 (HHIT.out hq), ((Below.refl _ _).alloc (Nat.le_refl _) _).trans ((HB.out.trans (hb4.mono HSZ.out)).mono (by omega))⟩
                  · have hq : (S1.toList == S2.toList) = false := by assumption
                    go_roundw
                    case rel => exact ⟨j + 1, by omega, by omega, by go_num, HB.out.trans (hb4.mono HSZ.out), HMISS.out hq⟩
                    case measure => simp [intOf]; omega
              · have HNO2 := Lib.hid (HNN.out fun h => hn1 (HOK.out.1 h).2.1)
                have d1 : decide (v ≤ 1114111) = false := by simp; omega
                go_wp2
                go_quiet (fail)
                go_wp2
                go_roundw
                case rel => exact ⟨j + 1, by omega, by omega, by go_num, bel_drewN HB.out _, HNO2.out⟩
                case measure => simp [intOf]; omega
            · have HNO2 := Lib.hid (HNN.out fun h => hn0 (HOK.out.1 h).1)
              have d1 : decide (0 ≤ v) = false := by simp; omega
              go_wp2
              go_quiet (fail)
              go_wp2
              go_roundw
              case rel => exact ⟨j + 1, by omega, by omega, by go_num, bel_drewN HB.out _, HNO2.out⟩
              case measure => simp [intOf]; omega
      · have HF := Lib.hid (U8.isPiece_unique (piece_of_none (fun j h1 h4 hl => HNO.out j h1 (by have := HY.out.2.2.1; omega) (by have := HY.out.2.2.1; omega))) HY.out.2.2.2)
        go_wp2
        go_ret2
        exact ⟨ret_pair2 HF.out, ((Below.refl _ _).alloc (Nat.le_refl _) _).trans (hbl.mono (by omega))⟩
    · obtain rfl : k = 5 := by omega
      have HF := Lib.hid (U8.isPiece_unique (piece_of_none (fun j h1 h4 hl => HNO.out j h1 (by omega) (by have := HY.out.2.2.1; omega))) HY.out.2.2.2)
      go_wp2
      go_ret2
      exact ⟨ret_pair2 HF.out, ((Below.refl _ _).alloc (Nat.le_refl _) _).trans (hbl.mono (by omega))⟩

end Go.Proofs.YtlkcnfkfccfhmaaDoor
