/-
  ScanBack: for every list of runes and every list of bytes it returns true, if Valid answers whether no piece is Bad.
-/
import Derived.Test.YthbaknillijeoaaDoorScanJ
import Derived.Deep.RegionHeld3
import Derived.Deep.RegionWith
import Derived.Deep.QuietTactic
import Derived.BigQuiet
import Derived.IntWalk
namespace Go.Proofs.YthbaknillijeoaaDoor
open Go.RowKit

theorem Tryd.infoI32 : (Tryd.prog.info? 21).map (fun i => (i.zero, i.size, i.bytes)) = some (some (.int .i32 0), 1, 4) := by kernel_rfl

theorem runes_bd (s : ByteArray) : ∀ fuel pos, s.size ≤ pos + fuel → pos ≤ s.size → Runes (runesOf (itemsFrom s fuel pos)) := by
  intro fuel
  induction fuel with
  | zero => intro pos _ _ z hz; simp [itemsFrom, runesOf] at hz
  | succ f ih =>
    intro pos h1 h2
    by_cases hp : pos < s.size
    · have hg := good_itemAt s pos hp
      obtain ⟨_, hk⟩ := itemAt_piece s pos hp
      have hf := hg.fits
      have ho : (itemAt s pos).2.1 = (pos : Int) := rfl
      rw [ho, hk] at hf
      have hw := Lib.decode_width_pos s pos hp
      have hstep : itemsFrom s (f + 1) pos = itemAt s pos :: itemsFrom s f (pos + (Utf8.decode s pos).2) := by simp [itemsFrom, hp]
      have := ih (pos + (Utf8.decode s pos).2) (by omega) (by omega)
      rw [hstep]
      intro z hz
      rcases List.mem_cons.1 hz with rfl | hz
      · show -2147483648 ≤ (itemAt s pos).1 ∧ (itemAt s pos).1 ≤ 2147483647
        by_cases hr : (itemAt s pos).1 = -1
        · rw [hr]; omega
        · have hwd := hg.wide hr
          have h1 := hg.one
          have := U8.width_range (r := (itemAt s pos).1) (by omega)
          omega
      · exact this z hz
    · rw [itemsFrom_end _ _ _ hp]
      intro z hz; simp [runesOf] at hz

theorem runesOf_length (l : List (Int × Int × Int)) : (runesOf l).length = l.length := by simp [runesOf]
theorem runesOf_take (l : List (Int × Int × Int)) {k : Nat} {x : Int × Int × Int} (h : l[k]? = some x) : runesOf (l.take (k + 1)) = runesOf (l.take k) ++ [x.1] := by
  have hk : k < l.length := by
    by_cases hk : k < l.length
    · exact hk
    · rw [List.getElem?_eq_none (by omega)] at h; simp at h
  rw [List.take_succ_eq_append_getElem hk]
  have : l[k] = x := by rw [List.getElem?_eq_getElem hk] at h; simpa using h
  rw [this]; simp [runesOf]

set_option maxHeartbeats 16000000 in
theorem scanBack_core (a : Option Addr) (n cap : Nat) (zs : List Int) (a' : Option Addr) (n' cap' : Nat) (ys : List Int) (w : World)
    (hn : zs.length = n) (hc : n ≤ cap) (hm : cap ≤ maxLen) (hz : Runes zs) (hat : AtCells w a (zs.map (.int .i32)))
    (hn' : ys.length = n') (hc' : n' ≤ cap') (hm' : cap' ≤ maxLen) (hb : Bys ys) (hat' : AtCells w a' (ys.map (.int .u8)))
    (hV : ∀ m, m = min n' 200 → ∀ w', Below w.heap.size w w' → Calls Tryd.prog 9 #[.slice a' m cap'] w' fun e w2 => e = .returned (.bool ((itemsOf (strOfNums (ys.take m))).all isGood)) ∧ Below w'.heap.size w' w2) :
    Calls Tryd.prog 5 #[.slice a n cap, .slice a' n' cap'] w fun e w' => e = .returned (.bool true) ∧ Below w.heap.size w w' := by
  obtain ⟨i0, hi, hz0, hz1, hz2⟩ := info_parts Tryd.infoI32
  have HI := Lib.hid (And.intro hi (And.intro hz0 (And.intro hz1 hz2)))
  clear hi hz0 hz1 hz2
  obtain ⟨m, hmm⟩ : ∃ m, m = min n 60 := ⟨_, rfl⟩
  obtain ⟨p, hpp⟩ : ∃ p, p = min n' 200 := ⟨_, rfl⟩
  have HVV := Lib.hid (hV p hpp)
  have hm60 : m ≤ 60 := by omega
  have hmc : m ≤ cap := by omega
  have hp200 : p ≤ 200 := by omega
  have hpc : p ≤ cap' := by omega
  have ht := hat.take m
  rw [← List.map_take] at ht
  have htn : (zs.take m).length = m := by rw [List.length_take]; omega
  have htz : Runes (zs.take m) := fun z h => hz z (List.mem_of_mem_take h)
  have ht' := hat'.take p
  rw [← List.map_take] at ht'
  have htn' : (ys.take p).length = p := by rw [List.length_take]; omega
  have htb := hb.take p
  generalize zs.take m = us at ht htn htz
  generalize ys.take p = bs at ht' htn' htb HVV
  have HF := Lib.hid (fun wx => few_any a n cap wx hc hm)
  have HG := Lib.hid (fun wx => short_any a' n' cap' wx hc' hm')
  rw [← hmm] at HF
  rw [← hpp] at HG
  have HU := Lib.hid (And.intro ht (And.intro htn htz))
  have HS := Lib.hid (And.intro ht' (And.intro htn' htb))
  have hel := U8.encs_length_le us
  have HB1 := Lib.hid (bytes_any a m cap us w htn (by omega) ht htz)
  have HIT := Lib.hid (show ∀ (wx : World) (B : Nat) (v : Value), wx.ownsRow B 5 1 v (U8.encs us).length ((U8.encs us).map (Value.int .u8)) → Calls Tryd.prog 7 #[v] wx (OwnItems wx (pieces (kept us) 0)) from fun wx B v hx => by
    obtain ⟨a2, c2, rfl, hc2⟩ := owns_slice hx
    have h := items_any a2 (U8.encs us).length c2 (U8.encs us) wx rfl (by omega) (AtCells.of_owns hx)
    rw [items_encs] at h
    exact h)
  obtain ⟨q, hq⟩ : ∃ q, q = (pieces (kept us) 0).length := ⟨_, rfl⟩
  have HQ := Lib.hid hq
  have hq60 : q ≤ 60 := by
    rw [hq, pieces_length]; unfold kept
    have := List.length_filter_le (fun r => !decide (U8.width r = 0)) us; omega
  have hL1 := itemsOf_length (strOfNums bs)
  rw [strOfNums_size, htn'] at hL1
  have HIT2 := Lib.hid (show ∀ wx, Below w.heap.size w wx → Calls Tryd.prog 7 #[.slice a' p cap'] wx (OwnItems wx (itemsOf (strOfNums bs))) from fun wx hx => items_any a' p cap' bs wx htn' (by omega) (ht'.below hx))
  have hrb : Runes (runesOf (itemsOf (strOfNums bs))) := runes_bd (strOfNums bs) (strOfNums bs).size 0 (by omega) (by omega)
  have hbi := back_iff bs htb
  obtain ⟨L, hL⟩ : ∃ L, L = itemsOf (strOfNums bs) := ⟨_, rfl⟩
  rw [← hL] at hL1 HIT2 hrb hbi HVV
  have HRB := Lib.hid hrb
  have HBI := Lib.hid hbi
  obtain ⟨g, hg⟩ : ∃ g, g = L.length := ⟨_, rfl⟩
  have HGL := Lib.hid hg
  rw [← hg] at hL1
  clear ht htn htz ht' htn' htb hat hat' hn hn' hmm hpp hm hm' hc hc' hel hq hz hb hV hL hrb hbi hg
  go_enter Tryd.func5, Tryd.ntmps5
  go_wp2_with (first
    | (go_at_call 13; refine (HF.out _).mono ?_; rintro e w' ⟨rfl, rfl⟩)
    | (go_at_call 6; refine (HG.out _).mono ?_; rintro e w' ⟨rfl, rfl⟩)
    | (go_at_call 14; refine HB1.out.mono ?_; rintro e w1 ⟨v1, rfl, hown1, hb1⟩; have HO1 := Lib.hid hown1; clear hown1)
    | (go_at_call 7; refine (HIT.out _ _ _ HO1.out).mono ?_; rintro e w2 ⟨v2, rfl, hown2, hb2⟩; rw [← HQ.out] at hown2; obtain ⟨ai, ci, rfl, hci⟩ := owns_slice hown2; have HOWN := Lib.hid hown2; clear hown2 hci))
  have HA := Lib.hid (AtCells.of_owns HOWN.out)
  have HB12 := Lib.hid (hb1.trans (hb2.mono hb1.size))
  have HAT := Lib.hid (HU.out.1.below HB12.out)
  clear hb1 hb2
  go_loopw [5, 21] (fun s i wr => ∃ j : Nat, j ≤ m ∧ i = .int .i64 j ∧ s = .int .i64 (kept (us.take j)).length ∧ wr = w2) (fun _ i _ => m - (intOf i).toNat)
  case atStart => exact ⟨0, Nat.zero_le _, rfl, rfl, rfl⟩
  case round =>
    obtain ⟨j, hj, rfl, rfl, rfl⟩ := hrel
    by_cases hlt : j < m
    · obtain ⟨b, off, rfl, hcell⟩ := HAT.out.int (k := j) (by rw [HU.out.2.1]; exact hlt)
      have hts := U8.take_succ us j (by rw [HU.out.2.1]; exact hlt)
      have hka := kept_at us j (by rw [HU.out.2.1]; exact hlt)
      obtain ⟨z, hz⟩ : ∃ z, z = us.getD j 0 := ⟨_, rfl⟩
      rw [← hz] at hcell hts hka
      obtain ⟨kk, hkk⟩ : ∃ kk, kk = (kept (us.take j)).length := ⟨_, rfl⟩
      rw [← hkk] at hka
      rw [← hkk]
      have hnext : (kept (us.take (j + 1))).length = kk + (if U8.width z ≠ 0 then 1 else 0) := by
        rw [hts, kept_snoc, List.length_append, ← hkk]; split <;> rfl
      have HN := Lib.hid hnext
      clear hz hts hkk hnext
      by_cases hw : U8.width z = 0
      · have hw1 : (U8.width z == 0) = true := by rw [hw]; rfl
        have HW := Lib.hid hw
        clear hw hka
        go_wp2_with (go_at_call 15; refine (width_any _ _).mono ?_; rintro e w' ⟨rfl, rfl⟩)
        go_roundw
        case rel => exact ⟨j + 1, by omega, by go_num, by rw [HN.out, if_neg (by have := HW.out; omega)]; rfl, trivial⟩
        case measure => simp [intOf]; omega
      · have hw1 : (U8.width z == 0) = false := by simp [hw]
        obtain ⟨x, hx, hx1⟩ := pieces_at (kept us) 0 kk z (hka hw)
        obtain ⟨b', off', rfl, d0, _, _⟩ := item_cells HA.out hx
        have hkq : kk < q := by
          rw [HQ.out]
          by_cases h : kk < (pieces (kept us) 0).length
          · exact h
          · rw [List.getElem?_eq_none (by omega)] at hx; simp at hx
        have hkq2 : (kk : Int) < (q : Int) := by omega
        rw [hx1] at d0
        have HW := Lib.hid hw
        clear hw hka hx hx1
        go_wp2_with (go_at_call 15; refine (width_any _ _).mono ?_; rintro e w' ⟨rfl, rfl⟩)
        go_roundw
        case rel => exact ⟨j + 1, by omega, by go_num, by rw [HN.out, if_pos HW.out]; go_num, trivial⟩
        case measure => simp [intOf]; omega
    · obtain rfl : j = m := by omega
      have HT := Lib.hid (show (kept (us.take j)).length = q by rw [List.take_of_length_le (by have := HU.out.2.1; omega), HQ.out, pieces_length])
      rw [HT.out]
      clear hj hlt
      go_wp2_with (go_at_call 7; refine (HIT2.out _ HB12.out).mono ?_; rintro e w4 ⟨v4, rfl, hown4, hb4⟩; rw [← HGL.out] at hown4; obtain ⟨a4, c4, rfl, hc4⟩ := owns_slice hown4; have HO4 := Lib.hid hown4; clear hown4)
      have HA4 := Lib.hid (AtCells.of_owns HO4.out)
      have HB4 := Lib.hid (HB12.out.trans (hb4.mono HB12.out.size))
      clear hb4
      go_loopw [9, 47] (fun v i wx => ∃ k : Nat, k ≤ g ∧ i = .int .i64 k ∧ wx.ownsRow w4.heap.size 21 1 v k ((runesOf (L.take k)).map (Value.int .i32)) ∧ Below w4.heap.size w4 wx) (fun _ i _ => g - (intOf i).toNat)
      case atStart => exact ⟨0, Nat.zero_le _, rfl, by simpa [runesOf] using World.ownsRow_nil _ _ _ _, Below.refl _ _⟩
      case round =>
        obtain ⟨k, hk, rfl, hown, hbl⟩ := hrel
        by_cases hlt : k < g
        · obtain ⟨x, hx⟩ : ∃ x, L[k]? = some x := ⟨_, List.getElem?_eq_getElem (by rw [← HGL.out]; exact hlt)⟩
          obtain ⟨b, off, rfl, c0, c1, c2⟩ := item_cells (HA4.out.below hbl) hx
          have hst := runesOf_take L hx
          obtain ⟨r, o, nn⟩ := x
          simp only at c0 c1 c2 hst
          have HST := Lib.hid hst
          have HOW := Lib.hid hown
          have HM := Lib.hid (And.intro (show k + 1 ≤ maxLen by unfold maxLen; omega) (show (k + 1) * 4 ≤ 140737488355328 by omega))
          have hsz := hbl.size
          clear hst hx hown
          go_wp2_with (at_builtin; refine wpList_append_own _ rfl _ _ 35 rfl w4.heap.size 21 i0 _ 1 4 Tryd.underlying35 HI.out.1 HI.out.2.1 HI.out.2.2.1 HI.out.2.2.2 rfl (by decide) _ _ _ rfl ((HOW.out.alloc _).alloc _) _ _ _ [.int .i32 r] rfl rfl (new_cells_at _ _ _ _ (by simp)) (by intro u hu; simp at hu; subst hu; rfl) HM.out.1 HM.out.2 (by simp; omega) ?_; intro v' w5 hown' hg' _)
          have HNX := Lib.hid (And.intro hown' (below_box hbl hsz hg' HOW.out (Nat.le_refl _)))
          clear hg' hown'
          go_roundw
          case rel => exact ⟨k + 1, by omega, by go_num, by rw [HST.out, List.map_append]; exact HNX.out.1, HNX.out.2⟩
          case measure => simp [intOf]; omega
        · obtain rfl : k = g := by omega
          have HT2 := Lib.hid (show L.take k = L from List.take_of_length_le (by have := HGL.out; omega))
          rw [HT2.out] at hown
          obtain ⟨a9, c9, rfl, hc9⟩ := owns_slice hown
          have HO9 := Lib.hid hown
          have HBL := Lib.hid (HB4.out.trans (hbl.mono HB4.out.size))
          have hx9 : AtCells wr a9 ((runesOf L).map (Value.int .i32)) := AtCells.of_owns hown
          have HBY := Lib.hid (show ∀ wx, Below wr.heap.size wr wx → Calls Tryd.prog 14 #[.slice a9 k c9] wx (OwnBytes wx (U8.encs (runesOf L))) from fun wx hx => bytes_any a9 k c9 (runesOf L) wx (by rw [runesOf_length, ← HGL.out]) (by omega) (hx9.below hx) HRB.out)
          obtain ⟨S1, hS1⟩ : ∃ S1, S1 = strOfNums (U8.encs (runesOf L)) := ⟨_, rfl⟩
          obtain ⟨S2, hS2⟩ : ∃ S2, S2 = strOfNums bs := ⟨_, rfl⟩
          obtain ⟨V, hV⟩ : ∃ V, V = L.all isGood := ⟨_, rfl⟩
          have hbi := HBI.out
          rw [← hS1, ← hS2, ← hV] at hbi
          rw [← hV] at HVV
          have hs : (S1.toList == S2.toList) = V := by
            cases V with
            | true => rw [hbi.2 rfl]; simp
            | false =>
              cases hh : (S1.toList == S2.toList) with
              | false => rfl
              | true => exact absurd (hbi.1 (str_eq hh)) (by simp)
          have hcv : ∀ wx, Below wr.heap.size wr wx → Sem.run Tryd.prog (convert 22 9 (.slice a' p cap')) wx = .ok (.string S2) wx := fun wx hx => by
            rw [hS2]
            exact run_str wx _ _ _ Tryd.underlying22 Tryd.underlying5 Tryd.underlying9 a' p cap' _ HS.out.2.1 ((HS.out.1.below HBL.out).below hx)
          have hcv2 : ∀ (wx : World) (B : Nat) (v2 : Value), wx.ownsRow B 5 1 v2 (U8.encs (runesOf L)).length ((U8.encs (runesOf L)).map (Value.int .u8)) → Sem.run Tryd.prog (convert 22 9 v2) wx = .ok (.string S1) wx := fun wx B v2 hx => by
            obtain ⟨a2, c2, rfl, _⟩ := owns_slice hx
            rw [hS1]; exact run_str wx _ _ _ Tryd.underlying22 Tryd.underlying5 Tryd.underlying9 a2 _ c2 _ rfl (AtCells.of_owns hx)
          have HCV2 := Lib.hid hcv2
          have hrefl := Below.refl wr.heap.size wr
          have hrefld : Below wr.heap.size wr wr.drew := hrefl.drew
          clear hcv2 hS1 hS2 hV hbi hx9 hown hbl hlt hk
          cases V
          all_goals
            go_wp2
            refine wp_region_any (by kernel_rfl) ?_
            change wpAny _ _ _ _ _ _ _ (World.drew _)
            (refine wpAny_take (i := 0) (v := ?_) rfl (by kernel_rfl) (by kernel_rfl) (by kernel_rfl) (fun _ _ _ h => h) (Or.inl ⟨by kernel_rfl, ?_⟩) ?_; rotate_left; focus (intro w; go_simp; (try with_reducible rfl))); rotate_left
            (refine wpAny_take (i := 1) (v := ?_) rfl (by kernel_rfl) (by kernel_rfl) (by kernel_rfl) (fun _ _ _ h => h) (Or.inl ⟨by kernel_rfl, ?_⟩) ?_; rotate_left; focus (intro w; go_simp; (try with_reducible rfl))); rotate_left
            (refine wpAny_take (i := 2) (v := ?_) rfl (by kernel_rfl) (by kernel_rfl) (by kernel_rfl) (fun _ _ _ h => h) (Or.inl ⟨by kernel_rfl, ?_⟩) ?_; rotate_left; focus (intro w; go_simp; (try with_reducible rfl))); rotate_left
            (refine wpAny_take (i := 3) (v := ?_) rfl (by kernel_rfl) (by kernel_rfl) (by kernel_rfl) (fun _ _ _ h => h) (Or.inl ⟨by kernel_rfl, ?_⟩) ?_; rotate_left; focus (intro w; go_simp; (try with_reducible rfl))); rotate_left
            (refine wpAny_take (i := 4) (v := ?_) rfl (by kernel_rfl) (by kernel_rfl) (by kernel_rfl) (fun _ _ _ h => h) (Or.inl ⟨by kernel_rfl, ?_⟩) ?_; rotate_left; focus (intro w; go_simp; (try with_reducible rfl))); rotate_left
            (refine wpAny_take (i := 5) (v := ?_) rfl (by kernel_rfl) (by kernel_rfl) (by kernel_rfl) (fun _ _ _ h => h) (Or.inl ⟨by kernel_rfl, ?_⟩) ?_; rotate_left; focus (intro w; go_simp; (try with_reducible rfl))); rotate_left
            (refine wpAny_take (i := 8) (v := ?_) rfl (by kernel_rfl) (by kernel_rfl) (by kernel_rfl) (fun _ _ _ h => h) (Or.inl ⟨by kernel_rfl, ?_⟩) ?_; rotate_left; focus (intro w; go_simp; (try with_reducible rfl))); rotate_left
            (refine wpAny_take (i := 11) (v := ?_) rfl (by kernel_rfl) (by kernel_rfl) (by kernel_rfl) (fun _ _ _ h => h) (Or.inl ⟨by kernel_rfl, ?_⟩) ?_; rotate_left; focus (intro w; go_simp; (try with_reducible rfl))); rotate_left
            refine wpAny_ready (rs := [6, 9]) (by kernel_rfl) (by simp) ?_
            refine AllReady.cons rfl (fun K hK => ?_) (AllReady.cons rfl (fun K hK => ?_) AllReady.nil)
            · go_simp
              go_wp2_with (go_at_call 14; refine (HBY.out _ hrefld).mono ?_; rintro e x1 ⟨v2, rfl, hown2, hb2⟩; have hbx1 : Below wr.heap.size wr x1 := Below.trans hrefld hb2; have HX1 := Lib.hid (HBL.out.trans (hbx1.mono HBL.out.size)); have hcv1 := HCV2.out _ _ _ hown2; have HOWN2 := Lib.hid hown2; clear hown2 hb2)
              refine wpAny_ready (rs := [7, 9, 12]) (by kernel_rfl) (by simp) ?_
              refine AllReady.cons rfl (fun K hK => ?_) (AllReady.cons rfl (fun K hK => ?_) (AllReady.cons rfl (fun K hK => ?_) AllReady.nil))
              · go_simp
                refine hK _ _ ?_
                clear hK K
                refine wpAny_ready (rs := [9, 12]) (by kernel_rfl) (by simp) ?_
                refine AllReady.cons rfl (fun K hK => ?_) (AllReady.cons rfl (fun K hK => ?_) AllReady.nil)
                · go_simp
                  refine hK _ _ ?_
                  clear hK K
                  (refine wpAny_take (i := 10) (v := ?_) rfl (by kernel_rfl) (by kernel_rfl) (by kernel_rfl) (fun _ _ _ h => h) (Or.inl ⟨by kernel_rfl, ?_⟩) ?_; rotate_left; focus (intro w; go_simp; (try with_reducible rfl))); rotate_left
                  refine wpAny_ready (rs := [12]) (by kernel_rfl) (by simp) ?_
                  refine AllReady.cons rfl (fun K hK => ?_) AllReady.nil
                  go_simp
                  go_wp2_with (go_at_call 9; refine (HVV.out _ HX1.out).mono ?_; rintro e x2 ⟨rfl, hb3⟩; have HX2 := Lib.hid (HX1.out.trans (hb3.mono HX1.out.size)); have hbx2 : Below wr.heap.size wr x2 := hbx1.trans (hb3.mono hbx1.size); have hcv2 := HCV2.out _ _ _ (owns_below HOWN2.out hb3); clear hb3)
                  (refine wpAny_take (i := 13) (v := ?_) rfl (by kernel_rfl) (by kernel_rfl) (by kernel_rfl) (fun _ _ _ h => h) (Or.inl ⟨by kernel_rfl, ?_⟩) ?_; rotate_left; focus (intro w; go_simp; (try with_reducible rfl))); rotate_left
                  (refine wpAny_take (i := 14) (v := ?_) rfl (by kernel_rfl) (by kernel_rfl) (by kernel_rfl) (fun _ _ _ h => h) (Or.inl ⟨by kernel_rfl, ?_⟩) ?_; rotate_left; focus (intro w; go_simp; (try with_reducible rfl))); rotate_left
                  (refine wpAny_take (i := 15) (v := ?_) rfl (by kernel_rfl) (by kernel_rfl) (by kernel_rfl) (fun _ _ _ h => h) (Or.inl ⟨by kernel_rfl, ?_⟩) ?_; rotate_left; focus (intro w; go_simp; (try with_reducible rfl))); rotate_left
                  refine wpAny_ready (rs := [16]) (by kernel_rfl) (by simp) ?_
                  refine AllReady.cons rfl (fun K hK => ?_) AllReady.nil
                  go_simp
                  go_wp2_with (go_at_call 10; refine (awake_any _).mono ?_; rintro e x3 ⟨rfl, hb4⟩)
                  (refine wpAny_take (i := 17) (v := ?_) rfl (by kernel_rfl) (by kernel_rfl) (by kernel_rfl) (fun _ _ _ h => h) (Or.inl ⟨by kernel_rfl, ?_⟩) ?_; rotate_left; focus (intro w; go_simp; (try with_reducible rfl))); rotate_left
                  refine wpAny_ready (rs := [18]) (by kernel_rfl) (by simp) ?_
                  refine AllReady.cons rfl (fun K hK => ?_) AllReady.nil
                  go_simp
                  refine hK _ _ ?_
                  clear hK K
                  refine wpAny_done (by kernel_rfl) ?_ _
                  go_wp2
                  go_ret
                  exact ⟨rfl, HX2.out.trans (hb4.mono HX2.out.size)⟩
                · go_simp
                  go_wp2_with (go_at_call 9; refine (HVV.out _ HX1.out).mono ?_; rintro e x2 ⟨rfl, hb3⟩; have HX2 := Lib.hid (HX1.out.trans (hb3.mono HX1.out.size)); have hbx2 : Below wr.heap.size wr x2 := hbx1.trans (hb3.mono hbx1.size); have hcv2 := HCV2.out _ _ _ (owns_below HOWN2.out hb3); clear hb3)
                  refine wpAny_ready (rs := [9]) (by kernel_rfl) (by simp) ?_
                  refine AllReady.cons rfl (fun K hK => ?_) AllReady.nil
                  go_simp
                  refine hK _ _ ?_
                  clear hK K
                  (refine wpAny_take (i := 10) (v := ?_) rfl (by kernel_rfl) (by kernel_rfl) (by kernel_rfl) (fun _ _ _ h => h) (Or.inl ⟨by kernel_rfl, ?_⟩) ?_; rotate_left; focus (intro w; go_simp; (try with_reducible rfl))); rotate_left
                  (refine wpAny_take (i := 13) (v := ?_) rfl (by kernel_rfl) (by kernel_rfl) (by kernel_rfl) (fun _ _ _ h => h) (Or.inl ⟨by kernel_rfl, ?_⟩) ?_; rotate_left; focus (intro w; go_simp; (try with_reducible rfl))); rotate_left
                  (refine wpAny_take (i := 14) (v := ?_) rfl (by kernel_rfl) (by kernel_rfl) (by kernel_rfl) (fun _ _ _ h => h) (Or.inl ⟨by kernel_rfl, ?_⟩) ?_; rotate_left; focus (intro w; go_simp; (try with_reducible rfl))); rotate_left
                  (refine wpAny_take (i := 15) (v := ?_) rfl (by kernel_rfl) (by kernel_rfl) (by kernel_rfl) (fun _ _ _ h => h) (Or.inl ⟨by kernel_rfl, ?_⟩) ?_; rotate_left; focus (intro w; go_simp; (try with_reducible rfl))); rotate_left
                  refine wpAny_ready (rs := [16]) (by kernel_rfl) (by simp) ?_
                  refine AllReady.cons rfl (fun K hK => ?_) AllReady.nil
                  go_simp
                  go_wp2_with (go_at_call 10; refine (awake_any _).mono ?_; rintro e x3 ⟨rfl, hb4⟩)
                  (refine wpAny_take (i := 17) (v := ?_) rfl (by kernel_rfl) (by kernel_rfl) (by kernel_rfl) (fun _ _ _ h => h) (Or.inl ⟨by kernel_rfl, ?_⟩) ?_; rotate_left; focus (intro w; go_simp; (try with_reducible rfl))); rotate_left
                  refine wpAny_ready (rs := [18]) (by kernel_rfl) (by simp) ?_
                  refine AllReady.cons rfl (fun K hK => ?_) AllReady.nil
                  go_simp
                  refine hK _ _ ?_
                  clear hK K
                  refine wpAny_done (by kernel_rfl) ?_ _
                  go_wp2
                  go_ret
                  exact ⟨rfl, HX2.out.trans (hb4.mono HX2.out.size)⟩
              · go_simp
                refine hK _ _ ?_
                clear hK K
                refine wpAny_ready (rs := [7, 12]) (by kernel_rfl) (by simp) ?_
                refine AllReady.cons rfl (fun K hK => ?_) (AllReady.cons rfl (fun K hK => ?_) AllReady.nil)
                · go_simp
                  refine hK _ _ ?_
                  clear hK K
                  (refine wpAny_take (i := 10) (v := ?_) rfl (by kernel_rfl) (by kernel_rfl) (by kernel_rfl) (fun _ _ _ h => h) (Or.inl ⟨by kernel_rfl, ?_⟩) ?_; rotate_left; focus (intro w; go_simp; (try with_reducible rfl))); rotate_left
                  refine wpAny_ready (rs := [12]) (by kernel_rfl) (by simp) ?_
                  refine AllReady.cons rfl (fun K hK => ?_) AllReady.nil
                  go_simp
                  go_wp2_with (go_at_call 9; refine (HVV.out _ HX1.out).mono ?_; rintro e x2 ⟨rfl, hb3⟩; have HX2 := Lib.hid (HX1.out.trans (hb3.mono HX1.out.size)); have hbx2 : Below wr.heap.size wr x2 := hbx1.trans (hb3.mono hbx1.size); have hcv2 := HCV2.out _ _ _ (owns_below HOWN2.out hb3); clear hb3)
                  (refine wpAny_take (i := 13) (v := ?_) rfl (by kernel_rfl) (by kernel_rfl) (by kernel_rfl) (fun _ _ _ h => h) (Or.inl ⟨by kernel_rfl, ?_⟩) ?_; rotate_left; focus (intro w; go_simp; (try with_reducible rfl))); rotate_left
                  (refine wpAny_take (i := 14) (v := ?_) rfl (by kernel_rfl) (by kernel_rfl) (by kernel_rfl) (fun _ _ _ h => h) (Or.inl ⟨by kernel_rfl, ?_⟩) ?_; rotate_left; focus (intro w; go_simp; (try with_reducible rfl))); rotate_left
                  (refine wpAny_take (i := 15) (v := ?_) rfl (by kernel_rfl) (by kernel_rfl) (by kernel_rfl) (fun _ _ _ h => h) (Or.inl ⟨by kernel_rfl, ?_⟩) ?_; rotate_left; focus (intro w; go_simp; (try with_reducible rfl))); rotate_left
                  refine wpAny_ready (rs := [16]) (by kernel_rfl) (by simp) ?_
                  refine AllReady.cons rfl (fun K hK => ?_) AllReady.nil
                  go_simp
                  go_wp2_with (go_at_call 10; refine (awake_any _).mono ?_; rintro e x3 ⟨rfl, hb4⟩)
                  (refine wpAny_take (i := 17) (v := ?_) rfl (by kernel_rfl) (by kernel_rfl) (by kernel_rfl) (fun _ _ _ h => h) (Or.inl ⟨by kernel_rfl, ?_⟩) ?_; rotate_left; focus (intro w; go_simp; (try with_reducible rfl))); rotate_left
                  refine wpAny_ready (rs := [18]) (by kernel_rfl) (by simp) ?_
                  refine AllReady.cons rfl (fun K hK => ?_) AllReady.nil
                  go_simp
                  refine hK _ _ ?_
                  clear hK K
                  refine wpAny_done (by kernel_rfl) ?_ _
                  go_wp2
                  go_ret
                  exact ⟨rfl, HX2.out.trans (hb4.mono HX2.out.size)⟩
                · go_simp
                  go_wp2_with (go_at_call 9; refine (HVV.out _ HX1.out).mono ?_; rintro e x2 ⟨rfl, hb3⟩; have HX2 := Lib.hid (HX1.out.trans (hb3.mono HX1.out.size)); have hbx2 : Below wr.heap.size wr x2 := hbx1.trans (hb3.mono hbx1.size); have hcv2 := HCV2.out _ _ _ (owns_below HOWN2.out hb3); clear hb3)
                  refine wpAny_ready (rs := [7]) (by kernel_rfl) (by simp) ?_
                  refine AllReady.cons rfl (fun K hK => ?_) AllReady.nil
                  go_simp
                  refine hK _ _ ?_
                  clear hK K
                  (refine wpAny_take (i := 10) (v := ?_) rfl (by kernel_rfl) (by kernel_rfl) (by kernel_rfl) (fun _ _ _ h => h) (Or.inl ⟨by kernel_rfl, ?_⟩) ?_; rotate_left; focus (intro w; go_simp; (try with_reducible rfl))); rotate_left
                  (refine wpAny_take (i := 13) (v := ?_) rfl (by kernel_rfl) (by kernel_rfl) (by kernel_rfl) (fun _ _ _ h => h) (Or.inl ⟨by kernel_rfl, ?_⟩) ?_; rotate_left; focus (intro w; go_simp; (try with_reducible rfl))); rotate_left
                  (refine wpAny_take (i := 14) (v := ?_) rfl (by kernel_rfl) (by kernel_rfl) (by kernel_rfl) (fun _ _ _ h => h) (Or.inl ⟨by kernel_rfl, ?_⟩) ?_; rotate_left; focus (intro w; go_simp; (try with_reducible rfl))); rotate_left
                  (refine wpAny_take (i := 15) (v := ?_) rfl (by kernel_rfl) (by kernel_rfl) (by kernel_rfl) (fun _ _ _ h => h) (Or.inl ⟨by kernel_rfl, ?_⟩) ?_; rotate_left; focus (intro w; go_simp; (try with_reducible rfl))); rotate_left
                  refine wpAny_ready (rs := [16]) (by kernel_rfl) (by simp) ?_
                  refine AllReady.cons rfl (fun K hK => ?_) AllReady.nil
                  go_simp
                  go_wp2_with (go_at_call 10; refine (awake_any _).mono ?_; rintro e x3 ⟨rfl, hb4⟩)
                  (refine wpAny_take (i := 17) (v := ?_) rfl (by kernel_rfl) (by kernel_rfl) (by kernel_rfl) (fun _ _ _ h => h) (Or.inl ⟨by kernel_rfl, ?_⟩) ?_; rotate_left; focus (intro w; go_simp; (try with_reducible rfl))); rotate_left
                  refine wpAny_ready (rs := [18]) (by kernel_rfl) (by simp) ?_
                  refine AllReady.cons rfl (fun K hK => ?_) AllReady.nil
                  go_simp
                  refine hK _ _ ?_
                  clear hK K
                  refine wpAny_done (by kernel_rfl) ?_ _
                  go_wp2
                  go_ret
                  exact ⟨rfl, HX2.out.trans (hb4.mono HX2.out.size)⟩
              · go_simp
                go_wp2_with (go_at_call 9; refine (HVV.out _ HX1.out).mono ?_; rintro e x2 ⟨rfl, hb3⟩; have HX2 := Lib.hid (HX1.out.trans (hb3.mono HX1.out.size)); have hbx2 : Below wr.heap.size wr x2 := hbx1.trans (hb3.mono hbx1.size); have hcv2 := HCV2.out _ _ _ (owns_below HOWN2.out hb3); clear hb3)
                refine wpAny_ready (rs := [7, 9]) (by kernel_rfl) (by simp) ?_
                refine AllReady.cons rfl (fun K hK => ?_) (AllReady.cons rfl (fun K hK => ?_) AllReady.nil)
                · go_simp
                  refine hK _ _ ?_
                  clear hK K
                  refine wpAny_ready (rs := [9]) (by kernel_rfl) (by simp) ?_
                  refine AllReady.cons rfl (fun K hK => ?_) AllReady.nil
                  go_simp
                  refine hK _ _ ?_
                  clear hK K
                  (refine wpAny_take (i := 10) (v := ?_) rfl (by kernel_rfl) (by kernel_rfl) (by kernel_rfl) (fun _ _ _ h => h) (Or.inl ⟨by kernel_rfl, ?_⟩) ?_; rotate_left; focus (intro w; go_simp; (try with_reducible rfl))); rotate_left
                  (refine wpAny_take (i := 13) (v := ?_) rfl (by kernel_rfl) (by kernel_rfl) (by kernel_rfl) (fun _ _ _ h => h) (Or.inl ⟨by kernel_rfl, ?_⟩) ?_; rotate_left; focus (intro w; go_simp; (try with_reducible rfl))); rotate_left
                  (refine wpAny_take (i := 14) (v := ?_) rfl (by kernel_rfl) (by kernel_rfl) (by kernel_rfl) (fun _ _ _ h => h) (Or.inl ⟨by kernel_rfl, ?_⟩) ?_; rotate_left; focus (intro w; go_simp; (try with_reducible rfl))); rotate_left
                  (refine wpAny_take (i := 15) (v := ?_) rfl (by kernel_rfl) (by kernel_rfl) (by kernel_rfl) (fun _ _ _ h => h) (Or.inl ⟨by kernel_rfl, ?_⟩) ?_; rotate_left; focus (intro w; go_simp; (try with_reducible rfl))); rotate_left
                  refine wpAny_ready (rs := [16]) (by kernel_rfl) (by simp) ?_
                  refine AllReady.cons rfl (fun K hK => ?_) AllReady.nil
                  go_simp
                  go_wp2_with (go_at_call 10; refine (awake_any _).mono ?_; rintro e x3 ⟨rfl, hb4⟩)
                  (refine wpAny_take (i := 17) (v := ?_) rfl (by kernel_rfl) (by kernel_rfl) (by kernel_rfl) (fun _ _ _ h => h) (Or.inl ⟨by kernel_rfl, ?_⟩) ?_; rotate_left; focus (intro w; go_simp; (try with_reducible rfl))); rotate_left
                  refine wpAny_ready (rs := [18]) (by kernel_rfl) (by simp) ?_
                  refine AllReady.cons rfl (fun K hK => ?_) AllReady.nil
                  go_simp
                  refine hK _ _ ?_
                  clear hK K
                  refine wpAny_done (by kernel_rfl) ?_ _
                  go_wp2
                  go_ret
                  exact ⟨rfl, HX2.out.trans (hb4.mono HX2.out.size)⟩
                · go_simp
                  refine hK _ _ ?_
                  clear hK K
                  refine wpAny_ready (rs := [7]) (by kernel_rfl) (by simp) ?_
                  refine AllReady.cons rfl (fun K hK => ?_) AllReady.nil
                  go_simp
                  refine hK _ _ ?_
                  clear hK K
                  (refine wpAny_take (i := 10) (v := ?_) rfl (by kernel_rfl) (by kernel_rfl) (by kernel_rfl) (fun _ _ _ h => h) (Or.inl ⟨by kernel_rfl, ?_⟩) ?_; rotate_left; focus (intro w; go_simp; (try with_reducible rfl))); rotate_left
                  (refine wpAny_take (i := 13) (v := ?_) rfl (by kernel_rfl) (by kernel_rfl) (by kernel_rfl) (fun _ _ _ h => h) (Or.inl ⟨by kernel_rfl, ?_⟩) ?_; rotate_left; focus (intro w; go_simp; (try with_reducible rfl))); rotate_left
                  (refine wpAny_take (i := 14) (v := ?_) rfl (by kernel_rfl) (by kernel_rfl) (by kernel_rfl) (fun _ _ _ h => h) (Or.inl ⟨by kernel_rfl, ?_⟩) ?_; rotate_left; focus (intro w; go_simp; (try with_reducible rfl))); rotate_left
                  (refine wpAny_take (i := 15) (v := ?_) rfl (by kernel_rfl) (by kernel_rfl) (by kernel_rfl) (fun _ _ _ h => h) (Or.inl ⟨by kernel_rfl, ?_⟩) ?_; rotate_left; focus (intro w; go_simp; (try with_reducible rfl))); rotate_left
                  refine wpAny_ready (rs := [16]) (by kernel_rfl) (by simp) ?_
                  refine AllReady.cons rfl (fun K hK => ?_) AllReady.nil
                  go_simp
                  go_wp2_with (go_at_call 10; refine (awake_any _).mono ?_; rintro e x3 ⟨rfl, hb4⟩)
                  (refine wpAny_take (i := 17) (v := ?_) rfl (by kernel_rfl) (by kernel_rfl) (by kernel_rfl) (fun _ _ _ h => h) (Or.inl ⟨by kernel_rfl, ?_⟩) ?_; rotate_left; focus (intro w; go_simp; (try with_reducible rfl))); rotate_left
                  refine wpAny_ready (rs := [18]) (by kernel_rfl) (by simp) ?_
                  refine AllReady.cons rfl (fun K hK => ?_) AllReady.nil
                  go_simp
                  refine hK _ _ ?_
                  clear hK K
                  refine wpAny_done (by kernel_rfl) ?_ _
                  go_wp2
                  go_ret
                  exact ⟨rfl, HX2.out.trans (hb4.mono HX2.out.size)⟩
            · go_simp
              refine hK _ _ ?_
              clear hK K
              refine wpAny_ready (rs := [6]) (by kernel_rfl) (by simp) ?_
              refine AllReady.cons rfl (fun K hK => ?_) AllReady.nil
              go_simp
              go_wp2_with (go_at_call 14; refine (HBY.out _ hrefld).mono ?_; rintro e x1 ⟨v2, rfl, hown2, hb2⟩; have hbx1 : Below wr.heap.size wr x1 := Below.trans hrefld hb2; have HX1 := Lib.hid (HBL.out.trans (hbx1.mono HBL.out.size)); have hcv1 := HCV2.out _ _ _ hown2; have HOWN2 := Lib.hid hown2; clear hown2 hb2)
              refine wpAny_ready (rs := [7, 12]) (by kernel_rfl) (by simp) ?_
              refine AllReady.cons rfl (fun K hK => ?_) (AllReady.cons rfl (fun K hK => ?_) AllReady.nil)
              · go_simp
                refine hK _ _ ?_
                clear hK K
                (refine wpAny_take (i := 10) (v := ?_) rfl (by kernel_rfl) (by kernel_rfl) (by kernel_rfl) (fun _ _ _ h => h) (Or.inl ⟨by kernel_rfl, ?_⟩) ?_; rotate_left; focus (intro w; go_simp; (try with_reducible rfl))); rotate_left
                refine wpAny_ready (rs := [12]) (by kernel_rfl) (by simp) ?_
                refine AllReady.cons rfl (fun K hK => ?_) AllReady.nil
                go_simp
                go_wp2_with (go_at_call 9; refine (HVV.out _ HX1.out).mono ?_; rintro e x2 ⟨rfl, hb3⟩; have HX2 := Lib.hid (HX1.out.trans (hb3.mono HX1.out.size)); have hbx2 : Below wr.heap.size wr x2 := hbx1.trans (hb3.mono hbx1.size); have hcv2 := HCV2.out _ _ _ (owns_below HOWN2.out hb3); clear hb3)
                (refine wpAny_take (i := 13) (v := ?_) rfl (by kernel_rfl) (by kernel_rfl) (by kernel_rfl) (fun _ _ _ h => h) (Or.inl ⟨by kernel_rfl, ?_⟩) ?_; rotate_left; focus (intro w; go_simp; (try with_reducible rfl))); rotate_left
                (refine wpAny_take (i := 14) (v := ?_) rfl (by kernel_rfl) (by kernel_rfl) (by kernel_rfl) (fun _ _ _ h => h) (Or.inl ⟨by kernel_rfl, ?_⟩) ?_; rotate_left; focus (intro w; go_simp; (try with_reducible rfl))); rotate_left
                (refine wpAny_take (i := 15) (v := ?_) rfl (by kernel_rfl) (by kernel_rfl) (by kernel_rfl) (fun _ _ _ h => h) (Or.inl ⟨by kernel_rfl, ?_⟩) ?_; rotate_left; focus (intro w; go_simp; (try with_reducible rfl))); rotate_left
                refine wpAny_ready (rs := [16]) (by kernel_rfl) (by simp) ?_
                refine AllReady.cons rfl (fun K hK => ?_) AllReady.nil
                go_simp
                go_wp2_with (go_at_call 10; refine (awake_any _).mono ?_; rintro e x3 ⟨rfl, hb4⟩)
                (refine wpAny_take (i := 17) (v := ?_) rfl (by kernel_rfl) (by kernel_rfl) (by kernel_rfl) (fun _ _ _ h => h) (Or.inl ⟨by kernel_rfl, ?_⟩) ?_; rotate_left; focus (intro w; go_simp; (try with_reducible rfl))); rotate_left
                refine wpAny_ready (rs := [18]) (by kernel_rfl) (by simp) ?_
                refine AllReady.cons rfl (fun K hK => ?_) AllReady.nil
                go_simp
                refine hK _ _ ?_
                clear hK K
                refine wpAny_done (by kernel_rfl) ?_ _
                go_wp2
                go_ret
                exact ⟨rfl, HX2.out.trans (hb4.mono HX2.out.size)⟩
              · go_simp
                go_wp2_with (go_at_call 9; refine (HVV.out _ HX1.out).mono ?_; rintro e x2 ⟨rfl, hb3⟩; have HX2 := Lib.hid (HX1.out.trans (hb3.mono HX1.out.size)); have hbx2 : Below wr.heap.size wr x2 := hbx1.trans (hb3.mono hbx1.size); have hcv2 := HCV2.out _ _ _ (owns_below HOWN2.out hb3); clear hb3)
                refine wpAny_ready (rs := [7]) (by kernel_rfl) (by simp) ?_
                refine AllReady.cons rfl (fun K hK => ?_) AllReady.nil
                go_simp
                refine hK _ _ ?_
                clear hK K
                (refine wpAny_take (i := 10) (v := ?_) rfl (by kernel_rfl) (by kernel_rfl) (by kernel_rfl) (fun _ _ _ h => h) (Or.inl ⟨by kernel_rfl, ?_⟩) ?_; rotate_left; focus (intro w; go_simp; (try with_reducible rfl))); rotate_left
                (refine wpAny_take (i := 13) (v := ?_) rfl (by kernel_rfl) (by kernel_rfl) (by kernel_rfl) (fun _ _ _ h => h) (Or.inl ⟨by kernel_rfl, ?_⟩) ?_; rotate_left; focus (intro w; go_simp; (try with_reducible rfl))); rotate_left
                (refine wpAny_take (i := 14) (v := ?_) rfl (by kernel_rfl) (by kernel_rfl) (by kernel_rfl) (fun _ _ _ h => h) (Or.inl ⟨by kernel_rfl, ?_⟩) ?_; rotate_left; focus (intro w; go_simp; (try with_reducible rfl))); rotate_left
                (refine wpAny_take (i := 15) (v := ?_) rfl (by kernel_rfl) (by kernel_rfl) (by kernel_rfl) (fun _ _ _ h => h) (Or.inl ⟨by kernel_rfl, ?_⟩) ?_; rotate_left; focus (intro w; go_simp; (try with_reducible rfl))); rotate_left
                refine wpAny_ready (rs := [16]) (by kernel_rfl) (by simp) ?_
                refine AllReady.cons rfl (fun K hK => ?_) AllReady.nil
                go_simp
                go_wp2_with (go_at_call 10; refine (awake_any _).mono ?_; rintro e x3 ⟨rfl, hb4⟩)
                (refine wpAny_take (i := 17) (v := ?_) rfl (by kernel_rfl) (by kernel_rfl) (by kernel_rfl) (fun _ _ _ h => h) (Or.inl ⟨by kernel_rfl, ?_⟩) ?_; rotate_left; focus (intro w; go_simp; (try with_reducible rfl))); rotate_left
                refine wpAny_ready (rs := [18]) (by kernel_rfl) (by simp) ?_
                refine AllReady.cons rfl (fun K hK => ?_) AllReady.nil
                go_simp
                refine hK _ _ ?_
                clear hK K
                refine wpAny_done (by kernel_rfl) ?_ _
                go_wp2
                go_ret
                exact ⟨rfl, HX2.out.trans (hb4.mono HX2.out.size)⟩

end Go.Proofs.YthbaknillijeoaaDoor
