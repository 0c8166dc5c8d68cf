/-
  SniffWhole: for all bytes it returns true.
-/
import Derived.Test.YtmibajofbagphaaDoorSnG
import Derived.Test.YtmibajofbagphaaDoorCut3
import Derived.Laws.AppendOwnNone
namespace Go.Proofs.YtmibajofbagphaaDoor
open Go.RowKit

theorem at_add {w : World} {ad : Addr} {xs : List Value} (h : AtCells w (some ad) xs) : ∀ j u, xs[j]? = some u → w.cell? (ad.add j) = some u := by
  intro j u hj
  obtain ⟨b, off, he, hc⟩ := h j u hj
  simp only [Option.some.injEq] at he
  subst he
  by_cases h0 : j = 0
  · subst h0; simpa [Addr.add] using hc
  · simpa [Addr.add, h0] using hc

theorem box_at {w w' : World} {cs : List Value} {e : TypeId} (hb : Below (w.heap.size + 1) (w.alloc (.cells cs.toArray e)) w') (j : Nat) (u : Value) (h : cs[j]? = some u) : w'.cell? ⟨w.heap.size, j, none⟩ = some u := by
  rw [hb.cell (p := ⟨w.heap.size, j, none⟩) (by simp)]
  have := new_cells w cs e j u h
  by_cases h0 : j = 0
  · subst h0; simpa [Addr.add] using this
  · simpa [Addr.add, h0] using this

theorem runes_len_le (zs : List Int) : (runesOf zs).length ≤ zs.length := by
  obtain ⟨hk, h0, h3, hn⟩ := kindOf_cases zs
  have := (pieces_spec hk (zs.drop (kindOf zs).2.toNat)).1
  unfold runesOf
  rw [List.length_map]
  rw [List.length_drop] at this
  omega

theorem take_step (zs : List Int) (x y : Nat) (h : x ≤ y) : zs.take x ++ (zs.drop x).take (y - x) = zs.take y := by
  obtain ⟨d, rfl⟩ : ∃ d, y = x + d := ⟨y - x, by omega⟩
  rw [Nat.add_sub_cancel_left, List.take_add]

set_option maxRecDepth 100000 in
set_option maxHeartbeats 4000000 in
theorem sniffWhole_walk (a : Option Addr) (n cap : Nat) (zs : List Int) (w : World) (hs : Signs w) (hn : zs.length = n) (hc : n ≤ cap) (hm : cap ≤ maxLen) (hb : Bys zs) (hat : AtCells w a (zs.map (.int .u8))) (hnil : a = none → cap = 0) :
    Calls Tryd.prog 7 #[.slice a n cap] w fun e w' => e = .returned (.bool true) ∧ Below w.heap.size w w' := by
  obtain ⟨m, hmm⟩ : ∃ m, m = min n 200 := ⟨_, rfl⟩
  have hm200 : m ≤ 200 := by omega
  have hat' := hat.take m
  rw [← List.map_take] at hat'
  have hn' : (zs.take m).length = m := by simp; omega
  have hb' := hb.take m
  have hmc : m ≤ cap := by omega
  generalize zs.take m = ys at hat' hn' hb'
  have HF := Lib.hid (short_any a n cap w hc hm)
  rw [← hmm] at HF
  have H1 := Lib.hid (decode_any a m cap ys w hs hn' hmc hm (by omega) hb' hat')
  have HAW := Lib.hid (fun W (hW : Below w.heap.size w W) => sawake_at hs hW)
  have hrise := offs_rises ys
  have hql := runes_len_le ys
  rw [hn'] at hrise hql
  generalize (kindOf ys).1 = kd at H1
  obtain ⟨bom, hbom⟩ : ∃ bom : Nat, (kindOf ys).2 = (bom : Int) := ⟨(kindOf ys).2.toNat, by have := hrise.bom0; omega⟩
  rw [hbom] at H1 hrise
  have hbm : bom ≤ m := by have := hrise.bomn; omega
  have hrl : (runesOf ys).length = (runesOf ys).length := rfl
  obtain ⟨q, hq⟩ : ∃ q, q = (runesOf ys).length := ⟨_, rfl⟩
  rw [← hq] at hrise hql
  generalize runesOf ys = rs at H1 hq
  generalize offsOf ys = os at H1 hrise
  have HQ := Lib.hid hq
  have HR := Lib.hid hrise
  have HY := Lib.hid (And.intro hat' (And.intro hn' hm))
  have HNIL := Lib.hid hnil
  clear hnil
  unfold maxLen at hm
  clear hat' hn' hb' hat hn hmm hc hb hs hrise hq hbom hrl
  go_enter Tryd.func7, Tryd.ntmps7
  go_wp2_with fail
  refine HF.out.mono ?_
  rintro e w' ⟨rfl, rfl⟩
  go_wp2_with fail
  refine H1.out.mono ?_
  rintro e w1 ⟨r1, o1, rfl, hr1, ho1, hb1⟩
  rw [← HQ.out] at hr1
  rw [HR.out.len] at ho1
  obtain ⟨ar, cr, rfl, _⟩ := owns_slice hr1
  obtain ⟨ao, co, rfl, _⟩ := owns_slice ho1
  have HB1 := Lib.hid hb1
  have HO1 := Lib.hid (AtCells.of_owns ho1)
  clear hb1 hr1 ho1
  go_upto_region 5 with fail
  have HB3 := Lib.hid (HB1.out.alloc HB1.out.size (.cells #[.int .i64 kd, .int .i64 (bom : Int), .slice ar q cr, .slice ao (q + 1) co] 27))
  have HO3 := Lib.hid (HO1.out.alloc (.cells #[.int .i64 kd, .int .i64 (bom : Int), .slice ar q cr, .slice ao (q + 1) co] 27))
  have hx : ∀ j u, [Value.int .i64 kd, .int .i64 (bom : Int), .slice ar q cr, .slice ao (q + 1) co][j]? = some u → (w1.alloc (.cells #[.int .i64 kd, .int .i64 (bom : Int), .slice ar q cr, .slice ao (q + 1) co] 27)).cell? ⟨w1.heap.size, j, none⟩ = some u :=
    fun j u h => box_at (cs := [.int .i64 kd, .int .i64 (bom : Int), .slice ar q cr, .slice ao (q + 1) co]) (Below.refl _ _) j u h
  have hlt3 : w1.heap.size < (w1.alloc (.cells #[.int .i64 kd, .int .i64 (bom : Int), .slice ar q cr, .slice ao (q + 1) co] 27)).heap.size := by simp
  obtain ⟨w3, hw3⟩ : ∃ w3, w3 = w1.alloc (.cells #[.int .i64 kd, .int .i64 (bom : Int), .slice ar q cr, .slice ao (q + 1) co] 27) := ⟨_, rfl⟩
  rw [← hw3] at HB3 HO3 hx hlt3 ⊢
  have HX := Lib.hid hx
  have p1 := hx 1 _ rfl
  generalize w1.heap.size = P at hx HX p1 hlt3 ⊢
  clear hw3 hx
  obtain ⟨i0, hi, hz0, hz1, hz2⟩ := info_parts Tryd.infoU8
  have HI := Lib.hid (And.intro hi (And.intro hz0 (And.intro hz1 hz2)))
  clear hi hz0 hz1 hz2
  go_cut [4] (fun s4 wx => wx.ownsRow w3.heap.size 5 1 s4 bom ((ys.take bom).map (Value.int .u8)) ∧ Below w3.heap.size w3 wx)
  case first =>
    have hown0 := World.ownsRow_lit (base := w3.heap.size) (e := 5) (size := 1) w3 #[] 0 (Nat.le_refl _) (by unfold maxLen; omega) rfl
    have hb0 : Below w3.heap.size w3 (w3.alloc (.cells #[] 5)) := (Below.refl _ _).alloc (Nat.le_refl _) _
    have HOB := Lib.hid (And.intro hown0 hb0)
    clear hown0 hb0
    cases a with
    | none =>
      obtain rfl : cap = 0 := HNIL.out rfl
      obtain rfl : m = 0 := by omega
      obtain rfl : bom = 0 := by omega
      go_wp2_with (at_builtin; refine wpList_append_own_none rfl _ _ 22 rfl w3.heap.size 5 i0 1 Tryd.underlying22 HI.out.1 _ _ _ rfl HOB.out.1 rfl ?_)
      go_meet
      exact HOB.out
    | some ad =>
      have HN := Lib.hid (at_add ((show AtCells w3 (some ad) ((ys.take bom).map (Value.int .u8)) by rw [List.map_take]; exact (HY.out.1.below HB3.out).take bom).alloc (.cells #[] 5)))
      have HLN := Lib.hid (show ((ys.take bom).map (Value.int .u8)).length = bom * 1 by have := HY.out.2.1; simp; omega)
      have HMX := Lib.hid (show 0 + bom ≤ maxLen ∧ (0 + bom) * 1 ≤ 140737488355328 by unfold maxLen; omega)
      have hcb : (bom : Int) ≤ (cap : Int) := by omega
      have hcb' : bom ≤ cap := by omega
      go_wp2_with (at_builtin; refine wpList_append_own _ rfl _ _ 22 rfl w3.heap.size 5 i0 (.int .u8 0) 1 1 Tryd.underlying22 HI.out.1 HI.out.2.1 HI.out.2.2.1 HI.out.2.2.2 rfl (by decide) _ _ _ rfl HOB.out.1 _ _ _ ((ys.take bom).map (Value.int .u8)) rfl HLN.out HN.out (ints_oneCell _ _) HMX.out.1 HMX.out.2 HOB.out.2.size ?_; intro v1 W2 hown1 hg1 _; have HG := Lib.hid (And.intro hown1 hg1); clear hown1 hg1)
      go_meet
      have h1 := HG.out.1
      rw [Nat.zero_add, List.nil_append] at h1
      exact ⟨h1, HOB.out.2.grown HG.out.2 HOB.out.2.size (fun g hg => (HOB.out.1.lt g hg).1)⟩
  case rest =>
    obtain ⟨hown, hbl0⟩ := hcut
    obtain ⟨w4, hw4⟩ : ∃ w4, w4 = wc := ⟨_, rfl⟩
    rw [← hw4] at hown hbl0 ⊢
    clear hw4
    have HO4 := Lib.hid hown
    have HB4 := Lib.hid hbl0
    have p2 := (hbl0.cell (p := ⟨P, 2, none⟩) hlt3).trans (HX.out 2 _ rfl)
    clear hown hbl0 p1
    go_wp2_with fail
    go_loopw [4, 29] (fun v i wr => ∃ k : Nat, k ≤ q ∧ i = .int .i64 k ∧ wr.ownsRow w3.heap.size 5 1 v (os.getD k 0).toNat ((ys.take (os.getD k 0).toNat).map (Value.int .u8)) ∧ Below w3.heap.size w3 wr) (fun _ i _ => q - (intOf i).toNat)
    case atStart => exact ⟨0, Nat.zero_le _, rfl, by rw [HR.out.first, Int.toNat_natCast]; exact HO4.out, HB4.out⟩
    case round =>
      obtain ⟨k, hk, rfl, hown, hbl⟩ := hrel
      by_cases hlt : k < q
      · obtain ⟨bb, off, rfl, _⟩ := HY.out.1.int (k := 0) (by rw [HY.out.2.1]; omega)
        have hbw : Below w.heap.size w wr := HB3.out.trans (hbl.mono HB3.out.size)
        have hsl := slice_yes kd (bom : Int) _ ar ao q cr co os bb off m cap ys k (k + 1) wr rfl (by omega) HR.out (by omega) (by omega) HY.out.2.1 hmc HY.out.2.2 (by omega) (HO3.out.below hbl) (HY.out.1.below hbw)
        have hstep := HR.out.step k hlt
        have hbd := HR.out.bd k (by omega)
        have hbd1 := HR.out.bd (k + 1) (by omega)
        obtain ⟨x, hx⟩ : ∃ x, x = (os.getD k 0).toNat := ⟨_, rfl⟩
        obtain ⟨y, hy⟩ : ∃ y, y = (os.getD (k + 1) 0).toNat := ⟨_, rfl⟩
        have hxy : x ≤ y := by omega
        have hym : y ≤ m := by omega
        have hts := take_step ys x y hxy
        rw [← hx] at hown
        rw [← hx, ← hy, show (((k + 1 : Nat) : Int)) = (k : Int) + 1 by omega] at hsl
        have hpl : ((ys.drop x).take (y - x)).length = y - x := by have := HY.out.2.1; simp; omega
        obtain ⟨pc, hpc⟩ : ∃ pc, pc = (ys.drop x).take (y - x) := ⟨_, rfl⟩
        rw [← hpc] at hsl hts hpl
        have HSL := Lib.hid hsl
        have HY2 := Lib.hid (And.intro hy (And.intro hts (And.intro hpl hxy)))
        have HO := Lib.hid hown
        have HBL := Lib.hid hbl
        have HMX := Lib.hid (show x + pc.length ≤ maxLen ∧ (x + pc.length) * 1 ≤ 140737488355328 by unfold maxLen; omega)
        have t0 := (hbl.cell (p := ⟨P, 0, none⟩) hlt3).trans (HX.out 0 _ rfl)
        have t1 := (hbl.cell (p := ⟨P, 1, none⟩) hlt3).trans (HX.out 1 _ rfl)
        have t2 := (hbl.cell (p := ⟨P, 2, none⟩) hlt3).trans (HX.out 2 _ rfl)
        have t3 := (hbl.cell (p := ⟨P, 3, none⟩) hlt3).trans (HX.out 3 _ rfl)
        clear hx hy hts hpl hpc hown hbl hbw hsl hstep hbd hbd1 hxy hym p2 HF H1
        go_wp2_with fail
        refine HSL.out.mono ?_
        rintro e w5 ⟨g, c, rfl, hown5, hb5⟩
        have HO5 := Lib.hid (owns_below HO.out hb5)
        have HB5 := Lib.hid (HBL.out.trans (hb5.mono HBL.out.size))
        have HN5 := Lib.hid (at_add (AtCells.of_owns hown5))
        have hsz5 := HB5.out.size
        clear hown5 hb5 t0 t1 t2 t3
        go_wp2_with (at_builtin; refine wpList_append_own _ rfl _ _ 22 rfl w3.heap.size 5 i0 (.int .u8 0) 1 1 Tryd.underlying22 HI.out.1 HI.out.2.1 HI.out.2.2.1 HI.out.2.2.2 rfl (by decide) _ _ _ rfl HO5.out _ _ _ (pc.map (Value.int .u8)) rfl (by simp) HN5.out (ints_oneCell _ _) HMX.out.1 HMX.out.2 hsz5 ?_; intro v1 W2 hown1 hg1 _; have HG := Lib.hid (And.intro hown1 hg1); clear hown1 hg1)
        go_roundw
        case rel =>
          have h1 := HG.out.1
          rw [← List.map_append, HY2.out.2.1] at h1
          rw [show x + pc.length = y by have := HY2.out.2.2.1; have := HY2.out.2.2.2; omega] at h1
          refine ⟨k + 1, by omega, by go_num, ?_, HB5.out.grown HG.out.2 hsz5 (fun g hg => (HO5.out.lt g hg).1)⟩
          rw [← HY2.out.1]
          exact h1
        case measure => simp [intOf]; omega
      · obtain rfl : k = q := by omega
        rw [HR.out.last, Int.toNat_natCast] at hown
        obtain ⟨av, cv, rfl, _⟩ := owns_slice hown
        have hfull : ys.take m = ys := List.take_of_length_le (by rw [HY.out.2.1]; exact Nat.le_refl _)
        rw [hfull] at hown
        have hbw : Below w.heap.size w wr := HB3.out.trans (hbl.mono HB3.out.size)
        obtain ⟨S, hS⟩ : ∃ S, S = strOfNums ys := ⟨_, rfl⟩
        have hcv1 : Sem.run Tryd.prog (convert 22 9 (.slice av m cv)) wr = .ok (.string S) wr := by
          rw [hS]; exact run_str wr _ _ _ Tryd.underlying22 Tryd.underlying5 Tryd.underlying9 av m cv _ HY.out.2.1 (AtCells.of_owns hown)
        have hcv2 : Sem.run Tryd.prog (convert 22 9 (.slice a m cap)) wr = .ok (.string S) wr := by
          rw [hS]; exact run_str wr _ _ _ Tryd.underlying22 Tryd.underlying5 Tryd.underlying9 a m cap _ HY.out.2.1 (HY.out.1.below hbw)
        have HBW := Lib.hid hbw
        clear hS hfull hown hbl hbw hlt hk p2 HF H1
        go_wp2_with (go_at_call 15; refine (HAW.out _ HBW.out).mono ?_; rintro e w6 ⟨rfl, hb6⟩)
        go_ret
        exact ⟨rfl, HBW.out.trans (hb6.mono HBW.out.size)⟩

end Go.Proofs.YtmibajofbagphaaDoor
