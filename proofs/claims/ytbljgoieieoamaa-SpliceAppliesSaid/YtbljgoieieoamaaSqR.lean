/-
  The reference of layer 12: ahead, Sorted.
-/
import Derived.Test.YtbljgoieieoamaaSqJ
import Derived.Deep.CutBlock
namespace Go.Proofs.Ytbljgoieieoamaa
open Go.Shelf Go.RowKit Go.Lib Go.Sort
set_option linter.unusedVariables false

theorem ret_bC {a b : Bool} (h : a = b) : Ending.returned (.bool a) = .returned (.bool b) := by rw [h]

set_option maxHeartbeats 1000000 in
theorem aheadC_any (f t : Int) (a : Option Addr) (c : Nat) (bs : List Int) (f' t' : Int) (a' : Option Addr) (c' : Nat) (bs' : List Int) (w : World) :
    Calls Try.prog 57 #[.agg #[.int .i64 f, .int .i64 t, .slice a bs.length c], .agg #[.int .i64 f', .int .i64 t', .slice a' bs'.length c']] w fun e w' => e = .returned (.bool (ltC (f, t, a, c, bs) (f', t', a', c', bs'))) ∧
      w' = (w.alloc (.cells #[.int .i64 f, .int .i64 t, .slice a bs.length c] 66)).alloc (.cells #[.int .i64 f', .int .i64 t', .slice a' bs'.length c'] 66) := by
  by_cases h1 : f < f'
  · go_enter Try.func57, Try.ntmps57
    go_wp2
    go_ret
    exact ⟨ret_bC (by unfold ltC; rw [Bool.eq_iff_iff]; simp [h1]), rfl⟩
  · by_cases h2 : f = f'
    · subst h2
      go_enter Try.func57, Try.ntmps57
      go_wp2
      go_ret
      exact ⟨ret_bC (by unfold ltC; rw [Bool.eq_iff_iff]; simp), rfl⟩
    · go_enter Try.func57, Try.ntmps57
      go_wp2
      go_ret
      exact ⟨ret_bC (by unfold ltC; rw [Bool.eq_iff_iff]; simp [h1, h2]), rfl⟩

theorem two_grown (w : World) (a b : Obj) : (w.alloc a).alloc b = grow (w.drewN 0) #[a, b] := by
  rw [alloc_eq_grow, alloc_eq_grow, grow_grow]
  rfl

theorem grown_cells {w : World} {b o : Nat} {v : Value} (h : w.cell? ⟨b, o, none⟩ = some v) : ∀ n os, (grow (w.drewN n) os).cell? ⟨b, o, none⟩ = some v := fun n os => cell_grown (cell_lt h) h n os

theorem below_grow {B : Nat} {w0 w : World} (h : Below B w0 w) (hB : B ≤ w.heap.size) (n : Nat) (os : Array Obj) : Below B w0 (grow (w.drewN n) os) :=
  (below_drewN h n).trans ⟨rfl, rfl, rfl, by rw [size_grow]; exact Nat.le_add_right _ _, fun k hk => heap_grow_old _ _ (Nat.lt_of_lt_of_le hk hB)⟩

theorem at_box (w : World) (cs : List Value) (e : TypeId) : AtCells (w.alloc (.cells cs.toArray e)) (some ⟨w.heap.size, 0, none⟩) cs := fun j u hj =>
  ⟨w.heap.size, 0, rfl, by have := new_cells w cs e j u hj; rw [Addr.add_lit] at this; exact this⟩

theorem aheadC_grown (x y : Chg) (v : Bool) (hv : ltC x y = v) (w : World) :
    Calls Try.prog 57 #[.agg #[.int .i64 x.1, .int .i64 x.2.1, .slice x.2.2.1 x.2.2.2.2.length x.2.2.2.1], .agg #[.int .i64 y.1, .int .i64 y.2.1, .slice y.2.2.1 y.2.2.2.2.length y.2.2.2.1]] w fun e w' => e = .returned (.bool v) ∧ ∃ q os', w' = grow (w.drewN q) os' :=
  (aheadC_any _ _ _ _ _ _ _ _ _ _ w).mono fun e w' ⟨he, hw⟩ => ⟨by rw [he, ← hv], 0, #[_, _], hw.trans (two_grown _ _ _)⟩

theorem isort_snoc (l : List Chg) (d : Chg) : isort ltC (l ++ [d]) = putC ltC (isort ltC l) d := by simp [isort]
theorem cellsC_take (l : List Chg) (k : Nat) : (cellsC l).take (k * 3) = cellsC (l.take k) := by
  induction k generalizing l with
  | zero => simp [cellsC]
  | succ k ih =>
    cases l with
    | nil => simp [cellsC]
    | cons x r =>
      rw [show (k + 1) * 3 = k * 3 + 1 + 1 + 1 by omega, List.take_succ_cons, cellsC_cons, cellsC_cons]
      simp only [List.cons_append, List.nil_append, List.take_succ_cons, ih]
theorem cellsC_drop (l : List Chg) (k : Nat) : (cellsC l).drop (k * 3) = cellsC (l.drop k) := by
  induction k generalizing l with
  | zero => simp [cellsC]
  | succ k ih =>
    cases l with
    | nil => simp [cellsC]
    | cons x r =>
      rw [show (k + 1) * 3 = k * 3 + 1 + 1 + 1 by omega, List.drop_succ_cons, cellsC_cons]
      simp only [List.cons_append, List.nil_append, List.drop_succ_cons, ih]

/-- What the reference's Sorted answers. -/
def RsD (w : World) (zs : List Chg) (n : Nat) (e : Ending) (w' : World) : Prop :=
  (((∃ x ∈ zs, badC x) ∧ e = .returned (.tuple #[.slice none 0 0, .int .i64 3])) ∨ ((∀ x ∈ zs, ¬ badC x) ∧ ((takenC 0 (isort ltC zs) = true ∧ e = .returned (.tuple #[.slice none 0 0, .int .i64 9])) ∨ (takenC 0 (isort ltC zs) = false ∧ ∃ v, e = .returned (.tuple #[v, .int .i64 0]) ∧ w'.ownsRow w.heap.size 66 3 v n (cellsC (isort ltC zs)))))) ∧ Below w.heap.size w w'

set_option maxHeartbeats 4000000 in
set_option maxRecDepth 100000 in
theorem rsC_main (a : Option Addr) (n cap : Nat) (zs : List Chg) (w : World) (hn : zs.length = n) (hn30 : n ≤ 30) (hc : n ≤ cap) (hat : AtCells w a (cellsC zs)) :
    Calls Try.prog 37 #[.slice a n cap] w (RsD w zs n) := by
  obtain ⟨i0, hi, hz0, hz1, hz2⟩ := info_parts Try.infoRC
  have HI := Lib.hid (And.intro hi (And.intro hz0 (And.intro hz1 hz2)))
  have HAT := Lib.hid (And.intro hat hn)
  have HN := Lib.hid hn30
  have mixed : Try.prog.follows .mixedOrders = true := by kernel_rfl
  clear hat hn hi hz0 hz1 hz2 hn30
  go_enter Try.func37, Try.ntmps37
  go_wp2
  go_loopw [4, 13] (fun v o wr => ∃ i : Nat, o = .int .i64 i ∧ i ≤ n ∧ Hid (∀ x ∈ zs.take i, ¬ badC x) ∧ wr.ownsRow w.heap.size 66 3 v i (cellsC (isort ltC (zs.take i))) ∧ Below w.heap.size w wr) (fun _ o _ => n - (intOf o).toNat)
  case atStart => exact ⟨0, rfl, Nat.zero_le _, Lib.hid (fun x hx => by simp at hx), World.ownsRow_nil _ _ _ _, Below.refl _ _⟩
  case round =>
    obtain ⟨i, rfl, hin, HGD, hown, hbl⟩ := hrel
    by_cases hlt : i < n
    · have hltz : (i : Int) < (n : Int) := by omega
      obtain ⟨x, hx⟩ : ∃ x, zs[i]? = some x := ⟨_, List.getElem?_eq_getElem (by rw [HAT.out.2]; exact hlt)⟩
      have hal : (isort ltC (zs.take i)).length = i := by rw [isort_length, List.length_take, HAT.out.2]; omega
      have hnext : isort ltC (zs.take (i + 1)) = putC ltC (isort ltC (zs.take i)) x := by
        rw [List.take_add_one, hx, ← isort_snoc]; rfl
      obtain ⟨b, off, rfl, c0, c1, c2⟩ := chg_cells (HAT.out.1.below hbl) hx
      obtain ⟨oa, oc, rfl, hoc⟩ := owns_slice hown
      have HXM := Lib.hid (List.mem_of_getElem? hx)
      have HXE := Lib.hid hx
      have HO := Lib.hid (And.intro hown (And.intro (AtCells.of_owns hown) hbl))
      have HX := Lib.hid (And.intro hal hnext)
      obtain ⟨acc, hacc⟩ : ∃ acc, acc = isort ltC (zs.take i) := ⟨_, rfl⟩
      rw [← hacc] at HO HX
      clear hown hbl hx hal hnext hacc
      obtain ⟨x0, x1, xa, xc, xb⟩ := x
      simp only at c0 c1 c2
      by_cases hbd : x0 < 0 ∨ x1 < x0
      · have HBD := Lib.hid (show ∃ x ∈ zs, badC x from ⟨_, HXM.out, hbd⟩)
        have hcs : x0 < 0 ∨ (¬ x0 < 0 ∧ x1 < x0) := by omega
        clear hbd
        rcases hcs with h1 | ⟨h1, h2⟩
        all_goals
          go_wp2
          go_ret2
          exact ⟨.inl ⟨HBD.out, rfl⟩, HO.out.2.2.alloc HO.out.2.2.size _⟩
      have hb1 : ¬ x0 < 0 := by omega
      have hb2 : ¬ x1 < x0 := by omega
      have HGD2 : Hid (∀ x ∈ zs.take (i + 1), ¬ badC x) := Lib.hid (fun x hx => by
        rw [List.take_add_one, HXE.out] at hx
        rcases List.mem_append.1 hx with hx | hx
        · exact HGD.out x hx
        · simp at hx; subst hx; exact hbd)
      clear hbd
      go_upto_block 2 with fail
      obtain ⟨p, hp⟩ : ∃ p, p = wr.heap.size := ⟨_, rfl⟩
      obtain ⟨W1, hW1⟩ : ∃ W1, W1 = wr.alloc (.cells #[.int .i64 x0, .int .i64 x1, .slice xa xb.length xc] 66) := ⟨_, rfl⟩
      rw [← hp, ← hW1]
      have hbW : Below wr.heap.size wr W1 := by rw [hW1]; exact one_ok _ _
      have HD := Lib.hid (show AtCells W1 (some ⟨p, 0, none⟩) (cellsC [(x0, x1, xa, xc, xb)]) from by rw [hW1, hp]; exact at_box wr [.int .i64 x0, .int .i64 x1, .slice xa xb.length xc] _)
      have HO1 := Lib.hid (And.intro (HO.out.2.1.below hbW) (HO.out.2.2.trans (hbW.mono HO.out.2.2.size)))
      clear hp hW1 hbW c0 c1 c2
      go_cut [7] (fun kv wx => ∃ k : Nat, kv = .int .i64 k ∧ Aside (k = placeC ltC (x0, x1, xa, xc, xb) acc i) ∧ k ≤ i ∧ Below W1.heap.size W1 wx)
      case first => as_aux_lemma =>
        go_wp2_with fail
        go_loopw [7] (fun kv w2 => ∃ k : Nat, kv = .int .i64 k ∧ k ≤ i ∧ Aside (placeC ltC (x0, x1, xa, xc, xb) acc i = placeC ltC (x0, x1, xa, xc, xb) acc k) ∧ Below W1.heap.size W1 w2) (fun kv _ => (intOf kv).toNat)
        case atStart => exact ⟨i, rfl, Nat.le_refl _, rfl, Below.refl _ _⟩
        case round =>
          obtain ⟨k, rfl, hki, HP, hb2⟩ := hrel
          have HB2 := Lib.hid hb2
          by_cases hk0 : 0 < k
          · obtain ⟨kp, rfl⟩ : ∃ kp, k = kp + 1 := ⟨k - 1, by omega⟩
            obtain ⟨y, hy⟩ : ∃ y, acc[kp]? = some y := ⟨_, List.getElem?_eq_getElem (by rw [HX.out.1]; omega)⟩
            obtain ⟨ob, oo, rfl, e0, e1, e2⟩ := chg_cells (HO1.out.1.below hb2) hy
            obtain ⟨pb, po, hpp, d0, d1, d2⟩ := chg_cells (HD.out.below hb2) (k := 0) (x := (x0, x1, xa, xc, xb)) rfl
            simp only [Option.some.injEq, Addr.mk.injEq] at hpp
            obtain ⟨rfl, rfl, _⟩ := hpp
            simp only [Nat.zero_mul, Nat.zero_add] at d0 d1 d2
            have hyD : acc.getD kp default = y := by rw [List.getD_eq_getElem?_getD, hy]; rfl
            have g0 := grown_cells d0
            have g1 := grown_cells d1
            have g2 := grown_cells d2
            have f0 := grown_cells e0
            have f1 := grown_cells e1
            have f2 := grown_cells e2
            have hwp : IntKind.i64.wrap (kp : Int) = (kp : Int) := by have := HN.out; rw [IntKind.wrap_i64]; omega
            have hkz : (0 : Int) < (kp : Int) + 1 := by omega
            have hkz2 : (kp : Int) < (i : Int) := by omega
            have HY := Lib.hid hyD
            clear hb2 hy e0 e1 e2 d0 d1 d2 hyD
            obtain ⟨y0, y1, ya, yc, yb⟩ := y
            simp only at g0 g1 g2 f0 f1 f2
            by_cases hlv : ltC (x0, x1, xa, xc, xb) (y0, y1, ya, yc, yb) = true
            · have hcg := aheadC_grown _ _ _ hlv
              simp only at hcg
              have HLV := Lib.hid hlv
              clear hlv
              go_wp2_with fail
              go_quiet_grown (first | (go_at_call 57; refine Calls.grown_of (hcg _)))
              go_wp2
              go_roundw
              case rel =>
                refine ⟨kp, rfl, by omega, ?_, below_grow HB2.out HB2.out.size _ _⟩
                show _ = _
                rw [HP.out, placeC, HY.out, if_pos HLV.out]
              case measure => simp [intOf]
            · have hlf : ltC (x0, x1, xa, xc, xb) (y0, y1, ya, yc, yb) = false := by simpa using hlv
              have hcg := aheadC_grown _ _ _ hlf
              simp only at hcg
              have HLV := Lib.hid hlv
              clear hlv hlf
              go_wp2_with fail
              go_quiet_grown (first | (go_at_call 57; refine Calls.grown_of (hcg _)))
              go_wp2
              go_meet
              refine ⟨kp + 1, rfl, ?_, hki, below_grow HB2.out HB2.out.size _ _⟩
              show _ = _
              rw [HP.out, placeC, HY.out, if_neg HLV.out]
          · obtain rfl : k = 0 := by omega
            clear hb2
            go_wp2_with fail
            go_big_region_o
            all_goals go_wp2
            all_goals go_meet
            all_goals exact ⟨0, rfl, HP.out.symm, Nat.zero_le _, HB2.out.drew⟩
      case rest => as_aux_lemma =>
        obtain ⟨k, rfl, HP, hki, hbx⟩ := hcut
        obtain ⟨w3, hw3⟩ : ∃ w3, w3 = wc := ⟨_, rfl⟩
        rw [← hw3] at hbx ⊢
        clear hw3
        have HD3 := Lib.hid (HD.out.below hbx)
        have HB3 := Lib.hid (HO1.out.2.trans (hbx.mono HO1.out.2.size))
        have hoA := HO1.out.1.below hbx
        have hl1 : (cellsC (acc.take k)).length = k * 3 := by rw [cellsC_length, List.length_take, HX.out.1]; omega
        have hl3 : (cellsC (acc.drop k)).length = (i - k) * 3 := by rw [cellsC_length, List.length_drop, HX.out.1]
        have ht1 : AtCells w3 oa (cellsC (acc.take k)) := by
          have := hoA.take (k * 3)
          rwa [cellsC_take] at this
        have HM1 := Lib.hid (show 0 + k ≤ maxLen ∧ (0 + k) * 40 ≤ 140737488355328 from by have := HN.out; unfold maxLen; omega)
        have HM2 := Lib.hid (show 0 + k + 1 ≤ maxLen ∧ (0 + k + 1) * 40 ≤ 140737488355328 from by have := HN.out; unfold maxLen; omega)
        have HM := Lib.hid (show ∀ m, m ≤ i - k → 0 + k + 1 + m ≤ maxLen ∧ (0 + k + 1 + m) * 40 ≤ 140737488355328 from fun m hm => by have := HN.out; unfold maxLen; omega)
        have HT1 := Lib.hid (And.intro hl1 ht1)
        have HMD := Lib.hid (show (w3.alloc (.cells #[] 66)).ownsRow w3.heap.size 66 3 (.slice (some ⟨w3.heap.size, 0, none⟩) 0 0) 0 [] from World.ownsRow_made w3 #[] 0 (Nat.le_refl _) (Nat.zero_le _) (by simp))
        have HL3 := Lib.hid hl3
        have HOA := Lib.hid hoA
        have FIN : Hid (∀ (m : Nat) (v3 : Value) (w6 : World), m = i - k → w6.ownsRow w3.heap.size 66 3 v3 (0 + k + 1 + m) ([] ++ cellsC (acc.take k) ++ [.int .i64 x0, .int .i64 x1, .slice xa xb.length xc] ++ cellsC (acc.drop k)) → w6.ownsRow w.heap.size 66 3 v3 (i + 1) (cellsC (isort ltC (zs.take (i + 1))))) := Lib.hid (fun m v3 w6 hm h => by
          have e1 : 0 + k + 1 + m = i + 1 := by omega
          have e2 : [] ++ cellsC (acc.take k) ++ [.int .i64 x0, .int .i64 x1, .slice xa xb.length xc] ++ cellsC (acc.drop k) = cellsC (isort ltC (zs.take (i + 1))) := by
            rw [HX.out.2, putC, HX.out.1, ← HP.out, cellsC_append, List.nil_append, List.append_assoc]
            rfl
          rw [e1, e2] at h
          exact owns_lower h HB3.out.size)
        clear hbx hoA hl1 hl3 ht1
        have hwi : IntKind.i64.wrap ((i : Int) + 1) = (i : Int) + 1 := by have := HN.out; rw [IntKind.wrap_i64]; omega
        rcases HO.out.1.2 with ⟨hv, hi0⟩ | ⟨g, oc', cur, hv, hbase, hb, h1, h2, h3, h4⟩
        · simp only [Value.slice.injEq] at hv
          obtain ⟨rfl, _, rfl⟩ := hv
          subst hi0
          obtain rfl : k = 0 := by omega
          have HNIL := Lib.hid (show ∀ (a b c : Nat), ((none : Option Addr) = none → 0 = 0 ∧ 0 = 0) from fun _ _ _ _ => ⟨rfl, rfl⟩)
          have hd0 : acc.drop 0 = [] := List.eq_nil_of_length_eq_zero (by rw [List.drop_zero]; exact HX.out.1)
          have HT3 := Lib.hid (show ∀ W, Below w3.heap.size w3 W → (cellsC (acc.drop 0)).length = 0 * 3 ∧ AtCells W none (cellsC (acc.drop 0)) from fun W hW => ⟨by rw [hd0]; rfl, by
              rw [hd0]; exact AtCells.nil _ _⟩)
          clear hd0
          go_wp2_with (first
            | (at_builtin; refine wpList_append_sep rfl _ _ 23 rfl w3.heap.size 66 i0 _ 3 40 Try.underlying23 HI.out.1 HI.out.2.1 HI.out.2.2.1 HI.out.2.2.2 rfl (by decide) _ _ _ rfl hown2 _ _ _ (cellsC (acc.drop 0)) rfl (HNIL.out 0 0 0) (HT3.out _ hb5).1 (HT3.out _ hb5).2 (cellsC_one _) (HM.out _ (by omega)).1 (HM.out _ (by omega)).2 hb5.size _ rfl ?_; intro v3 w6 hown3 hg3 _; have hb6 := hb5.grown hg3 hb5.size (fun q hq => (hown2.lt q hq).1); clear hown2 hg3 hb5)
            | (at_builtin; refine wpList_append_sep rfl _ _ 23 rfl w3.heap.size 66 i0 _ 3 40 Try.underlying23 HI.out.1 HI.out.2.1 HI.out.2.2.1 HI.out.2.2.2 rfl (by decide) _ _ _ rfl ((owns_below hown1 (one_ok _ _))) _ _ _ [.int .i64 x0, .int .i64 x1, .slice xa xb.length xc] rfl (fun h => by cases h) rfl (at_box _ _ _) (encC_one (x0, x1, xa, xc, xb)) HM2.out.1 HM2.out.2 (Nat.le_trans hb4.size (by simp)) _ rfl ?_; intro v2 w5 hown2 hg2 _; have hb5 := below_grown_alloc hb4 hb4.size hg2 (fun q hq => (hown1.lt q hq).1); clear hown1 hg2 hb4 d0 d1 d2)
            | (at_builtin; refine wpList_append_sep rfl _ _ 23 rfl w3.heap.size 66 i0 _ 3 40 Try.underlying23 HI.out.1 HI.out.2.1 HI.out.2.2.1 HI.out.2.2.2 rfl (by decide) _ _ _ rfl HMD.out _ _ _ (cellsC (acc.take 0)) rfl (HNIL.out 0 0 0) HT1.out.1 (HT1.out.2.alloc _) (cellsC_one _) HM1.out.1 HM1.out.2 (by simp) _ rfl ?_; intro v1 w4 hown1 hg1 _; have hb4 := below_grown_alloc (Below.refl w3.heap.size w3) (Nat.le_refl _) hg1 (fun q hq => (HMD.out.lt q hq).1); obtain ⟨pb, po, hpp, d0, d1, d2⟩ := chg_cells (HD3.out.below hb4) (k := 0) (x := (x0, x1, xa, xc, xb)) rfl; simp only [Option.some.injEq, Addr.mk.injEq] at hpp; obtain ⟨rfl, rfl, _⟩ := hpp; simp only [Nat.zero_mul, Nat.zero_add] at d0 d1 d2; clear hg1))
          go_roundw
          case rel => exact ⟨0 + 1, by go_num, by omega, HGD2, FIN.out _ _ _ (by omega) hown3, HB3.out.trans (hb6.mono HB3.out.size)⟩
          case measure => simp [intOf]; omega
        · simp only [Value.slice.injEq] at hv
          obtain ⟨rfl, _, rfl⟩ := hv
          clear hbase hb h1 h2 h3 h4
          have HNIL := Lib.hid (show ∀ (ad : Addr) (m c : Nat), (some ad = none → m = 0 ∧ c = 0) from fun _ _ _ h => by cases h)
          by_cases hkc : k = oc
          · subst hkc
            obtain rfl : k = i := by omega
            have hd0 : acc.drop k = [] := List.drop_eq_nil_of_le (by rw [HX.out.1]; exact Nat.le_refl _)
            have HT3 := Lib.hid (show ∀ W, Below w3.heap.size w3 W → (cellsC (acc.drop k)).length = 0 * 3 ∧ AtCells W (some ⟨g, 0, none⟩) (cellsC (acc.drop k)) from fun W hW => ⟨by rw [hd0]; rfl, by
              rw [hd0]; exact AtCells.nil _ _⟩)
            clear hd0
            go_wp2_with (first
              | (at_builtin; refine wpList_append_sep rfl _ _ 23 rfl w3.heap.size 66 i0 _ 3 40 Try.underlying23 HI.out.1 HI.out.2.1 HI.out.2.2.1 HI.out.2.2.2 rfl (by decide) _ _ _ rfl hown2 _ _ _ (cellsC (acc.drop k)) rfl (HNIL.out _ _ _) (HT3.out _ hb5).1 (HT3.out _ hb5).2 (cellsC_one _) (HM.out _ (by omega)).1 (HM.out _ (by omega)).2 hb5.size _ rfl ?_; intro v3 w6 hown3 hg3 _; have hb6 := hb5.grown hg3 hb5.size (fun q hq => (hown2.lt q hq).1); clear hown2 hg3 hb5)
              | (at_builtin; refine wpList_append_sep rfl _ _ 23 rfl w3.heap.size 66 i0 _ 3 40 Try.underlying23 HI.out.1 HI.out.2.1 HI.out.2.2.1 HI.out.2.2.2 rfl (by decide) _ _ _ rfl ((owns_below hown1 (one_ok _ _))) _ _ _ [.int .i64 x0, .int .i64 x1, .slice xa xb.length xc] rfl (fun h => by cases h) rfl (at_box _ _ _) (encC_one (x0, x1, xa, xc, xb)) HM2.out.1 HM2.out.2 (Nat.le_trans hb4.size (by simp)) _ rfl ?_; intro v2 w5 hown2 hg2 _; have hb5 := below_grown_alloc hb4 hb4.size hg2 (fun q hq => (hown1.lt q hq).1); clear hown1 hg2 hb4 d0 d1 d2)
              | (at_builtin; refine wpList_append_sep rfl _ _ 23 rfl w3.heap.size 66 i0 _ 3 40 Try.underlying23 HI.out.1 HI.out.2.1 HI.out.2.2.1 HI.out.2.2.2 rfl (by decide) _ _ _ rfl HMD.out _ _ _ (cellsC (acc.take k)) rfl (HNIL.out _ _ _) HT1.out.1 (HT1.out.2.alloc _) (cellsC_one _) HM1.out.1 HM1.out.2 (by simp) _ rfl ?_; intro v1 w4 hown1 hg1 _; have hb4 := below_grown_alloc (Below.refl w3.heap.size w3) (Nat.le_refl _) hg1 (fun q hq => (HMD.out.lt q hq).1); obtain ⟨pb, po, hpp, d0, d1, d2⟩ := chg_cells (HD3.out.below hb4) (k := 0) (x := (x0, x1, xa, xc, xb)) rfl; simp only [Option.some.injEq, Addr.mk.injEq] at hpp; obtain ⟨rfl, rfl, _⟩ := hpp; simp only [Nat.zero_mul, Nat.zero_add] at d0 d1 d2; clear hg1))
            go_roundw
            case rel => exact ⟨k + 1, by go_num, by omega, HGD2, FIN.out _ _ _ (by omega) hown3, HB3.out.trans (hb6.mono HB3.out.size)⟩
            case measure => simp [intOf]; omega
          · have HT3 := Lib.hid (show ∀ W, Below w3.heap.size w3 W → (cellsC (acc.drop k)).length = (i - k) * 3 ∧ AtCells W (some ⟨g, k * 3, none⟩) (cellsC (acc.drop k)) from fun W hW => ⟨HL3.out, by
              have := (HOA.out.below hW).drop (k * 3)
              rwa [cellsC_drop, Nat.zero_add] at this⟩)
            have hkz : (k : Int) < (oc : Int) := by omega
            have hkz2 : (k : Int) ≤ (i : Int) := by omega
            have hkz3 : (i : Int) ≤ (oc : Int) := by omega
            have hkn : k < oc := by omega
            have hkn1 : k ≤ oc := by omega
            clear hkc
            go_wp2_with (first
              | (at_builtin; refine wpList_append_sep rfl _ _ 23 rfl w3.heap.size 66 i0 _ 3 40 Try.underlying23 HI.out.1 HI.out.2.1 HI.out.2.2.1 HI.out.2.2.2 rfl (by decide) _ _ _ rfl hown2 _ _ _ (cellsC (acc.drop k)) rfl (HNIL.out _ _ _) (HT3.out _ hb5).1 (HT3.out _ hb5).2 (cellsC_one _) (HM.out _ (by omega)).1 (HM.out _ (by omega)).2 hb5.size _ rfl ?_; intro v3 w6 hown3 hg3 _; have hb6 := hb5.grown hg3 hb5.size (fun q hq => (hown2.lt q hq).1); clear hown2 hg3 hb5)
              | (at_builtin; refine wpList_append_sep rfl _ _ 23 rfl w3.heap.size 66 i0 _ 3 40 Try.underlying23 HI.out.1 HI.out.2.1 HI.out.2.2.1 HI.out.2.2.2 rfl (by decide) _ _ _ rfl ((owns_below hown1 (one_ok _ _))) _ _ _ [.int .i64 x0, .int .i64 x1, .slice xa xb.length xc] rfl (fun h => by cases h) rfl (at_box _ _ _) (encC_one (x0, x1, xa, xc, xb)) HM2.out.1 HM2.out.2 (Nat.le_trans hb4.size (by simp)) _ rfl ?_; intro v2 w5 hown2 hg2 _; have hb5 := below_grown_alloc hb4 hb4.size hg2 (fun q hq => (hown1.lt q hq).1); clear hown1 hg2 hb4 d0 d1 d2)
              | (at_builtin; refine wpList_append_sep rfl _ _ 23 rfl w3.heap.size 66 i0 _ 3 40 Try.underlying23 HI.out.1 HI.out.2.1 HI.out.2.2.1 HI.out.2.2.2 rfl (by decide) _ _ _ rfl HMD.out _ _ _ (cellsC (acc.take k)) rfl (HNIL.out _ _ _) HT1.out.1 (HT1.out.2.alloc _) (cellsC_one _) HM1.out.1 HM1.out.2 (by simp) _ rfl ?_; intro v1 w4 hown1 hg1 _; have hb4 := below_grown_alloc (Below.refl w3.heap.size w3) (Nat.le_refl _) hg1 (fun q hq => (HMD.out.lt q hq).1); obtain ⟨pb, po, hpp, d0, d1, d2⟩ := chg_cells (HD3.out.below hb4) (k := 0) (x := (x0, x1, xa, xc, xb)) rfl; simp only [Option.some.injEq, Addr.mk.injEq] at hpp; obtain ⟨rfl, rfl, _⟩ := hpp; simp only [Nat.zero_mul, Nat.zero_add] at d0 d1 d2; clear hg1))
            go_roundw
            case rel => exact ⟨i + 1, by go_num, by omega, HGD2, FIN.out _ _ _ (by omega) hown3, HB3.out.trans (hb6.mono HB3.out.size)⟩
            case measure => simp [intOf]; omega
    · obtain rfl : i = n := by omega
      have hgd := HGD.out
      rw [List.take_of_length_le (by rw [HAT.out.2]; exact Nat.le_refl _)] at hown hgd
      obtain ⟨S, hS⟩ : ∃ S, S = isort ltC zs := ⟨_, rfl⟩
      rw [← hS] at hown
      have HSL := Lib.hid (show S.length = i by rw [hS, isort_length, HAT.out.2])
      have HSG := Lib.hid (show ∀ x ∈ S, ¬ badC x from fun x hx => by rw [hS] at hx; exact hgd x (mem_isort.1 hx))
      have HGD3 := Lib.hid hgd
      have HSE := Lib.hid hS
      obtain ⟨oa, oc, rfl, hoc⟩ := owns_slice hown
      have HO := Lib.hid (And.intro (AtCells.of_owns hown) (And.intro hown hbl))
      have hn30 := HN.out
      have hltf : ¬ (i : Int) < (i : Int) := by omega
      clear hown hbl hgd hS hlt HGD
      go_wp2
      go_loopw [9, 10, 60] (fun _i _p iv w2 => ∃ (j : Nat) (e : Int), iv = .int .i64 j ∧ j ≤ i ∧ Hid (takenC e (S.drop j) = takenC 0 S ∧ (j = 0 → e = 0) ∧ (0 < j → ∃ y, S[j - 1]? = some y ∧ e = y.2.1)) ∧ Hid (Below wr.heap.size wr w2)) (fun _ _ iv _ => i - (intOf iv).toNat)
      case atStart => exact ⟨0, 0, rfl, Nat.zero_le _, Lib.hid ⟨rfl, fun _ => rfl, fun h => by omega⟩, Lib.hid (Below.refl _ _)⟩
      case round =>
        obtain ⟨j, e, rfl, hj, HT, HB⟩ := hrel
        by_cases hjn : j < i
        · obtain ⟨⟨x0, x1, xa, xc, xb⟩, hx⟩ : ∃ x, S[j]? = some x := ⟨_, List.getElem?_eq_getElem (by rw [HSL.out]; omega)⟩
          obtain ⟨b, off, rfl, c0, c1, c2⟩ := chg_cells (HO.out.1.below HB.out) hx
          simp only at c0 c1 c2
          have hgx := HSG.out _ (List.mem_of_getElem? hx)
          have hdr : S.drop j = (x0, x1, xa, xc, xb) :: S.drop (j + 1) := by
            rw [List.drop_eq_getElem_cons (by rw [HSL.out]; exact hjn), (List.getElem?_eq_some_iff.1 hx).2]
          have HTK := HT.out.1
          rw [hdr, takenC] at HTK
          have hjz : (j : Int) < (i : Int) := by omega
          have HX := Lib.hid hx
          have hbx : 0 ≤ x0 := by unfold badC at hgx; omega
          by_cases hj0 : j = 0
          · subst hj0
            have he := HT.out.2.1 rfl
            rw [he, decide_eq_false (by omega), Bool.false_or] at HTK
            have HT2 := Lib.hid HTK
            simp only [Nat.zero_mul, Nat.add_zero] at c0 c1 c2
            clear hx hdr HTK hgx hjn
            go_wp2
            go_big_region_o
            all_goals go_wp2
            all_goals go_roundw
            case rel => exact ⟨1, x1, by go_num, by omega, Lib.hid ⟨HT2.out, fun h => by omega, fun _ => ⟨_, HX.out, rfl⟩⟩, Lib.hid (by first | exact (HB.out.alloc HB.out.size _).drew | exact HB.out.alloc HB.out.size _)⟩
            case measure => simp [intOf]; omega
          · obtain ⟨jp, rfl⟩ : ∃ jp, j = jp + 1 := ⟨j - 1, by omega⟩
            obtain ⟨⟨y0, y1, ya, yc, yb⟩, hy, rfl⟩ := HT.out.2.2 (by omega)
            simp only [Nat.add_sub_cancel] at hy
            obtain ⟨b', off', he', d0, d1, d2⟩ := chg_cells (HO.out.1.below HB.out) hy
            simp only [Option.some.injEq, Addr.mk.injEq] at he'
            obtain ⟨rfl, rfl, _⟩ := he'
            simp only at d1 HTK
            have hjp : (jp : Int) < (i : Int) := by omega
            have hjp2 : (0 : Int) < (jp : Int) + 1 := by omega
            have hjp3 : IntKind.i64.wrap (jp : Int) = (jp : Int) := by rw [IntKind.wrap_i64]; omega
            have hjp4 : jp < i := by omega
            have d1' := kp_alloc (.cells #[.int .i64 x0, .int .i64 x1, .slice xa xb.length xc] 66) d1
            have q0 := (box3 wr (.int .i64 x0) (.int .i64 x1) (.slice xa xb.length xc) 66).1
            by_cases hlt2 : x0 < e
            · have HTT := Lib.hid (show takenC 0 S = true by rw [← HTK, decide_eq_true hlt2]; rfl)
              clear hx hdr HTK hgx hjn hy d0 d2
              go_wp2
              obtain ⟨W5, hW5⟩ : ∃ W5, W5 = wr.alloc (.cells #[.int .i64 x0, .int .i64 x1, .slice xa xb.length xc] 66) := ⟨_, rfl⟩
              have HB5 := Lib.hid (HB.out.alloc HB.out.size (.cells #[.int .i64 x0, .int .i64 x1, .slice xa xb.length xc] 66))
              obtain ⟨P, hP⟩ : ∃ P, P = wr.heap.size := ⟨_, rfl⟩
              rw [← hW5] at d1' q0 HB5 ⊢
              rw [← hP] at q0 ⊢
              clear hW5 hP
              go_region_held_law (fun W => W.cell? ⟨P, 0, none⟩ = some (.int .i64 x0) ∧ W.cell? ⟨b, off + jp * 3 + 1, none⟩ = some (.int .i64 e))
                ((refine ⟨?_, ?_⟩ <;> (repeat (first | (with_reducible assumption) | (with_reducible refine kp_drew ?_)))))
                (fail)
              go_wp2
              go_ret2
              exact ⟨.inr ⟨HGD3.out, .inl ⟨by rw [← HSE.out]; exact HTT.out, rfl⟩⟩, Below.more HO.out.2.2 HB5.out.drew⟩
            · rw [decide_eq_false hlt2, Bool.false_or] at HTK
              have HT2 := Lib.hid HTK
              clear hx hdr HTK hgx hjn hy d0 d2
              go_wp2
              obtain ⟨W5, hW5⟩ : ∃ W5, W5 = wr.alloc (.cells #[.int .i64 x0, .int .i64 x1, .slice xa xb.length xc] 66) := ⟨_, rfl⟩
              have HB5 := Lib.hid (HB.out.alloc HB.out.size (.cells #[.int .i64 x0, .int .i64 x1, .slice xa xb.length xc] 66))
              obtain ⟨P, hP⟩ : ∃ P, P = wr.heap.size := ⟨_, rfl⟩
              rw [← hW5] at d1' q0 HB5 ⊢
              rw [← hP] at q0 ⊢
              clear hW5 hP
              go_region_held_law (fun W => W.cell? ⟨P, 0, none⟩ = some (.int .i64 x0) ∧ W.cell? ⟨b, off + jp * 3 + 1, none⟩ = some (.int .i64 e))
                ((refine ⟨?_, ?_⟩ <;> (repeat (first | (with_reducible assumption) | (with_reducible refine kp_drew ?_)))))
                (fail)
              go_wp2
              go_roundw
              case rel => exact ⟨jp + 1 + 1, x1, by go_num, by omega, Lib.hid ⟨HT2.out, fun h => by omega, fun _ => ⟨_, HX.out, rfl⟩⟩, Lib.hid HB5.out.drew⟩
              case measure => simp [intOf]; omega
        · obtain rfl : j = i := by omega
          have hnil : S.drop j = [] := List.drop_eq_nil_of_le (by rw [HSL.out]; exact Nat.le_refl _)
          have HTF := Lib.hid (show takenC 0 (isort ltC zs) = false by rw [← HSE.out, ← HT.out.1, hnil]; rfl)
          have HFIN := Lib.hid (And.intro (owns_below HO.out.2.1 HB.out) (Below.more HO.out.2.2 HB.out))
          clear hjn hnil
          go_wp2
          go_ret2
          exact ⟨.inr ⟨HGD3.out, .inr ⟨HTF.out, _, rfl, by rw [← HSE.out]; exact HFIN.out.1⟩⟩, HFIN.out.2⟩

end Go.Proofs.Ytbljgoieieoamaa
