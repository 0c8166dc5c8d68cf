/-
  The reference of layer 6's sort: Ahead, Sorted.
-/
import Derived.Test.YtlkcnfkfccfhmaaSrT
import Derived.Test.YtlkcnfkfccfhmaaSpF
import Derived.Laws.AppendOwnNone
import Derived.Deep.CutBlock
namespace Go.Proofs.Ytlkcnfkfccfhmaa
open Go.Shelf Go.RowKit Go.Lib Go.Sort
set_option linter.unusedVariables false

theorem ret_bR {a b : Bool} (h : a = b) : Ending.returned (.bool a) = .returned (.bool b) := by rw [h]

set_option maxHeartbeats 1000000 in
theorem ahead_any (f t c f' t' c' : Int) (w : World) :
    Calls Try.prog 26 #[.agg #[.int .i64 f, .int .i64 t, .int .i64 c], .agg #[.int .i64 f', .int .i64 t', .int .i64 c']] w fun e w' => e = .returned (.bool (ltD (f, t, c) (f', t', c'))) ∧
      w' = (w.alloc (.cells #[.int .i64 f, .int .i64 t, .int .i64 c] 43)).alloc (.cells #[.int .i64 f', .int .i64 t', .int .i64 c'] 43) := by
  by_cases h1 : f = f'
  · subst h1
    by_cases h2 : t = t'
    · subst h2
      go_enter Try.func26, Try.ntmps26
      go_wp2
      go_ret
      exact ⟨ret_bR (by unfold ltD; rw [Bool.eq_iff_iff]; simp), rfl⟩
    · go_enter Try.func26, Try.ntmps26
      go_wp2
      go_ret
      exact ⟨ret_bR (by unfold ltD; rw [Bool.eq_iff_iff]; simp [h2]), rfl⟩
  · go_enter Try.func26, Try.ntmps26
    go_wp2
    go_ret
    exact ⟨ret_bR (by unfold ltD; rw [Bool.eq_iff_iff]; simp [h1]), rfl⟩

/-- The three cells of the k-th. -/
theorem triple_at {w : World} {a : Option Addr} {l : List Tri} (hat : AtCells w a (cellsD l)) {k : Nat} {x : Tri} (h : l[k]? = some x) :
    ∃ b off, a = some ⟨b, off, none⟩ ∧ w.cell? ⟨b, off + k * 3, none⟩ = some (.int .i64 x.1) ∧ w.cell? ⟨b, off + k * 3 + 1, none⟩ = some (.int .i64 x.2.1) ∧ w.cell? ⟨b, off + k * 3 + 2, none⟩ = some (.int .i64 x.2.2) := by
  have hk : k < l.length := by
    by_cases c : k < l.length
    · exact c
    · rw [List.getElem?_eq_none (by omega)] at h; cases h
  have hx : l.getD k default = x := by rw [List.getD_eq_getElem?_getD, h]; rfl
  have key : ∀ j, j < 3 → (cellsD l)[k * 3 + j]? = some ((encD x)[j]!) := fun j hj => by
    rw [cellsD_get l (k * 3 + j) (by omega), show (k * 3 + j) / 3 = k by omega, show (k * 3 + j) % 3 = j by omega, hx]
  obtain ⟨b, off, rfl, c0⟩ := hat _ _ (key 0 (by omega))
  obtain ⟨b1, off1, e1, c1⟩ := hat _ _ (key 1 (by omega))
  obtain ⟨b2, off2, e2, c2⟩ := hat _ _ (key 2 (by omega))
  simp only [Option.some.injEq, Addr.mk.injEq] at e1 e2
  obtain ⟨rfl, rfl, _⟩ := e1
  obtain ⟨rfl, rfl, _⟩ := e2
  exact ⟨b, off, rfl, c0, by rw [Nat.add_assoc]; exact c1, by rw [Nat.add_assoc]; exact c2⟩

theorem grownBy_self (w : World) (r : Option Nat) : w.grownBy w r := ⟨rfl, rfl, rfl, Nat.le_refl _, fun _ _ _ => rfl⟩

/-- append of a row that lies somewhere, or is nil. -/
theorem wpList_append_at {P : Program} {w : World} {ops : Array Oper} {rest : List Oper} {o : Oper} {a : Act} {Q : Exit → Act → World → Prop} (hgd : o.guard = none) (s x : Operand) (t : TypeId)
    (ho : o.op = .call { callee := .builtin .append, args := #[s, x], argTypes := #[t, t] })
    (base : Nat) (e : TypeId) (i : TypeInfo) (z : Value) (size bytes : Nat) (ht : P.underlying t = some (.slice e)) (hi : P.info? e = some i) (hz : i.zero = some z)
    (hsize : i.size = size) (hby : i.bytes = bytes) (hzs : z.cells.size = size) (hsz : 0 < size)
    (v : Value) (n : Nat) (xs : List Value) (hs : a.eval s = v) (hown : w.ownsRow base e size v n xs)
    (ad : Option Addr) (m c : Nat) (news : List Value) (hx : a.eval x = .slice ad m c) (hnil : ad = none → m = 0 ∧ c = 0) (hl : news.length = m * size) (hat : AtCells w ad news) (h1 : ∀ u ∈ news, u.oneCell' = true)
    (h63 : n + m ≤ maxLen) (hbytes : (n + m) * bytes ≤ 140737488355328) (hbase : base ≤ w.heap.size)
    (h : ∀ v' w', w'.ownsRow base e size v' (n + m) (xs ++ news) → w.grownBy w' v.ownBlock → wpList P ops Q rest (a.put o.dst v') w') : wpList P ops Q (o :: rest) a w := by
  cases ad with
  | none =>
    obtain ⟨rfl, rfl⟩ := hnil rfl
    obtain rfl : news = [] := List.eq_nil_of_length_eq_zero (by rw [hl, Nat.zero_mul])
    exact wpList_append_own_none hgd s x t ho base e i size ht hi v n xs hs hown hx (h v w (by simpa using hown) (grownBy_self _ _))
  | some ad =>
    exact wpList_append_own w hgd s x t ho base e i z size bytes ht hi hz hsize hby hzs hsz v n xs hs hown ad m c news hx hl (at_news hat) h1 h63 hbytes hbase fun v' w' h1 h2 _ => h v' w' h1 h2

theorem Try.infoRefDiag : (Try.prog.info? 43).map (fun i => (i.zero, i.size, i.bytes)) = some (some (.agg #[.int .i64 0, .int .i64 0, .int .i64 0]), 3, 24) := by kernel_rfl

theorem cellsD_take (l : List Tri) (k : Nat) : (cellsD l).take (k * 3) = cellsD (l.take k) := by
  induction k generalizing l with
  | zero => simp [cellsD]
  | succ k ih =>
    cases l with
    | nil => simp [cellsD]
    | cons x r =>
      rw [show (k + 1) * 3 = k * 3 + 1 + 1 + 1 by omega, List.take_succ_cons]
      show (.int .i64 x.1 :: .int .i64 x.2.1 :: .int .i64 x.2.2 :: cellsD r).take (k * 3 + 1 + 1 + 1) = .int .i64 x.1 :: .int .i64 x.2.1 :: .int .i64 x.2.2 :: cellsD (r.take k)
      rw [List.take_succ_cons, List.take_succ_cons, List.take_succ_cons, ih]

theorem cellsD_drop (l : List Tri) (k : Nat) : (cellsD l).drop (k * 3) = cellsD (l.drop k) := by
  induction k generalizing l with
  | zero => simp [cellsD]
  | succ k ih =>
    cases l with
    | nil => simp [cellsD]
    | cons x r =>
      rw [show (k + 1) * 3 = k * 3 + 1 + 1 + 1 by omega, List.drop_succ_cons]
      show (.int .i64 x.1 :: .int .i64 x.2.1 :: .int .i64 x.2.2 :: cellsD r).drop (k * 3 + 1 + 1 + 1) = cellsD (r.drop k)
      rw [List.drop_succ_cons, List.drop_succ_cons, List.drop_succ_cons, ih]

theorem two_grown (w : World) (a b : Obj) : (w.alloc a).alloc b = grow (w.drewN 0) #[a, b] := by
  rw [alloc_eq_grow, alloc_eq_grow, grow_grow]
  rfl

theorem ahead_grown (x y : Tri) (v : Bool) (hv : ltD x y = v) (w : World) :
    Calls Try.prog 26 #[.agg #[.int .i64 x.1, .int .i64 x.2.1, .int .i64 x.2.2], .agg #[.int .i64 y.1, .int .i64 y.2.1, .int .i64 y.2.2]] w fun e w' => e = .returned (.bool v) ∧ ∃ q os', w' = grow (w.drewN q) os' :=
  (ahead_any _ _ _ _ _ _ w).mono fun e w' ⟨he, hw⟩ => ⟨by rw [he, ← hv], 0, #[_, _], hw.trans (two_grown _ _ _)⟩

theorem grown_cells {w : World} {b o : Nat} {v : Value} (h : w.cell? ⟨b, o, none⟩ = some v) : ∀ n os, (grow (w.drewN n) os).cell? ⟨b, o, none⟩ = some v := fun n os => cell_grown (cell_lt h) h n os

theorem below_grow {B : Nat} {w0 w : World} (h : Below B w0 w) (hB : B ≤ w.heap.size) (n : Nat) (os : Array Obj) : Below B w0 (grow (w.drewN n) os) :=
  (below_drewN h n).trans ⟨rfl, rfl, rfl, by rw [size_grow]; exact Nat.le_add_right _ _, fun k hk => heap_grow_old _ _ (Nat.lt_of_lt_of_le hk hB)⟩

theorem at_box (w : World) (cs : List Value) (e : TypeId) : AtCells (w.alloc (.cells cs.toArray e)) (some ⟨w.heap.size, 0, none⟩) cs := fun j u hj =>
  ⟨w.heap.size, 0, rfl, by have := new_cells w cs e j u hj; rw [Addr.add_lit] at this; exact this⟩

theorem putsD_len (l : List Tri) : (putsD l).length = l.length := by
  have := putsD_length l []
  simpa [putsD] using this

set_option maxHeartbeats 2000000 in
set_option maxRecDepth 100000 in
theorem rsorted_any (a : Option Addr) (n cap : Nat) (zs : List Tri) (w : World) (hn : zs.length = n) (hn30 : n ≤ 30) (hc : n ≤ cap) (hat : AtCells w a (cellsD zs)) :
    Calls Try.prog 18 #[.slice a n cap] w fun e w' => ∃ v, e = .returned v ∧ w'.ownsRow w.heap.size 43 3 v n (cellsD (srtD zs)) ∧ Below w.heap.size w w' := by
  obtain ⟨i0, hi, hz0, hz1, hz2⟩ := info_parts Try.infoRefDiag
  have HI := Lib.hid (And.intro hi (And.intro hz0 (And.intro hz1 hz2)))
  have HAT := Lib.hid (And.intro hat hn)
  have HN := Lib.hid hn30
  have mixed : Try.prog.follows .mixedOrders = true := by kernel_rfl
  clear hat hn hi hz0 hz1 hz2 hn30
  go_enter Try.func18, Try.ntmps18
  go_wp2
  go_loopw [3, 10] (fun v o wr => ∃ i : Nat, o = .int .i64 i ∧ i ≤ n ∧ wr.ownsRow w.heap.size 43 3 v i (cellsD (putsD (zs.take i))) ∧ Below w.heap.size w wr) (fun _ o _ => n - (intOf o).toNat)
  case atStart => exact ⟨0, rfl, Nat.zero_le _, World.ownsRow_nil _ _ _ _, Below.refl _ _⟩
  case round =>
    obtain ⟨i, rfl, hin, hown, hbl⟩ := hrel
    by_cases hlt : i < n
    · have hltz : (i : Int) < (n : Int) := by omega
      obtain ⟨x, hx⟩ : ∃ x, zs[i]? = some x := ⟨_, List.getElem?_eq_getElem (by rw [HAT.out.2]; exact hlt)⟩
      have hal : (putsD (zs.take i)).length = i := by rw [putsD_len, List.length_take, HAT.out.2]; omega
      have hnext : putsD (zs.take (i + 1)) = putD (putsD (zs.take i)) x := by
        rw [List.take_add_one, hx, ← putsD_snoc]; rfl
      obtain ⟨b, off, rfl, c0, c1, c2⟩ := triple_at (HAT.out.1.below hbl) hx
      obtain ⟨oa, oc, rfl, hoc⟩ := owns_slice hown
      have HO := Lib.hid (And.intro hown (And.intro (AtCells.of_owns hown) hbl))
      have HX := Lib.hid (And.intro hal hnext)
      obtain ⟨acc, hacc⟩ : ∃ acc, acc = putsD (zs.take i) := ⟨_, rfl⟩
      rw [← hacc] at HO HX
      clear hown hbl hx hal hnext hacc
      obtain ⟨x0, x1, x2⟩ := x
      simp only at c0 c1 c2
      go_upto_block 2 with fail
      obtain ⟨p, hp⟩ : ∃ p, p = wr.heap.size := ⟨_, rfl⟩
      obtain ⟨W1, hW1⟩ : ∃ W1, W1 = wr.alloc (.cells #[.int .i64 x0, .int .i64 x1, .int .i64 x2] 43) := ⟨_, rfl⟩
      rw [← hp, ← hW1]
      have hbW : Below wr.heap.size wr W1 := by rw [hW1]; exact bl1 _ _
      have HD := Lib.hid (show AtCells W1 (some ⟨p, 0, none⟩) (cellsD [(x0, x1, x2)]) from by rw [hW1, hp]; exact at_box wr [.int .i64 x0, .int .i64 x1, .int .i64 x2] _)
      have HO1 := Lib.hid (And.intro (HO.out.2.1.below hbW) (HO.out.2.2.trans (hbW.mono HO.out.2.2.size)))
      clear hp hW1 hbW c0 c1 c2
      go_cut [6] (fun kv wx => ∃ k : Nat, kv = .int .i64 k ∧ Aside (k = place (x0, x1, x2) acc i) ∧ k ≤ i ∧ Below W1.heap.size W1 wx)
      case first => as_aux_lemma =>
        go_wp2_with fail
        go_loopw [6] (fun kv w2 => ∃ k : Nat, kv = .int .i64 k ∧ k ≤ i ∧ Aside (place (x0, x1, x2) acc i = place (x0, x1, x2) acc k) ∧ Below W1.heap.size W1 w2) (fun kv _ => (intOf kv).toNat)
        case atStart => exact ⟨i, rfl, Nat.le_refl _, rfl, Below.refl _ _⟩
        case round =>
          obtain ⟨k, rfl, hki, HP, hb2⟩ := hrel
          have HB2 := Lib.hid hb2
          by_cases hk0 : 0 < k
          · obtain ⟨kp, rfl⟩ : ∃ kp, k = kp + 1 := ⟨k - 1, by omega⟩
            obtain ⟨y, hy⟩ : ∃ y, acc[kp]? = some y := ⟨_, List.getElem?_eq_getElem (by rw [HX.out.1]; omega)⟩
            obtain ⟨ob, oo, rfl, e0, e1, e2⟩ := triple_at (HO1.out.1.below hb2) hy
            obtain ⟨pb, po, hpp, d0, d1, d2⟩ := triple_at (HD.out.below hb2) (k := 0) (x := (x0, x1, x2)) rfl
            simp only [Option.some.injEq, Addr.mk.injEq] at hpp
            obtain ⟨rfl, rfl, _⟩ := hpp
            simp only [Nat.zero_mul, Nat.zero_add] at d0 d1 d2
            have hyD : acc.getD kp default = y := by rw [List.getD_eq_getElem?_getD, hy]; rfl
            have g0 := grown_cells d0
            have g1 := grown_cells d1
            have g2 := grown_cells d2
            have f0 := grown_cells e0
            have f1 := grown_cells e1
            have f2 := grown_cells e2
            have hwp : IntKind.i64.wrap (kp : Int) = (kp : Int) := by have := HN.out; rw [IntKind.wrap_i64]; omega
            have hkz : (0 : Int) < (kp : Int) + 1 := by omega
            have hkz2 : (kp : Int) < (i : Int) := by omega
            have HY := Lib.hid hyD
            clear hb2 hy e0 e1 e2 d0 d1 d2 hyD
            obtain ⟨y0, y1, y2⟩ := y
            simp only at g0 g1 g2 f0 f1 f2
            by_cases hlv : ltD (x0, x1, x2) (y0, y1, y2) = true
            · have hcg := ahead_grown _ _ _ hlv
              simp only at hcg
              have HLV := Lib.hid hlv
              clear hlv
              go_wp2_with fail
              go_quiet_grown (first | (go_at_call 26; refine Calls.grown_of (hcg _)))
              go_wp2
              go_roundw
              case rel =>
                refine ⟨kp, rfl, by omega, ?_, below_grow HB2.out HB2.out.size _ _⟩
                show _ = _
                rw [HP.out, place, HY.out, if_pos HLV.out]
              case measure => simp [intOf]
            · have hlf : ltD (x0, x1, x2) (y0, y1, y2) = false := by simpa using hlv
              have hcg := ahead_grown _ _ _ hlf
              simp only at hcg
              have HLV := Lib.hid hlv
              clear hlv hlf
              go_wp2_with fail
              go_quiet_grown (first | (go_at_call 26; refine Calls.grown_of (hcg _)))
              go_wp2
              go_meet
              refine ⟨kp + 1, rfl, ?_, hki, below_grow HB2.out HB2.out.size _ _⟩
              show _ = _
              rw [HP.out, place, HY.out, if_neg HLV.out]
          · obtain rfl : k = 0 := by omega
            clear hb2
            go_wp2_with fail
            go_big_region_o
            all_goals go_wp2
            all_goals go_meet
            all_goals exact ⟨0, rfl, HP.out.symm, Nat.zero_le _, HB2.out.drew⟩
      case rest => as_aux_lemma =>
        obtain ⟨k, rfl, HP, hki, hbx⟩ := hcut
        obtain ⟨w3, hw3⟩ : ∃ w3, w3 = wc := ⟨_, rfl⟩
        rw [← hw3] at hbx ⊢
        clear hw3
        have HD3 := Lib.hid (HD.out.below hbx)
        have HB3 := Lib.hid (HO1.out.2.trans (hbx.mono HO1.out.2.size))
        have hoA := HO1.out.1.below hbx
        have hl1 : (cellsD (acc.take k)).length = k * 3 := by rw [cellsD_length, List.length_take, HX.out.1]; omega
        have hl3 : (cellsD (acc.drop k)).length = (i - k) * 3 := by rw [cellsD_length, List.length_drop, HX.out.1]
        have ht1 : AtCells w3 oa (cellsD (acc.take k)) := by
          have := hoA.take (k * 3)
          rwa [cellsD_take] at this
        have HM1 := Lib.hid (show 0 + k ≤ maxLen ∧ (0 + k) * 24 ≤ 140737488355328 from by have := HN.out; unfold maxLen; omega)
        have HM2 := Lib.hid (show 0 + k + 1 ≤ maxLen ∧ (0 + k + 1) * 24 ≤ 140737488355328 from by have := HN.out; unfold maxLen; omega)
        have HM := Lib.hid (show ∀ m, m ≤ i - k → 0 + k + 1 + m ≤ maxLen ∧ (0 + k + 1 + m) * 24 ≤ 140737488355328 from fun m hm => by have := HN.out; unfold maxLen; omega)
        have HT1 := Lib.hid (And.intro hl1 ht1)
        have HMD := Lib.hid (show (w3.alloc (.cells #[] 43)).ownsRow w3.heap.size 43 3 (.slice (some ⟨w3.heap.size, 0, none⟩) 0 0) 0 [] from World.ownsRow_made w3 #[] 0 (Nat.le_refl _) (Nat.zero_le _) (by simp))
        have HL3 := Lib.hid hl3
        have HOA := Lib.hid hoA
        have FIN : Hid (∀ (m : Nat) (v3 : Value) (w6 : World), m = i - k → w6.ownsRow w3.heap.size 43 3 v3 (0 + k + 1 + m) ([] ++ cellsD (acc.take k) ++ [.int .i64 x0, .int .i64 x1, .int .i64 x2] ++ cellsD (acc.drop k)) → w6.ownsRow w.heap.size 43 3 v3 (i + 1) (cellsD (putsD (zs.take (i + 1))))) := Lib.hid (fun m v3 w6 hm h => by
          have e1 : 0 + k + 1 + m = i + 1 := by omega
          have e2 : [] ++ cellsD (acc.take k) ++ [.int .i64 x0, .int .i64 x1, .int .i64 x2] ++ cellsD (acc.drop k) = cellsD (putsD (zs.take (i + 1))) := by
            rw [HX.out.2, putD, HX.out.1, ← HP.out, cellsD_append, List.nil_append, List.append_assoc]
            rfl
          rw [e1, e2] at h
          exact owns_base h HB3.out.size)
        clear hbx hoA hl1 hl3 ht1
        have hwi : IntKind.i64.wrap ((i : Int) + 1) = (i : Int) + 1 := by have := HN.out; rw [IntKind.wrap_i64]; omega
        rcases HO.out.1.2 with ⟨hv, hi0⟩ | ⟨g, oc', cur, hv, hbase, hb, h1, h2, h3, h4⟩
        · simp only [Value.slice.injEq] at hv
          obtain ⟨rfl, _, rfl⟩ := hv
          subst hi0
          obtain rfl : k = 0 := by omega
          have HNIL := Lib.hid (show ∀ (a b c : Nat), ((none : Option Addr) = none → 0 = 0 ∧ 0 = 0) from fun _ _ _ _ => ⟨rfl, rfl⟩)
          have hd0 : acc.drop 0 = [] := List.eq_nil_of_length_eq_zero (by rw [List.drop_zero]; exact HX.out.1)
          have HT3 := Lib.hid (show ∀ W, Below w3.heap.size w3 W → (cellsD (acc.drop 0)).length = 0 * 3 ∧ AtCells W none (cellsD (acc.drop 0)) from fun W hW => ⟨by rw [hd0]; rfl, by
              rw [hd0]; exact AtCells.nil _ _⟩)
          clear hd0
          go_wp2_with (first
            | (at_builtin; refine wpList_append_at rfl _ _ 40 rfl w3.heap.size 43 i0 _ 3 24 Try.underlying40 HI.out.1 HI.out.2.1 HI.out.2.2.1 HI.out.2.2.2 rfl (by decide) _ _ _ rfl hown2 _ _ _ (cellsD (acc.drop 0)) rfl (HNIL.out 0 0 0) (HT3.out _ hb5).1 (HT3.out _ hb5).2 (cellsD_one _) (HM.out _ (by omega)).1 (HM.out _ (by omega)).2 hb5.size ?_; intro v3 w6 hown3 hg3; have hb6 := hb5.grown hg3 hb5.size (fun q hq => (hown2.lt q hq).1); clear hown2 hg3 hb5)
            | (at_builtin; refine wpList_append_at rfl _ _ 40 rfl w3.heap.size 43 i0 _ 3 24 Try.underlying40 HI.out.1 HI.out.2.1 HI.out.2.2.1 HI.out.2.2.2 rfl (by decide) _ _ _ rfl ((owns_below hown1 (bl1 _ _))) _ _ _ [.int .i64 x0, .int .i64 x1, .int .i64 x2] rfl (fun h => by cases h) rfl (at_box _ _ _) (encD_one (x0, x1, x2)) HM2.out.1 HM2.out.2 (Nat.le_trans hb4.size (by simp)) ?_; intro v2 w5 hown2 hg2; have hb5 := below_grown_alloc hb4 hb4.size hg2 (fun q hq => (hown1.lt q hq).1); clear hown1 hg2 hb4 d0 d1 d2)
            | (at_builtin; refine wpList_append_at rfl _ _ 40 rfl w3.heap.size 43 i0 _ 3 24 Try.underlying40 HI.out.1 HI.out.2.1 HI.out.2.2.1 HI.out.2.2.2 rfl (by decide) _ _ _ rfl HMD.out _ _ _ (cellsD (acc.take 0)) rfl (HNIL.out 0 0 0) HT1.out.1 (HT1.out.2.alloc _) (cellsD_one _) HM1.out.1 HM1.out.2 (by simp) ?_; intro v1 w4 hown1 hg1; have hb4 := below_grown_alloc (Below.refl w3.heap.size w3) (Nat.le_refl _) hg1 (fun q hq => (HMD.out.lt q hq).1); obtain ⟨pb, po, hpp, d0, d1, d2⟩ := triple_at (HD3.out.below hb4) (k := 0) (x := (x0, x1, x2)) rfl; simp only [Option.some.injEq, Addr.mk.injEq] at hpp; obtain ⟨rfl, rfl, _⟩ := hpp; simp only [Nat.zero_mul, Nat.zero_add] at d0 d1 d2; clear hg1))
          go_roundw
          case rel => exact ⟨0 + 1, by go_num, by omega, FIN.out _ _ _ (by omega) hown3, HB3.out.trans (hb6.mono HB3.out.size)⟩
          case measure => simp [intOf]; omega
        · simp only [Value.slice.injEq] at hv
          obtain ⟨rfl, _, rfl⟩ := hv
          clear hbase hb h1 h2 h3 h4
          have HNIL := Lib.hid (show ∀ (ad : Addr) (m c : Nat), (some ad = none → m = 0 ∧ c = 0) from fun _ _ _ h => by cases h)
          by_cases hkc : k = oc
          · subst hkc
            obtain rfl : k = i := by omega
            have hd0 : acc.drop k = [] := List.drop_eq_nil_of_le (by rw [HX.out.1]; exact Nat.le_refl _)
            have HT3 := Lib.hid (show ∀ W, Below w3.heap.size w3 W → (cellsD (acc.drop k)).length = 0 * 3 ∧ AtCells W (some ⟨g, 0, none⟩) (cellsD (acc.drop k)) from fun W hW => ⟨by rw [hd0]; rfl, by
              rw [hd0]; exact AtCells.nil _ _⟩)
            clear hd0
            go_wp2_with (first
              | (at_builtin; refine wpList_append_at rfl _ _ 40 rfl w3.heap.size 43 i0 _ 3 24 Try.underlying40 HI.out.1 HI.out.2.1 HI.out.2.2.1 HI.out.2.2.2 rfl (by decide) _ _ _ rfl hown2 _ _ _ (cellsD (acc.drop k)) rfl (HNIL.out _ _ _) (HT3.out _ hb5).1 (HT3.out _ hb5).2 (cellsD_one _) (HM.out _ (by omega)).1 (HM.out _ (by omega)).2 hb5.size ?_; intro v3 w6 hown3 hg3; have hb6 := hb5.grown hg3 hb5.size (fun q hq => (hown2.lt q hq).1); clear hown2 hg3 hb5)
              | (at_builtin; refine wpList_append_at rfl _ _ 40 rfl w3.heap.size 43 i0 _ 3 24 Try.underlying40 HI.out.1 HI.out.2.1 HI.out.2.2.1 HI.out.2.2.2 rfl (by decide) _ _ _ rfl ((owns_below hown1 (bl1 _ _))) _ _ _ [.int .i64 x0, .int .i64 x1, .int .i64 x2] rfl (fun h => by cases h) rfl (at_box _ _ _) (encD_one (x0, x1, x2)) HM2.out.1 HM2.out.2 (Nat.le_trans hb4.size (by simp)) ?_; intro v2 w5 hown2 hg2; have hb5 := below_grown_alloc hb4 hb4.size hg2 (fun q hq => (hown1.lt q hq).1); clear hown1 hg2 hb4 d0 d1 d2)
              | (at_builtin; refine wpList_append_at rfl _ _ 40 rfl w3.heap.size 43 i0 _ 3 24 Try.underlying40 HI.out.1 HI.out.2.1 HI.out.2.2.1 HI.out.2.2.2 rfl (by decide) _ _ _ rfl HMD.out _ _ _ (cellsD (acc.take k)) rfl (HNIL.out _ _ _) HT1.out.1 (HT1.out.2.alloc _) (cellsD_one _) HM1.out.1 HM1.out.2 (by simp) ?_; intro v1 w4 hown1 hg1; have hb4 := below_grown_alloc (Below.refl w3.heap.size w3) (Nat.le_refl _) hg1 (fun q hq => (HMD.out.lt q hq).1); obtain ⟨pb, po, hpp, d0, d1, d2⟩ := triple_at (HD3.out.below hb4) (k := 0) (x := (x0, x1, x2)) rfl; simp only [Option.some.injEq, Addr.mk.injEq] at hpp; obtain ⟨rfl, rfl, _⟩ := hpp; simp only [Nat.zero_mul, Nat.zero_add] at d0 d1 d2; clear hg1))
            go_roundw
            case rel => exact ⟨k + 1, by go_num, by omega, FIN.out _ _ _ (by omega) hown3, HB3.out.trans (hb6.mono HB3.out.size)⟩
            case measure => simp [intOf]; omega
          · have HT3 := Lib.hid (show ∀ W, Below w3.heap.size w3 W → (cellsD (acc.drop k)).length = (i - k) * 3 ∧ AtCells W (some ⟨g, k * 3, none⟩) (cellsD (acc.drop k)) from fun W hW => ⟨HL3.out, by
              have := (HOA.out.below hW).drop (k * 3)
              rwa [cellsD_drop, Nat.zero_add] at this⟩)
            have hkz : (k : Int) < (oc : Int) := by omega
            have hkz2 : (k : Int) ≤ (i : Int) := by omega
            have hkz3 : (i : Int) ≤ (oc : Int) := by omega
            have hkn : k < oc := by omega
            have hkn1 : k ≤ oc := by omega
            clear hkc
            go_wp2_with (first
              | (at_builtin; refine wpList_append_at rfl _ _ 40 rfl w3.heap.size 43 i0 _ 3 24 Try.underlying40 HI.out.1 HI.out.2.1 HI.out.2.2.1 HI.out.2.2.2 rfl (by decide) _ _ _ rfl hown2 _ _ _ (cellsD (acc.drop k)) rfl (HNIL.out _ _ _) (HT3.out _ hb5).1 (HT3.out _ hb5).2 (cellsD_one _) (HM.out _ (by omega)).1 (HM.out _ (by omega)).2 hb5.size ?_; intro v3 w6 hown3 hg3; have hb6 := hb5.grown hg3 hb5.size (fun q hq => (hown2.lt q hq).1); clear hown2 hg3 hb5)
              | (at_builtin; refine wpList_append_at rfl _ _ 40 rfl w3.heap.size 43 i0 _ 3 24 Try.underlying40 HI.out.1 HI.out.2.1 HI.out.2.2.1 HI.out.2.2.2 rfl (by decide) _ _ _ rfl ((owns_below hown1 (bl1 _ _))) _ _ _ [.int .i64 x0, .int .i64 x1, .int .i64 x2] rfl (fun h => by cases h) rfl (at_box _ _ _) (encD_one (x0, x1, x2)) HM2.out.1 HM2.out.2 (Nat.le_trans hb4.size (by simp)) ?_; intro v2 w5 hown2 hg2; have hb5 := below_grown_alloc hb4 hb4.size hg2 (fun q hq => (hown1.lt q hq).1); clear hown1 hg2 hb4 d0 d1 d2)
              | (at_builtin; refine wpList_append_at rfl _ _ 40 rfl w3.heap.size 43 i0 _ 3 24 Try.underlying40 HI.out.1 HI.out.2.1 HI.out.2.2.1 HI.out.2.2.2 rfl (by decide) _ _ _ rfl HMD.out _ _ _ (cellsD (acc.take k)) rfl (HNIL.out _ _ _) HT1.out.1 (HT1.out.2.alloc _) (cellsD_one _) HM1.out.1 HM1.out.2 (by simp) ?_; intro v1 w4 hown1 hg1; have hb4 := below_grown_alloc (Below.refl w3.heap.size w3) (Nat.le_refl _) hg1 (fun q hq => (HMD.out.lt q hq).1); obtain ⟨pb, po, hpp, d0, d1, d2⟩ := triple_at (HD3.out.below hb4) (k := 0) (x := (x0, x1, x2)) rfl; simp only [Option.some.injEq, Addr.mk.injEq] at hpp; obtain ⟨rfl, rfl, _⟩ := hpp; simp only [Nat.zero_mul, Nat.zero_add] at d0 d1 d2; clear hg1))
            go_roundw
            case rel => exact ⟨i + 1, by go_num, by omega, FIN.out _ _ _ (by omega) hown3, HB3.out.trans (hb6.mono HB3.out.size)⟩
            case measure => simp [intOf]; omega
    · have hltz : ¬ (i : Int) < (n : Int) := by omega
      obtain rfl : i = n := by omega
      have HO := Lib.hid (And.intro hown hbl)
      clear hown hbl
      go_wp2
      go_ret
      have h := HO.out.1
      rw [List.take_of_length_le (by rw [HAT.out.2]; exact Nat.le_refl _), putsD_srt] at h
      exact ⟨_, rfl, h, HO.out.2⟩
end Go.Proofs.Ytlkcnfkfccfhmaa
