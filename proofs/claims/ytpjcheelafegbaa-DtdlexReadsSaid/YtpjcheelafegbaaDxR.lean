/-
  Contract of layer 9: doctype.
-/
import Derived.Test.YtpjcheelafegbaaDxQ
namespace Go.Proofs.Ytpjcheelafegbaa
open Go.RowKit
set_option linter.unusedVariables false

/-- Parts that were laid so far. -/
structure Laid (w wr : World) (v : Value) (acc : List PartA) : Prop where
  own : wr.ownsRow w.heap.size 32 3 v acc.length (parsCells acc)
  below : Below w.heap.size w wr
theorem Laid.next {w wr w' : World} {v : Value} {acc : List PartA} (h : Laid w wr v acc) (hb : Below wr.heap.size wr w') : Laid w w' v acc := ⟨owns_below h.own hb, Below.more h.below hb⟩
theorem last_cell {w wr : World} {ta : Option Addr} {tc m : Nat} {acc : List PartA} {x : PartA} (h : wr.ownsRow w.heap.size 32 3 (.slice ta m tc) m (parsCells acc)) (hm : acc.length = m) {i : Nat} (hx : acc[i]? = some x) : ∃ g, ta = some ⟨g, 0, none⟩ ∧ wr.cell? ⟨g, i * 3 + 2, none⟩ = some (.int .i64 (x.2.2 : Nat)) := by
  have hi := (List.getElem?_eq_some_iff.1 hx).1
  obtain ⟨g, rfl⟩ := owns_addr h (by omega)
  exact ⟨g, rfl, by rw [h.cellAt _ (by omega), parsCells_at _ i _ 2 hx (by omega)]; rfl⟩

theorem news_of {w : World} {B bg bc m : Nat} {P : List PartA} {e : TypeId} (h : w.ownsRow B e 3 (.slice (some ⟨bg, 0, none⟩) m bc) m (parsCells P)) (hm : P.length = m) : ∀ j u, (parsCells P)[j]? = some u → w.cell? ((⟨bg, 0, none⟩ : Addr).add j) = some u := fun j u hj => by
  have hlt : j < m * 3 := by
    have := (List.getElem?_eq_some_iff.1 hj).1
    rw [parsCells_length, hm] at this
    exact this
  rw [addr_add, Nat.zero_add, h.cellAt j hlt]
  exact hj
theorem parsCells_one (P : List PartA) : ∀ u ∈ parsCells P, u.oneCell' = true := fun u hu => by
  obtain ⟨x, _, hx⟩ := List.mem_flatMap.1 hu
  exact parCells_one x u hx

set_option maxRecDepth 20000 in
set_option maxHeartbeats 8000000 in
theorem doctype_yes {b off n cap : Nat} {l : List Int} {w : World} (R : RRow w b off n cap l) (hn : n ≤ 900) (hT : sw sTo l = true) :
    Calls Try.prog 35 #[.slice (some ⟨b, off, none⟩) n cap] w (OwnD w (dtP l)) := by
  obtain ⟨i0, hi, hz0, hz1, hz2⟩ := info_parts Try.infoDPar
  have HI := Lib.hid (And.intro hi (And.intro hz0 (And.intro hz1 hz2)))
  have hm := R.max
  have hc := R.le
  have hlen := R.len
  unfold maxLen at hm
  have h9 : 9 ≤ n := by have := sw_length hT; rw [hlen] at this; simp [sTo] at this; omega
  have HST := Lib.hid (startsB R sToS 0 (by omega) (v := true) (by rw [List.drop_zero]; exact hT) w (Below.refl _ _))
  simp only [Int.cast_ofNat_Int] at HST
  have HR := Lib.hid R
  have HTL := Lib.hid hlen
  obtain ⟨res, hres⟩ : ∃ res, res = dtP l := ⟨_, rfl⟩
  have HALL := Lib.hid (show [(1, 0, 9)] ++ dtF n false 9 (l.drop 9) = res by rw [hres]; unfold dtP; rw [if_pos hT, hlen]; rfl)
  rw [← hres]
  clear R hT hres hi hz0 hz1 hz2 hlen
  go_enter Try.func35, Try.ntmps35
  go_wp2_with (go_at_call 59; (with_reducible refine HST.out.mono ?_); rintro e w1 ⟨rfl, hb1⟩)
  have hz := hb1.size
  have HL0 := Lib.hid (show Laid w (w1.alloc (.cells #[.int .i64 1, .int .i64 0, .int .i64 9] 32)) (.slice (some ⟨w1.heap.size, 0, none⟩) 1 1) [(1, 0, 9)] from ⟨br_one 1 0 9 w1 w.heap.size hz, hb1.alloc hz _⟩)
  go_loopw [3, 4, 5, 6] (fun pv ov av _r wr => ∃ (j fu : Nat) (op : Bool) (acc : List PartA) (v0 : Value), av = .int .i64 (j : Nat) ∧ ov = .bool op ∧ v0 = pv ∧ j ≤ n ∧ n - j ≤ fu ∧ acc.length ≤ j ∧ Hid (Laid w wr v0 acc) ∧ Hid (acc ++ dtF fu op j (l.drop j) = res)) (fun _ _ av _ _ => n - (intOf av).toNat)
  case atStart => exact ⟨9, n, false, [(1, 0, 9)], _, rfl, rfl, rfl, h9, by omega, by simp, HL0, HALL⟩
  case round =>
    clear HALL HL0
    obtain ⟨j, fu, op, acc, v0, rfl, rfl, rfl, hj, hfu, hal, HL, HA⟩ := hrel
    by_cases hlt : j < n
    · obtain ⟨fu, rfl⟩ : ∃ f', fu = f' + 1 := ⟨fu - 1, by omega⟩
      have RR := HR.out.below HL.out.below
      obtain ⟨b', off', hy, hcl⟩ := RR.cells.int (k := j) (by rw [RR.len]; exact hlt)
      simp only [Option.some.injEq, Addr.mk.injEq] at hy
      obtain ⟨rfl, rfl, _⟩ := hy
      obtain ⟨z, hz'⟩ : ∃ z, l.getD j 0 = z := ⟨_, rfl⟩
      rw [hz'] at hcl
      have HD := Lib.hid (show l.drop j = z :: l.drop (j + 1) by rw [drop_cons (by rw [HTL.out]; exact hlt), hz'])
      have i1 : (j : Int) < (n : Int) := by omega
      obtain ⟨ta, tc, rfl, htc⟩ := owns_slice HL.out.own
      have hsz := HL.out.below.size
      have HM := Lib.hid (show acc.length ≤ 1000 by omega)
      clear hz'
      by_cases hA : z = 91 ∧ op = false
      · obtain ⟨rfl, rfl⟩ := hA
        have hbr := brL_ok (l.drop j) (by rw [dropl, HTL.out]; omega)
        rw [dropl, HTL.out] at hbr
        obtain ⟨L, hL⟩ : ∃ L, brL (l.drop j) = L := ⟨_, rfl⟩
        obtain ⟨bp, hbp⟩ : ∃ bp, brP j (l.drop j) = bp := ⟨_, rfl⟩
        obtain ⟨b1, b2⟩ := brP_len j (l.drop j)
        obtain ⟨lx, b3, b4⟩ := brP_last j (l.drop j)
        rw [hL] at hbr b2 b4
        rw [hbp] at b1 b2 b3
        have HBR := Lib.hid (brackets_any (cap := cap) (l := l) ⟨HR.out.len, HR.out.le, HR.out.max, RR.cells⟩ (by omega) j hlt)
        rw [hbp] at HBR
        have HNX := Lib.hid (show (acc ++ bp) ++ dtF fu true (j + L) (l.drop (j + L)) = res by
          have := HA.out
          rw [HD.out, dtF, if_pos ⟨rfl, rfl⟩, ← HD.out, hL, hbp] at this
          simp only [dd] at this
          rw [List.append_assoc]
          exact this)
        obtain ⟨mm, hmm⟩ : ∃ mm, bp.length = mm + 1 := ⟨bp.length - 1, by omega⟩
        have HB3 := Lib.hid (show bp[mm]? = some lx by rw [← b3, hmm]; rfl)
        have HB4 := Lib.hid b4
        have HMM := Lib.hid hmm
        rw [hmm] at b2
        clear b1 b3 b4 hL hbp hmm RR
        go_wp2_with (first
          | (go_at_call 60; (with_reducible refine HBR.out.mono ?_); rintro e w3 ⟨bv, rfl, hob, hb3⟩; obtain ⟨ba, bc, rfl, _⟩ := owns_slice hob; obtain ⟨bg, rfl⟩ := owns_addr hob (by rw [HMM.out]; omega); have HL3 := Lib.hid (HL.out.next hb3); have hz3 := HL3.out.below.size; have HOB := Lib.hid hob; clear hob hb3; rw [HMM.out])
          | (at_builtin; refine wpList_append_own _ rfl _ _ 25 rfl w.heap.size 32 i0 _ 3 24 Try.underlying25 HI.out.1 HI.out.2.1 HI.out.2.2.1 HI.out.2.2.2 rfl (by decide) _ _ _ rfl HL3.out.own _ _ _ (parsCells bp) rfl (by rw [parsCells_length, HMM.out]) (news_of (by rw [HMM.out] at HOB; exact HOB.out) HMM.out) (parsCells_one _) (by have := HM.out; unfold maxLen; omega) (by have := HM.out; omega) (by omega) ?_; intro v' w4 hown' hg' _; obtain ⟨ta', tc', rfl, _⟩ := owns_slice hown'; have hown2 : w4.ownsRow w.heap.size 32 3 (.slice ta' (acc.length + (mm + 1)) tc') (acc.length + (mm + 1)) (parsCells (acc ++ bp)) := (by rw [parsCells_append]; exact hown'); obtain ⟨g, rfl, y2⟩ := last_cell (i := acc.length + mm) (x := lx) hown2 (by rw [List.length_append, HMM.out]) (by rw [List.getElem?_append_right (by omega), Nat.add_sub_cancel_left]; exact HB3.out); have y3 : w4.cell? ⟨g, (acc.length + mm) * 3 + 2, none⟩ = some (.int .i64 ((j : Int) + L)) := (by rw [y2, HB4.out]; rfl); have HL4 := Lib.hid (show Laid w w4 (.slice (some ⟨g, 0, none⟩) (acc.length + (mm + 1)) tc') (acc ++ bp) from ⟨by rw [List.length_append, HMM.out]; exact hown2, HL3.out.below.grown hg' hz3 (fun y hy => (HL3.out.own.lt y hy).1)⟩); have t1 : ((acc.length : Int) + ((mm : Int) + 1) - 1).toNat = acc.length + mm := (by omega); clear hown' hown2 hg' y2))
        go_roundw
        case rel => exact ⟨j + L, fu, true, acc ++ bp, _, by go_num, rfl, rfl, by omega, by omega, by rw [List.length_append, HMM.out]; omega, HL4, HNX⟩
        case measure => simp [intOf]; omega
      by_cases hB : z = 62 ∧ j + 1 = n
      · obtain ⟨rfl, hjn⟩ := hB
        have hjn' : (j : Int) + 1 = n := by omega
        have hjl : j + 1 ≤ n := by omega
        have HNX := Lib.hid (show (acc ++ [(7, j, n)]) ++ dtF fu op n (l.drop n) = res by
          have := HA.out
          have hnil : l.drop (j + 1) = [] := List.drop_eq_nil_of_le (by rw [HTL.out]; omega)
          rw [HD.out, dtF, if_neg (by simp), if_pos ⟨rfl, hnil⟩] at this
          rw [← hjn, hnil, dtF_nil, List.append_nil]
          exact this)
        clear hA RR
        go_wp2_with (at_builtin; refine wpList_append_own _ rfl _ _ 25 rfl w.heap.size 32 i0 _ 3 24 Try.underlying25 HI.out.1 HI.out.2.1 HI.out.2.2.1 HI.out.2.2.2 rfl (by decide) _ _ _ rfl (HL.out.own.alloc _) _ _ _ [.int .i64 7, .int .i64 j, .int .i64 (n : Int)] rfl rfl (new_cells_at _ [.int .i64 7, .int .i64 j, .int .i64 (n : Int)] _ _ (by simp)) (one_par _ _ _) (by have := HM.out; unfold maxLen; omega) (by have := HM.out; omega) (by simp; omega) ?_; intro v' w4 hown' hg' _; obtain ⟨ta', tc', rfl, _⟩ := owns_slice hown'; have hown2 : w4.ownsRow w.heap.size 32 3 (.slice ta' (acc.length + 1) tc') (acc.length + 1) (parsCells (acc ++ [(7, j, n)])) := (by rw [parsCells_snoc]; exact hown'); obtain ⟨g, rfl, y2⟩ := last_cell (i := acc.length) (x := (7, j, n)) hown2 (by simp) (by simp); have y3 : w4.cell? ⟨g, acc.length * 3 + 2, none⟩ = some (.int .i64 (n : Int)) := y2; have HL4 := Lib.hid (show Laid w w4 (.slice (some ⟨g, 0, none⟩) (acc.length + 1) tc') (acc ++ [(7, j, n)]) from ⟨by rw [List.length_append]; exact hown2, below_grown_alloc HL.out.below hsz hg' (fun y hy => (HL.out.own.lt y hy).1)⟩); clear hown' hown2 hg' y2)
        go_roundw
        case rel => exact ⟨n, fu, op, acc ++ [(7, j, n)], _, by go_num, rfl, rfl, by omega, by omega, by rw [List.length_append, List.length_singleton]; omega, HL4, HNX⟩
        case measure => simp [intOf]; omega
      · have hwo := wdP_ok (l.drop j) (by rw [dropl, HTL.out]; omega)
        rw [dropl, HTL.out] at hwo
        obtain ⟨⟨wk, wn⟩, hw⟩ : ∃ t, wdP (l.drop j) = t := ⟨_, rfl⟩
        rw [hw] at hwo
        have HW := Lib.hid (word_any RR j hlt hw)
        have HNX := Lib.hid (show (acc ++ [(wk, j, j + wn)]) ++ dtF fu op (j + wn) (l.drop (j + wn)) = res by
          have := HA.out
          rw [HD.out, dtF, if_neg hA, if_neg (fun h => hB ⟨h.1, by have e := congrArg List.length h.2; rw [dropl, HTL.out] at e; simp at e; omega⟩), ← HD.out, hw] at this
          simp only [dd] at this
          rw [List.append_assoc]
          exact this)
        simp only at hwo HW
        clear hw RR
        have hcs : (z = 91 ∧ op = true) ∨ (¬ z = 91 ∧ ¬ z = 62) ∨ (z = 62 ∧ ¬ (j : Int) + 1 = n) := by
          by_cases h1 : z = 91
          · exact .inl ⟨h1, by cases op with | true => rfl | false => exact absurd ⟨h1, rfl⟩ hA⟩
          · by_cases h2 : z = 62
            · exact .inr (.inr ⟨h2, fun h => hB ⟨h2, by omega⟩⟩)
            · exact .inr (.inl ⟨h1, h2⟩)
        clear hA hB
        have hwo2 := hwo.2.1
        have hwo1 := hwo.1
        clear hwo
        rcases hcs with ⟨rfl, rfl⟩ | ⟨h1, h2⟩ | ⟨rfl, h2⟩
        all_goals
          (try have q1 : (z == 91) = false := by simpa using h1)
          (try have q2 : (z == 62) = false := by simpa using h2)
          go_wp2_with (first
            | (go_at_call 61; (with_reducible refine HW.out.mono ?_); rintro e w3 ⟨rfl, hb3⟩; have HL3 := Lib.hid (HL.out.next hb3); have hz3 := HL3.out.below.size)
            | (at_builtin; refine wpList_append_own _ rfl _ _ 25 rfl w.heap.size 32 i0 _ 3 24 Try.underlying25 HI.out.1 HI.out.2.1 HI.out.2.2.1 HI.out.2.2.2 rfl (by decide) _ _ _ rfl (HL3.out.own.alloc _) _ _ _ [.int .i64 wk, .int .i64 j, .int .i64 ((j : Int) + wn)] rfl rfl (new_cells_at _ [.int .i64 wk, .int .i64 j, .int .i64 ((j : Int) + wn)] _ _ (by simp)) (one_par _ _ _) (by have := HM.out; unfold maxLen; omega) (by have := HM.out; omega) (by simp; omega) ?_; intro v' w4 hown' hg' _; obtain ⟨ta', tc', rfl, _⟩ := owns_slice hown'; have hown2 : w4.ownsRow w.heap.size 32 3 (.slice ta' (acc.length + 1) tc') (acc.length + 1) (parsCells (acc ++ [(wk, j, j + wn)])) := (by rw [parsCells_snoc]; exact hown'); obtain ⟨g, rfl, y2⟩ := last_cell (i := acc.length) (x := (wk, j, j + wn)) hown2 (by simp) (by simp); have y3 : w4.cell? ⟨g, acc.length * 3 + 2, none⟩ = some (.int .i64 ((j : Int) + wn)) := y2; have HL4 := Lib.hid (show Laid w w4 (.slice (some ⟨g, 0, none⟩) (acc.length + 1) tc') (acc ++ [(wk, j, j + wn)]) from ⟨by rw [List.length_append]; exact hown2, below_grown_alloc HL3.out.below hz3 hg' (fun y hy => (HL3.out.own.lt y hy).1)⟩); clear hown' hown2 hg' y2))
          go_roundw
          case rel => exact ⟨j + wn, fu, _, acc ++ [(wk, j, j + wn)], _, by go_num, rfl, rfl, by omega, by omega, by rw [List.length_append, List.length_singleton]; omega, HL4, HNX⟩
          case measure => simp [intOf]; omega
    · obtain rfl : j = n := by omega
      have hall := HA.out
      rw [List.drop_eq_nil_of_le (by rw [HTL.out]; exact Nat.le_refl _), dtF_nil, List.append_nil] at hall
      clear hlt HA
      go_wp2
      go_ret
      rw [← hall]
      exact ⟨_, rfl, HL.out.own, HL.out.below⟩

set_option maxHeartbeats 400000 in
theorem startsN (cap : Nat) (s : ByteArray) (hs : 0 < s.size) (hs2 : s.size ≤ 20) (a : Option Addr) (w : World) (hm : cap ≤ maxLen) :
    Calls Try.prog 59 #[.slice a 0 cap, .int .i64 0, .string s] w fun e w' => e = .returned (.bool false) ∧ Below w.heap.size w w' := by
  have h1 : ¬ s.size ≤ 0 := by omega
  unfold maxLen at hm
  go_enter Try.func59, Try.ntmps59
  go_wp2
  go_ret
  exact ⟨rfl, Below.refl _ _⟩

set_option maxHeartbeats 1000000 in
theorem doctype_no {a : Option Addr} {n cap : Nat} {l : List Int} {w : World} (R : NRow w a n cap l) (hn : n ≤ 900) (hT : sw sTo l = false) :
    Calls Try.prog 35 #[.slice a n cap] w (OwnD w (dtP l)) := by
  have HW := Lib.hid (fun (w' : World) (hb : Below w.heap.size w w') => words_any (R.below hb) (by omega))
  have HD := Lib.hid (show dtP l = rowP wdP 0 l by unfold dtP; rw [if_neg (by rw [hT]; decide)])
  have HST : Hid (Calls Try.prog 59 #[.slice a n cap, .int .i64 0, .string ⟨#[60, 33, 68, 79, 67, 84, 89, 80, 69]⟩] w fun e w' => e = .returned (.bool false) ∧ Below w.heap.size w w') := by
    refine Lib.hid ?_
    by_cases h0 : 0 < n
    · obtain ⟨b, off, rfl, RR⟩ := R.some h0
      have := startsB RR sToS 0 (by omega) (v := false) (by rw [List.drop_zero]; exact hT) w (Below.refl _ _)
      simpa only [Int.cast_ofNat_Int] using this
    · obtain rfl : n = 0 := by omega
      exact startsN cap _ (by decide) (by decide) a w R.max
  clear R hT
  go_enter Try.func35, Try.ntmps35
  go_wp2_with (first
    | (go_at_call 59; (with_reducible refine HST.out.mono ?_); rintro e w1 ⟨rfl, hb1⟩)
    | (go_at_call 43; (with_reducible refine (HW.out _ hb1).mono ?_); rintro e w2 ⟨v, rfl, hown, hb2⟩))
  go_ret
  rw [HD.out]
  exact ⟨_, rfl, owns_lower hown hb1.size, Below.more hb1 hb2⟩

theorem doctype_any {a : Option Addr} {n cap : Nat} {l : List Int} {w : World} (R : NRow w a n cap l) (hn : n ≤ 900) :
    Calls Try.prog 35 #[.slice a n cap] w (OwnD w (dtP l)) := by
  cases hT : sw sTo l with
  | false => exact doctype_no R hn hT
  | true =>
    have h9 : 0 < n := by have := sw_length hT; rw [R.len] at this; simp [sTo] at this; omega
    obtain ⟨b, off, rfl, RR⟩ := R.some h9
    exact doctype_yes RR hn hT

theorem dtP_facts (l : List Int) : (dtP l).length ≤ l.length + 5 ∧ ∀ x ∈ dtP l, x.2.1 ≤ l.length ∧ x.2.2 ≤ l.length := by
  obtain ⟨h1, h2⟩ := chainD_len (dtP_chain l)
  exact ⟨by omega, h2⟩

set_option maxHeartbeats 400000 in
theorem PartsD_any {a : Option Addr} {n cap : Nat} {l : List Int} {w : World} (R : NRow w a n cap l) (hn : n ≤ 900) (f t : Int) :
    Calls Try.prog 13 #[.slice a n cap, .int .i64 f, .int .i64 t] w (OwnD w (inP dtP l f t)) := by
  have HW := Lib.hid (within_doctype R hn f t dtP (fun a' n' cap' l' w' R' hn' => doctype_any R' hn') dtP_facts)
  clear R
  go_enter Try.func13, Try.ntmps13
  go_wp2_with (go_at_call 34; (with_reducible refine HW.out.mono ?_); rintro e w1 ⟨v, rfl, hown, hb1⟩)
  go_ret
  exact ⟨_, rfl, hown, hb1⟩

end Go.Proofs.Ytpjcheelafegbaa
