/-
  Contract: the reference's runes of a text.
-/
import Derived.Test.YtlkcnfkfccfhmaaDoorNmA
import Derived.Test.YtlkcnfkfccfhmaaDoorNmB
namespace Go.Proofs.YtlkcnfkfccfhmaaDoor
open Go.RowKit
set_option linter.unusedVariables false

theorem Tryd.infoR : (Tryd.prog.info? 21).map (fun i => (i.zero, i.size, i.bytes)) = some (some (.int .i32 0), 1, 4) := by kernel_rfl

/-- What a call answers that answers runes that are its own. -/
def OwnRunes (w : World) (l : List Int) (e : Ending) (w' : World) : Prop :=
  ∃ v, e = .returned v ∧ w'.ownsRow w.heap.size 21 1 v l.length (l.map (Value.int .i32)) ∧ Below w.heap.size w w'

theorem items_get (s : ByteArray) (k : Nat) (h : k < (itemsOf s).length) : ∃ x, (itemsOf s)[k]? = some x ∧ (runesS s).getD k 0 = x.1 := by
  refine ⟨(itemsOf s)[k], List.getElem?_eq_getElem h, ?_⟩
  unfold runesS
  rw [List.getD_eq_getElem?_getD, List.getElem?_map, List.getElem?_eq_getElem h]
  rfl

theorem runes_take (s : ByteArray) (k : Nat) (h : k < (runesS s).length) : (runesS s).take (k + 1) = (runesS s).take k ++ [(runesS s).getD k 0] := by
  rw [List.take_succ_eq_append_getElem h, List.getD_eq_getElem?_getD, List.getElem?_eq_getElem h]; rfl

set_option maxHeartbeats 1000000 in
theorem refRunes_any (s : ByteArray) (w : World) (hs : s.size ≤ 200) :
    Calls Tryd.prog 25 #[.string s] w (OwnRunes w (runesS s)) := by
  have hcv := Lib.run_convert_string_bytes (P := Tryd.prog) w 9 42 5 s Tryd.underlying9 Tryd.underlying42 Tryd.underlying5
  have hb := bel_bytesWorld w 5 s
  obtain ⟨W, hW⟩ : ∃ W, W = Lib.bytesWorld w 5 s := ⟨_, rfl⟩
  have hat := bytes_at w 5 s
  rw [← hW] at hcv hb hat
  have hc1 := grownCap_ge w s.size 0 5
  have hc2 := grownCap_le_maxLen w s.size 0 5 (by unfold maxLen; omega)
  obtain ⟨cp, hcp⟩ : ∃ cp, cp = grownCap w s.size 0 5 := ⟨_, rfl⟩
  rw [← hcp] at hcv hc1 hc2
  have HV := Lib.hid (refItems_any (some ⟨w.heap.size, 0, none⟩) s.size cp (numsOf s) W (numsOf_length s) hc1 hc2 (by omega) (numsOf_bys s) hat)
  rw [numsOf_str] at HV
  have HB := Lib.hid hb
  obtain ⟨i0, hi, hz0, hz1, hz2⟩ := info_parts Tryd.infoR
  have HI := Lib.hid (And.intro hi (And.intro hz0 (And.intro hz1 hz2)))
  have hq := itemsOf_length s
  have hql : (runesS s).length = (itemsOf s).length := by rw [runesS, List.length_map]
  obtain ⟨q, hqq⟩ : ∃ q, q = (itemsOf s).length := ⟨_, rfl⟩
  have HG := Lib.hid (items_get s)
  have HTK := Lib.hid (runes_take s)
  have HQ := Lib.hid hqq
  rw [← hqq] at hq hql
  have HQL := Lib.hid hql
  clear hcp hat hW hb hi hz0 hz1 hz2 hql hqq
  go_enter Tryd.func25, Tryd.ntmps25
  go_wp2_with (go_at_call 38; (with_reducible refine HV.out.mono ?_); rintro e w1 ⟨v, rfl, hown, hb1⟩; obtain ⟨va, vc, rfl, hvc⟩ := owns_slice hown; rw [← HQ.out])
  have HIT := Lib.hid (AtCells.of_owns hown)
  have HB1 := Lib.hid (HB.out.trans (hb1.mono HB.out.size))
  clear hown hb1
  go_loopw [3, 5, 10] (fun v _p i wr => ∃ k : Nat, k ≤ q ∧ i = .int .i64 k ∧ wr.ownsRow w1.heap.size 21 1 v ((runesS s).take k).length (((runesS s).take k).map (Value.int .i32)) ∧ Below w1.heap.size w1 wr) (fun _ _ i _ => q - (intOf i).toNat)
  case atStart => exact ⟨0, Nat.zero_le _, rfl, World.ownsRow_nil _ _ _ _, Below.refl _ _⟩
  case round =>
    obtain ⟨k, hk, rfl, hown, hbl⟩ := hrel
    by_cases hlt : k < q
    · obtain ⟨x, hx, hx2⟩ := HG.out k (by rw [← HQ.out]; exact hlt)
      obtain ⟨b, off, rfl, c0, c1, c2⟩ := item_cells (HIT.out.below hbl) hx
      have hts := HTK.out k (by rw [HQL.out]; exact hlt)
      rw [hx2] at hts
      obtain ⟨x0, x1, x2⟩ := x
      simp only at c0 c1 c2 hts
      have HTS := Lib.hid hts
      have HOWN := Lib.hid hown
      have HBL := Lib.hid hbl
      have hl : ((runesS s).take k).length = k := by rw [List.length_take, HQL.out]; omega
      have HL := Lib.hid hl
      have HM := Lib.hid (And.intro (show ((runesS s).take k).length + 1 ≤ maxLen by unfold maxLen; omega) (And.intro (show (((runesS s).take k).length + 1) * 4 ≤ 140737488355328 by omega) (show ∀ o o', w1.heap.size ≤ ((wr.alloc o).alloc o').heap.size from fun o o' => by have := hbl.size; simp; omega)))
      clear hts hx hx2 hown hbl hl
      go_wp2_with (at_builtin; refine wpList_append_own _ rfl _ _ 29 rfl w1.heap.size 21 i0 _ 1 4 Tryd.underlying29 HI.out.1 HI.out.2.1 HI.out.2.2.1 HI.out.2.2.2 rfl (by decide) _ _ _ rfl ((HOWN.out.alloc _).alloc _) _ _ _ [.int .i32 x0] rfl rfl (new_cells_at _ [.int .i32 x0] _ _ (by simp)) (by simp [Value.oneCell']) HM.out.1 HM.out.2.1 (HM.out.2.2 _ _) ?_; intro v' w2 hown' hg' _)
      have HO := Lib.hid (And.intro hown' (below_box HBL.out HBL.out.size hg' HOWN.out (Nat.le_refl _)))
      clear hown' hg'
      go_roundw
      case rel => exact ⟨k + 1, by omega, by go_num, by rw [HTS.out, List.map_append, List.length_append]; exact HO.out.1, HO.out.2⟩
      case measure => simp [intOf]; omega
    · obtain rfl : k = q := by omega
      have HT := Lib.hid (show (runesS s).take k = runesS s from List.take_of_length_le (by rw [HQL.out]; exact Nat.le_refl _))
      rw [HT.out] at hown
      go_wp2
      go_ret
      exact ⟨_, rfl, owns_lower hown HB1.out.size, HB1.out.trans (hbl.mono HB1.out.size)⟩

end Go.Proofs.YtlkcnfkfccfhmaaDoor
