/-
  Contracts of layer 5: Words, and the reference's.
-/
import Derived.Test.YtlkcnfkfccfhmaaDoorNmH
import Derived.Test.YtlkcnfkfccfhmaaDoorNmW
namespace Go.Proofs.YtlkcnfkfccfhmaaDoor
open Go.RowKit
set_option linter.unusedVariables false

theorem blank_any (x : Nat) (w : World) :
    Calls Tryd.prog 36 #[.int .i32 (x : Int)] w fun e w' => e = .returned (.bool (isBlank x)) ∧ w' = w := by
  have HR := Lib.hid (show ((x : Int) == 32) = isBlank x by unfold isBlank; rw [Bool.eq_iff_iff]; simp; omega)
  go_enter Tryd.func36, Tryd.ntmps36
  go_wp2
  go_ret
  exact ⟨ret_bl HR.out, rfl⟩

/-- What a call answers that answers words. -/
def OwnWords (w : World) (l : List ByteArray) (e : Ending) (w' : World) : Prop :=
  ∃ v, e = .returned v ∧ w'.ownsRow w.heap.size 9 1 v l.length (l.map Value.string) ∧ Below w.heap.size w w'

theorem fieldsC (s : ByteArray) (w : World) (hs : s.size ≤ 200) :
    Calls Tryd.prog 35 #[.string s, .func (.func 36) #[] #[]] w (OwnWords w (wordsS s)) := by
  have hp : PredAtRunes Tryd.prog 36 #[] isBlank w := fun W x hx hb =>
    (blank_any x W).mono fun e w' ⟨he, hw⟩ => ⟨he, 0, hw⟩
  have h := Tryd.strings_FieldsFunc_runes 36 #[] (fun args w => by kernel_rfl) isBlank s w (by omega) hp
  rw [fields_eq] at h
  exact h.mono fun e w' ⟨A, he, _, ho, hb⟩ => ⟨_, he, ho, hb⟩

set_option maxHeartbeats 400000 in
theorem wordsC (s : ByteArray) (w : World) (hs : s.size ≤ 200) :
    Calls Tryd.prog 22 #[.string s] w (OwnWords w (wordsS s)) := by
  have HF := Lib.hid (fieldsC s w hs)
  go_enter Tryd.func22, Tryd.ntmps22
  go_wp2_with (go_at_call 35; (refine HF.out.mono ?_); rintro e w1 ⟨v, rfl, hown, hb1⟩)
  go_ret
  exact ⟨_, rfl, hown, hb1⟩

theorem Tryd.infoS : (Tryd.prog.info? 9).map (fun i => (i.zero, i.size, i.bytes)) = some (some (.string ⟨#[]⟩), 1, 16) := by kernel_rfl

/-- Bytes as a text. -/
def txt (l : List UInt8) : ByteArray := ⟨l.toArray⟩
theorem txt_size (l : List UInt8) : (txt l).size = l.length := by show l.toArray.size = _; simp
theorem txt_snoc (l : List UInt8) (s : ByteArray) (k : Nat) (h : k < s.size) : txt l ++ s.extract k (k + 1) = txt (l ++ [s[k]]) := by
  apply ByteArray.ext
  apply Array.toList_inj.1
  rw [ByteArray.data_append, Array.toList_append, Lib.extract_data]
  have hk : k < s.data.toList.length := by rw [Array.length_toList]; exact h
  rw [List.drop_eq_getElem_cons hk]
  simp [txt]
  rfl

theorem foldW_succ (s : ByteArray) (k : Nat) (h : k < s.size) : foldW (s.data.toList.take (k + 1)) = stepW (foldW (s.data.toList.take k)) s[k] := by
  have hk : k < s.data.toList.length := by rw [Array.length_toList]; exact h
  rw [List.take_succ_eq_append_getElem hk, foldW_snoc]
  rfl
theorem foldW_bd (l : List UInt8) : (foldW l).1.length ≤ l.length ∧ (foldW l).2.length ≤ l.length := by
  suffices h : ∀ (m : List UInt8) (st : List (List UInt8) × List UInt8), (m.foldl stepW st).1.length ≤ st.1.length + m.length ∧ (m.foldl stepW st).2.length ≤ st.2.length + m.length by
    have := h l ([], [])
    simpa [foldW] using this
  intro m
  induction m with
  | nil => intro st; simp
  | cons b m ih =>
    intro st
    rw [List.foldl_cons]
    have h := ih (stepW st b)
    unfold stepW at h ⊢
    split at h
    · rename_i hb
      rw [if_pos hb]
      simp only at h ⊢
      split at h
      · rename_i h2; rw [if_pos h2]; simp at h ⊢; omega
      · rename_i h2; rw [if_neg h2]; simp at h ⊢; omega
    · rename_i hb
      rw [if_neg hb]
      simp at h ⊢; omega

/-- The words that are whole, as texts. -/
def wl (l : List (List UInt8)) : List Value := l.map fun x => .string (txt x)

set_option maxHeartbeats 2000000 in
theorem refWordsC (s : ByteArray) (w : World) (hs : s.size ≤ 200) :
    Calls Tryd.prog 23 #[.string s] w (OwnWords w (wordsS s)) := by
  obtain ⟨i0, hi, hz0, hz1, hz2⟩ := info_parts Tryd.infoS
  have HI := Lib.hid (And.intro hi (And.intro hz0 (And.intro hz1 hz2)))
  have hlen : s.data.toList.length = s.size := by rw [Array.length_toList]; rfl
  have HBD : Hid (∀ k, k ≤ s.size → (foldW (s.data.toList.take k)).1.length ≤ k ∧ (foldW (s.data.toList.take k)).2.length ≤ k) := Lib.hid fun k hk => by
    have := foldW_bd (s.data.toList.take k)
    rw [List.length_take] at this
    omega
  have HST := Lib.hid (foldW_succ s)
  have HALL : Hid (s.data.toList.take s.size = s.data.toList) := Lib.hid (List.take_of_length_le (by omega))
  clear hi hz0 hz1 hz2 hlen
  go_enter Tryd.func23, Tryd.ntmps23
  go_wp2
  go_loopw [3, 4, 5] (fun v u i wr => ∃ (k n : Nat) (L : List (List UInt8)) (U : List UInt8), k ≤ s.size ∧ Hid (foldW (s.data.toList.take k) = (L, U)) ∧ i = .int .i64 k ∧ u = .string (txt U) ∧ n = L.length ∧ wr.ownsRow w.heap.size 9 1 v n (wl L) ∧ Below w.heap.size w wr) (fun _ _ i _ => s.size - (intOf i).toNat)
  case atStart => exact ⟨0, 0, [], [], Nat.zero_le _, Lib.hid rfl, rfl, rfl, rfl, World.ownsRow_nil _ _ _ _, Below.refl _ _⟩
  case round =>
    obtain ⟨k, n, L, U, hk, HF, rfl, rfl, hn, hown, hbl⟩ := hrel
    have hbd := HBD.out k hk
    rw [HF.out] at hbd
    obtain ⟨bd1, bd2⟩ := hbd
    simp only at bd1 bd2
    rw [← hn] at bd1
    have hts := txt_size U
    obtain ⟨T, hT⟩ : ∃ T, T = txt U := ⟨_, rfl⟩
    rw [← hT] at hts ⊢
    have HT := Lib.hid hT
    have hTs : T.size ≤ k := by omega
    have HN := Lib.hid hn
    have HTS := Lib.hid hts
    have HOWN := Lib.hid hown
    have HBL := Lib.hid hbl
    clear hT hn hts bd2
    have HM := Lib.hid (And.intro (show n + 1 ≤ maxLen by unfold maxLen; omega) (And.intro (show (n + 1) * 16 ≤ 140737488355328 by omega) (show ∀ o, w.heap.size ≤ (wr.alloc o).heap.size from fun o => by have := hbl.size; simp; omega)))
    have hst : ∀ l' : List UInt8, (wl L ++ [.string T] : List Value) = wl (L ++ [U]) := fun _ => by rw [HT.out]; simp [wl]
    have HST2 := Lib.hid (hst [])
    clear hown hbl hst
    by_cases hlt : k < s.size
    · have hstep := HST.out k hlt
      rw [HF.out] at hstep
      have hby := byte_is s[k] 32
      by_cases hc : s[k] = 32
      · have hq : (((s[k].toNat : Nat) : Int) != 32) = false := by
          have : (((s[k].toNat : Nat) : Int) == 32) = true := hby.trans (decide_eq_true hc)
          simp only [bne, this]; rfl
        rw [hc] at hstep
        by_cases h0 : 0 < T.size
        · have e1 := some_facts h0
          have e2 : (!T.toList.isEmpty) = true := by rw [e1]; rfl
          have HF2 := Lib.hid (show foldW (s.data.toList.take (k + 1)) = (L ++ [U], []) by
            rw [hstep, stepW, if_pos rfl, if_neg (by intro h; have h2 := HTS.out; rw [show U = [] from h, List.length_nil] at h2; omega)])
          clear hstep hby hc
          go_wp2_with (at_builtin; refine wpList_append_own _ rfl _ _ 32 rfl w.heap.size 9 i0 _ 1 16 Tryd.underlying32 HI.out.1 HI.out.2.1 HI.out.2.2.1 HI.out.2.2.2 rfl (by decide) _ _ _ rfl (HOWN.out.alloc _) _ _ _ [.string T] rfl rfl (new_cells _ [.string T] _) (by simp [Value.oneCell']) HM.out.1 HM.out.2.1 (HM.out.2.2 _) ?_; intro v' w2 hown' hg' _)
          have HO := Lib.hid (And.intro hown' (below_grown_alloc HBL.out HBL.out.size hg' (fun g hg => (HOWN.out.lt g hg).1)))
          clear hown' hg'
          go_roundw
          case rel => exact ⟨k + 1, n + 1, L ++ [U], [], by omega, HF2, by go_num, rfl, by rw [List.length_append, ← HN.out]; rfl, by rw [← HST2.out]; exact HO.out.1, HO.out.2⟩
          case measure => simp [intOf]; omega
        · have e1 := empty_facts (by omega : T.size = 0)
          have HF2 := Lib.hid (show foldW (s.data.toList.take (k + 1)) = (L, []) by
            rw [hstep, stepW, if_pos rfl, if_pos (List.eq_nil_of_length_eq_zero (by have := HTS.out; show U.length = 0; omega))])
          clear hstep hby hc
          go_wp2
          go_roundw
          case rel => exact ⟨k + 1, n, L, [], by omega, HF2, by go_num, rfl, HN.out, HOWN.out, HBL.out⟩
          case measure => simp [intOf]; omega
      · have hq : (((s[k].toNat : Nat) : Int) != 32) = true := by
          have : (((s[k].toNat : Nat) : Int) == 32) = false := hby.trans (decide_eq_false hc)
          simp only [bne, this]; rfl
        have HF2 := Lib.hid (show foldW (s.data.toList.take (k + 1)) = (L, U ++ [s[k]]) by rw [hstep, stepW, if_neg hc])
        have HTX := Lib.hid (show T ++ s.extract k (k + 1) = txt (U ++ [s[k]]) by rw [HT.out]; exact txt_snoc U s k hlt)
        have z1 := ext_size s k (k + 1)
        clear hstep hby hc
        go_wp2
        go_roundw
        case rel => exact ⟨k + 1, n, L, U ++ [s[k]], by omega, HF2, by go_num, by rw [HTX.out], HN.out, HOWN.out, HBL.out⟩
        case measure => simp [intOf]; omega
    · obtain rfl : k = s.size := by omega
      have hfin : wordsL s = endW (L, U) := by unfold wordsL; rw [← HALL.out, HF.out]
      clear hk hlt
      by_cases h0 : 0 < T.size
      · have e1 := some_facts h0
        have e2 : (!T.toList.isEmpty) = true := by rw [e1]; rfl
        have hw : wordsL s = L ++ [U] := by
          rw [hfin, endW, if_neg (by intro h; have h2 := HTS.out; rw [show U = [] from h, List.length_nil] at h2; omega)]
        have HW := Lib.hid (show wordsS s = (L ++ [U]).map txt by unfold wordsS; rw [hw]; rfl)
        clear hfin hw
        go_wp2_with (at_builtin; refine wpList_append_own _ rfl _ _ 32 rfl w.heap.size 9 i0 _ 1 16 Tryd.underlying32 HI.out.1 HI.out.2.1 HI.out.2.2.1 HI.out.2.2.2 rfl (by decide) _ _ _ rfl (HOWN.out.alloc _) _ _ _ [.string T] rfl rfl (new_cells _ [.string T] _) (by simp [Value.oneCell']) HM.out.1 HM.out.2.1 (HM.out.2.2 _) ?_; intro v' w2 hown' hg' _)
        go_ret
        refine ⟨_, rfl, ?_, below_grown_alloc HBL.out HBL.out.size hg' (fun g hg => (HOWN.out.lt g hg).1)⟩
        rw [HW.out, List.length_map, List.length_append, ← HN.out, List.map_map]
        rw [HST2.out] at hown'
        exact hown'
      · have e1 := empty_facts (by omega : T.size = 0)
        have hw : wordsL s = L := by
          rw [hfin, endW, if_pos (List.eq_nil_of_length_eq_zero (by have := HTS.out; show U.length = 0; omega))]
        have HW := Lib.hid (show wordsS s = L.map txt by unfold wordsS; rw [hw]; rfl)
        clear hfin hw
        go_wp2
        go_ret
        refine ⟨_, rfl, ?_, HBL.out⟩
        rw [HW.out, List.length_map, ← HN.out, List.map_map]
        exact HOWN.out

end Go.Proofs.YtlkcnfkfccfhmaaDoor
