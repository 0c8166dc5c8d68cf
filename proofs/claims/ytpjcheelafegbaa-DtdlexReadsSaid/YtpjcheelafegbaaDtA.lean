/-
  Contracts of the law of layer 9: few, runes, covers, the chapter's example.
-/
import Derived.Test.YtpjcheelafegbaaDxZ
import Derived.Lib.RuneCount
import Derived.Lib.OthersKept
namespace Go.Proofs.Ytpjcheelafegbaa
open Go.RowKit
set_option linter.unusedVariables false

set_option maxHeartbeats 400000 in
theorem fewD_any (a : Option Addr) (n cap : Nat) (w : World) (hc : n ≤ cap) (hm : cap ≤ maxLen) :
    Calls Try.prog 11 #[.slice a n cap] w fun e w' => e = .returned (.slice a (min n 160) cap) ∧ w = w' := by
  unfold maxLen at hm
  by_cases h : 160 < n
  · have HM := Lib.hid (show min n 160 = 160 by omega)
    go_enter Try.func11, Try.ntmps11
    go_wp2
    go_ret
    rw [HM.out]
    exact ⟨rfl, rfl⟩
  · have HM := Lib.hid (show min n 160 = n by omega)
    go_enter Try.func11, Try.ntmps11
    go_wp2
    go_ret
    rw [HM.out]
    exact ⟨rfl, rfl⟩

theorem Try.infoRuneD : (Try.prog.info? 21).map (fun i => (i.zero, i.size, i.bytes)) = some (some (.int .i32 0), 1, 4) := by kernel_rfl
theorem iterPosOf {w : World} {k p : Nat} {s : ByteArray} (h : w.heap[k]? = some (.stringIter s p)) : w.iterPos k = p := by simp [World.iterPos, h]
theorem runes_snoc {L : List Int} {p : Nat} (hp : p < L.length) (h0 : 0 ≤ L.getD p 0) : (L.take p).map (Value.int .i32) ++ [Value.int .i32 ((L.getD p 0).toNat : Nat)] = (L.take (p + 1)).map (Value.int .i32) := by
  have h : ((L.getD p 0).toNat : Int) = L.getD p 0 := by omega
  rw [h, List.take_succ_eq_append_getElem hp, List.map_append, List.getD_eq_getElem?_getD, List.getElem?_eq_getElem hp]
  rfl

set_option maxRecDepth 20000 in
set_option maxHeartbeats 2000000 in
theorem runesD_any (s : ByteArray) (N : Nat) (L : List Int) (hsz : s.size = N) (hN : N ≤ 200) (hL : L.length = N) (hnn : ∀ p, p < N → 0 ≤ L.getD p 0) (hdc : ∀ p, p < N → Utf8.decode s p = ((L.getD p 0).toNat, 1)) (w : World) :
    Calls Try.prog 40 #[.string s] w fun e w' => ∃ v, e = .returned v ∧ w'.ownsRow w.heap.size 21 1 v N (L.map (Value.int .i32)) ∧ Below w.heap.size w w' := by
  obtain ⟨i0, hi, hz0, hz1, hz2⟩ := info_parts Try.infoRuneD
  have HI := Lib.hid (And.intro hi (And.intro hz0 (And.intro hz1 hz2)))
  have HD := Lib.hid hdc
  have HNN := Lib.hid hnn
  have HL := Lib.hid hL
  have HSZ := Lib.hid hsz
  have hsz1 : s.size ≤ N := by omega
  have hsz2 : N ≤ s.size := by omega
  clear hi hz0 hz1 hz2 hdc hnn hL hsz
  go_enter Try.func40, Try.ntmps40
  go_wp2
  go_loopw [3] (fun v wr => ∃ (pos : Nat) (v' : Value), v' = v ∧ pos ≤ N ∧ wr.ownsRow w.heap.size 21 1 v' (L.take pos).length ((L.take pos).map (Value.int .i32)) ∧ wr.heap[w.heap.size]? = some (.stringIter s pos) ∧ Below w.heap.size w wr) (fun _ wr => N - wr.iterPos w.heap.size)
  case atStart => exact ⟨0, _, rfl, by omega, World.ownsRow_nil _ _ _ _, World.iter_heap w s 0, (Below.refl _ _).alloc (Nat.le_refl _) _⟩
  case round =>
    obtain ⟨pos, v0, rfl, hpos, hown, hit, hbl⟩ := hrel
    have hgz : w.heap.size < wr.heap.size := (Array.getElem?_eq_some_iff.1 hit).1
    by_cases hp : pos < N
    · have hp' : pos < s.size := by omega
      have hnx : ∀ ty, (Instr.next (.pointer (some ⟨w.heap.size, 0, none⟩)) true ty).run Try.prog wr = _ := fun ty => Lib.run_next_any_at wr w.heap.size s pos ty hit hp'
      have hdec := HD.out pos hp
      simp only [hdec] at hnx
      obtain ⟨z, hz⟩ : ∃ z, z = (L.getD pos 0).toNat := ⟨_, rfl⟩
      rw [← hz] at hnx
      have HZ := Lib.hid (show (L.take pos).map (Value.int .i32) ++ [Value.int .i32 (z : Nat)] = (L.take (pos + 1)).map (Value.int .i32) by rw [hz]; exact runes_snoc (by rw [HL.out]; exact hp) (HNN.out pos hp))
      have hlen : (L.take pos).length = pos := by rw [List.length_take, HL.out]; omega
      have hlen2 : (L.take (pos + 1)).length = pos + 1 := by rw [List.length_take, HL.out]; omega
      rw [hlen] at hown
      have HI2 := Lib.hid (Lib.iterAt_heap wr w.heap.size s pos (pos + 1) hit)
      have HOWN := Lib.hid (owns_iterAt hown hit (pos + 1))
      have HBL := Lib.hid (Lib.below_iterAt hbl (k := w.heap.size) (Nat.le_refl _) s (pos + 1))
      have HS := Lib.hid (Lib.iterAt_size wr w.heap.size s (pos + 1))
      have HPOS := Lib.hid (iterPosOf hit)
      have HL2 := Lib.hid hlen2
      obtain ⟨wi, hwi⟩ : ∃ wi, wi = wr.iterAt w.heap.size s (pos + 1) := ⟨_, rfl⟩
      rw [← hwi] at hnx HI2 HOWN HBL HS
      have hbase : w.heap.size ≤ wi.heap.size := HBL.out.size
      have HM := Lib.hid (And.intro (show pos + 1 ≤ maxLen by unfold maxLen; omega) (And.intro (show (pos + 1) * 4 ≤ 140737488355328 by omega) (show ∀ o, w.heap.size ≤ (wi.alloc o).heap.size from fun o => by simp; omega)))
      clear hown hwi hit hbl hlen hlen2 hdec hz
      go_wp2_with (first
        | (at_builtin; refine wpList_append_own _ rfl _ _ 22 rfl w.heap.size 21 i0 _ 1 4 Try.underlying22 HI.out.1 HI.out.2.1 HI.out.2.2.1 HI.out.2.2.2 rfl (by decide) _ _ _ rfl (HOWN.out.alloc _) _ _ _ [.int .i32 (z : Nat)] rfl rfl (new_cells _ _ _) (by simp [Value.oneCell']) HM.out.1 HM.out.2.1 (HM.out.2.2 _) ?_; intro v' w2 hown' hg' _))
      have hit2 := iter_grown HOWN.out HI2.out hg'
      have hb2 := below_grown_alloc HBL.out hbase hg' (fun g hg => (HOWN.out.lt g hg).1)
      clear hg'
      go_roundw
      case rel => exact ⟨pos + 1, _, rfl, by omega, by rw [HL2.out, ← HZ.out]; exact hown', hit2, hb2⟩
      case measure => rw [HPOS.out, iterPosOf hit2]; omega
    · obtain rfl : pos = N := by omega
      have hnx : ∀ ty, (Instr.next (.pointer (some ⟨w.heap.size, 0, none⟩)) true ty).run Try.prog wr = _ := fun ty => Lib.run_next_end_at wr w.heap.size s pos ty hit (by omega)
      have hown10 : wr.ownsRow w.heap.size 21 1 v0 pos (L.map (Value.int .i32)) := by
        have h := hown
        rw [List.take_of_length_le (by rw [HL.out]; exact Nat.le_refl _), HL.out] at h
        exact h
      have HW := Lib.hid hown10
      have HBW := Lib.hid hbl
      clear hown hown10 hit hbl
      go_wp2
      go_ret
      exact ⟨_, rfl, HW.out, HBW.out⟩

/-- From a chain on: the part at a number. -/
theorem chainD_drop : ∀ {P : List PartA} {k e : Nat} {j : Nat} {x : PartA}, P[j]? = some x → chainD k (P.drop j) e → x.2.1 = k ∧ k < x.2.2 ∧ chainD x.2.2 (P.drop (j + 1)) e := by
  intro P k e j x hx h
  have hlt := (List.getElem?_eq_some_iff.1 hx).1
  rw [List.drop_eq_getElem_cons hlt, (List.getElem?_eq_some_iff.1 hx).2] at h
  exact h

set_option maxHeartbeats 1000000 in
theorem covers_any (a : Option Addr) (n cap : Nat) (P : List PartA) (k e : Nat) (w : World) (hl : P.length = n) (hn : n ≤ 1000) (hat : AtCells w a (parsCells P)) (hch : chainD k P e) :
    Calls Try.prog 23 #[.slice a n cap, .int .i64 k, .int .i64 e] w fun r w' => r = .returned (.bool true) ∧ Below w.heap.size w w' := by
  have HAT := Lib.hid hat
  have HL := Lib.hid hl
  have HCH := Lib.hid hch
  clear hat hl hch
  go_enter Try.func23, Try.ntmps23
  go_wp2
  go_loopw [1, 8, 11] (fun ev _p i wr => ∃ (j y : Nat), i = .int .i64 j ∧ ev = .int .i64 y ∧ j ≤ n ∧ Hid (chainD y (P.drop j) e) ∧ Below w.heap.size w wr) (fun _ _ i _ => n - (intOf i).toNat)
  case atStart => exact ⟨0, k, rfl, rfl, Nat.zero_le _, Lib.hid HCH.out, Below.refl _ _⟩
  case round =>
    obtain ⟨j, y, rfl, rfl, hj, HK, hbl⟩ := hrel
    by_cases hlt : j < n
    · obtain ⟨x, hx⟩ : ∃ x, P[j]? = some x := ⟨_, List.getElem?_eq_getElem (by rw [HL.out]; exact hlt)⟩
      obtain ⟨vb, vo, rfl, c0, c1, c2⟩ := par_cells (HAT.out.below hbl) hx
      obtain ⟨p1, p2, p3⟩ := chainD_drop hx HK.out
      obtain ⟨x0, x1, x2⟩ := x
      simp only at c0 c1 c2 p1 p2 p3
      subst p1
      have HN := Lib.hid p3
      have hvlt := cell_lt c0
      have e1 : ¬ ((x2 : Int) ≤ (x1 : Int)) := by omega
      clear hx p3 HK
      go_wp2
      go_roundw
      case rel => exact ⟨j + 1, x2, by go_num, rfl, by omega, HN, hbl.alloc hbl.size _⟩
      case measure => simp [intOf]; omega
    · obtain rfl : j = n := by omega
      have hye : y = e := by
        have := HK.out
        rw [List.drop_eq_nil_of_le (by rw [HL.out]; exact Nat.le_refl _)] at this
        exact this
      subst hye
      clear hlt HK
      go_wp2
      go_ret
      exact ⟨rfl, hbl⟩

abbrev awS : ByteArray := ⟨#[60, 33, 68, 79, 67, 84, 89, 80, 69, 32, 97, 32, 83, 89, 83, 84, 69, 77, 32, 39, 98, 39, 32, 91, 37, 99, 59, 93, 62]⟩
def awL : List Int := [60, 33, 68, 79, 67, 84, 89, 80, 69, 32, 97, 32, 83, 89, 83, 84, 69, 77, 32, 39, 98, 39, 32, 91, 37, 99, 59, 93, 62]
theorem aw_read : readD awL (inP dtP awL 0 29) = (((2, 10, 11), (0, 0, 0), (4, 19, 22), (6, 24, 27)), true) := by decide +kernel
theorem aw_items : inP (rowP itP 0) awL 24 27 = [(14, 24, 27)] := by decide +kernel
theorem aw_dec : ∀ p, p < 29 → Utf8.decode awS p = ((awL.getD p 0).toNat, 1) := by decide +kernel

set_option maxRecDepth 20000 in
set_option maxHeartbeats 2000000 in
theorem awakeD_any (w : World) : Calls Try.prog 15 #[] w fun e w' => e = .returned (.bool true) ∧ Below w.heap.size w w' := by
  have HU := Lib.hid (fun w => runesD_any awS 29 awL rfl (by omega) rfl (by decide +kernel) aw_dec w)
  have HR := Lib.hid (fun (a : Option Addr) (c : Nat) (w' : World) (R : NRow w' a 29 c awL) => aw_read ▸ Read_any R (by omega) 0 29)
  have HT := Lib.hid (fun (a : Option Addr) (c : Nat) (w' : World) (R : NRow w' a 29 c awL) => aw_items ▸ Items_any R (by omega) 24 27)
  go_enter Try.func15, Try.ntmps15
  go_wp2_with (first
    | (go_at_call 40; (refine (HU.out _).mono ?_); rintro e w1 ⟨v, rfl, hown, hb1⟩; obtain ⟨la, lc, rfl, hlc⟩ := owns_slice hown; have HN := Lib.hid (show NRow w1 la 29 lc awL from ⟨rfl, hlc, owns_cap hown, AtCells.of_owns hown⟩); have HB1 := Lib.hid hb1; clear hown hb1)
    | (go_at_call 20; (refine (HR.out _ _ _ HN.out).mono ?_); rintro e w2 ⟨rfl, hb2⟩; have HB2 := Lib.hid hb2; clear hb2)
    | (go_at_call 16; (refine (HT.out _ _ _ (HN.out.below (HB2.out.alloc HB2.out.size _))).mono ?_); rintro e w3 ⟨pv, rfl, hown3, hb3⟩; obtain ⟨pa, pc, rfl, hpc⟩ := owns_slice hown3; obtain ⟨pg, po, rfl, g0, g1, g2⟩ := par_cells (AtCells.of_owns hown3) (k := 0) (x := (14, 24, 27)) rfl; (simp only [Nat.zero_mul, Nat.add_zero] at g0 g1 g2); obtain ⟨k1, _⟩ := bcell hb3; have hs2 : w2.heap.size < w3.heap.size := (by have := hb3.size; simp at this; omega)))
  go_ret
  exact ⟨by first | rfl | simp, HB1.out.trans (((HB2.out.alloc HB2.out.size _).mono HB1.out.size).trans (hb3.mono (by have := HB2.out.size; have := HB1.out.size; simp; omega)))⟩

end Go.Proofs.Ytpjcheelafegbaa
