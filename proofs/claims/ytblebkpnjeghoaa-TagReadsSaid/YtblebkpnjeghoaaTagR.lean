/-
  Contract of layer 8: Read of any row; the chapter's example; the cut.
-/
import Derived.Test.YtblebkpnjeghoaaTagQ
import Derived.Lib.RuneCount
import Derived.Lib.OthersKept
namespace Go.Proofs.Ytblebkpnjeghoaa
open Go.RowKit
set_option linter.unusedVariables false

theorem read_row (a : Option Addr) (n cap : Nat) (l : List Int) (w : World) (hl : l.length = n) (hc : n ≤ cap) (hm : cap ≤ maxLen) (hn : n ≤ 900) (hat : AtCells w a (l.map (.int .i32))) (f t : Int) {nm : PartA} {al : List AttA} {r m : Bool} (hR : readP (parts l f t) = (nm, al, r, m)) :
    Calls Try.prog 45 #[.slice a n cap, .int .i64 f, .int .i64 t] w (OwnTag w nm al r m) := by
  obtain ⟨P, hP⟩ : ∃ P, parts l f t = P := ⟨_, rfl⟩
  have hmem : ∀ x ∈ P, x.2.1 ≤ 1000000 ∧ x.2.2 ≤ 1000000 := fun x hx => by
    have := parts_mem (l := l) (f := f) (t := t) (x := x) (by rw [hP]; exact hx)
    omega
  have hPl := parts_len l f t
  rw [hP] at hR hPl
  obtain ⟨⟨n1, o1, Q1⟩, h1⟩ : ∃ t, takeP [1, 2] P = t := ⟨_, rfl⟩
  unfold readP at hR
  rw [h1] at hR
  cases o1
  · obtain ⟨rfl, rfl, rfl, rfl⟩ : nm = (0, 0, 0) ∧ al = [] ∧ r = false ∧ m = false := by
      have : ((0, 0, 0), [], false, false) = (nm, al, r, m) := by
        rw [← hR]
        match n1 with
        | [] => rfl
        | [x] => rfl
        | [x, y] => rfl
        | x :: y :: z :: n => rfl
      simp only [Prod.mk.injEq] at this
      obtain ⟨⟨rfl, rfl, rfl⟩, rfl, rfl, rfl⟩ := this
      exact ⟨rfl, rfl, rfl, rfl⟩
    exact read_A a n cap l w hl hc hm (by omega) hat f t P hP h1
  obtain ⟨h, nn, rfl⟩ := two_of (takeP_yes h1).1
  have hQ1 : Q1.length ≤ 1000 := by have := takeP_len [1, 2] P; rw [h1] at this; simp only at this; omega
  obtain ⟨⟨al', Q2⟩, hA⟩ : ∃ t, attrsP Q1 = t := ⟨_, rfl⟩
  obtain ⟨⟨n3, o3, Q3⟩, h3⟩ : ∃ t, takeP [3] Q2 = t := ⟨_, rfl⟩
  obtain ⟨⟨n6, o6, Q6⟩, h6⟩ : ∃ t, takeP [6] Q3 = t := ⟨_, rfl⟩
  simp only [hA, h3, h6] at hR
  have hh := hmem h ((takeP_mem h1).1 h (by simp))
  obtain ⟨h0, h1', h2⟩ := h
  obtain ⟨m0, m1, m2⟩ := nn
  cases o6
  · obtain ⟨rfl, rfl, rfl, rfl⟩ : nm = (m0, m1, m2) ∧ al = al' ∧ r = false ∧ m = false := by
      have : ((m0, m1, m2), al', false, false) = (nm, al, r, m) := by
        rw [← hR]
        match n6 with
        | [] => rfl
        | [x] => rfl
        | x :: y :: n => rfl
      simp only [Prod.mk.injEq] at this
      obtain ⟨⟨rfl, rfl, rfl⟩, rfl, rfl, rfl⟩ := this
      exact ⟨rfl, rfl, rfl, rfl⟩
    exact read_N a n cap l w hl hc hm (by omega) hat f t P hP (Lib.hid h1) hQ1 hA (Lib.hid h3) (Lib.hid h6)
  obtain ⟨c, rfl⟩ := one_of (takeP_yes h6).1
  have hcm : c ∈ P := by
    have e3 := (takeP_mem h6).1 c (by simp)
    have e2 := (takeP_mem h3).2 c e3
    have ha : ∀ y ∈ Q2, y ∈ Q1 := by
      have hsub : ∀ (f : Nat) (Q : List PartA), ∀ y ∈ (attrsF f Q).2, y ∈ Q := by
        intro f
        induction f with
        | zero => intro Q y hy; exact hy
        | succ f ih =>
          intro Q y hy
          cases hq : attrP Q with
          | none => rw [attrsF_none hq] at hy; exact hy
          | some z =>
            obtain ⟨x, Q'⟩ := z
            rw [attrsF_some hq] at hy
            have := ih Q' y hy
            unfold attrP at hq
            split at hq
            · rename_i a b Qa q1
              split at hq
              · rename_i na Qb q3
                split at hq
                · rename_i v Qc q5
                  simp only [Option.some.injEq, Prod.mk.injEq] at hq
                  obtain ⟨_, rfl⟩ := hq
                  obtain ⟨⟨n2, o2, Qd⟩, q2⟩ : ∃ t, takeP [3] Qa = t := ⟨_, rfl⟩
                  obtain ⟨⟨n4, o4, Qe⟩, q4⟩ : ∃ t, takeP [3] Qb = t := ⟨_, rfl⟩
                  rw [q2] at q3
                  rw [q4] at q5
                  exact (takeP_mem q1).2 y ((takeP_mem q2).2 y ((takeP_mem q3).2 y ((takeP_mem q4).2 y ((takeP_mem q5).2 y this))))
                · simp at hq
              · simp at hq
            · simp at hq
      intro y hy
      refine hsub Q1.length Q1 y ?_
      unfold attrsP at hA
      rw [hA]; exact hy
    exact (takeP_mem h1).2 c (ha c e2)
  have hcb := hmem c hcm
  obtain ⟨p0, p1, p2⟩ := c
  simp only [] at hR
  have H1 := Lib.hid h1
  have H3 := Lib.hid h3
  have H6 := Lib.hid h6
  cases hE : lenB (h0, h1', h2) 2
  · rw [hE, Bool.false_and, if_neg (by decide)] at hR
    simp only [Prod.mk.injEq] at hR
    obtain ⟨rfl, rfl, rfl, rfl⟩ := hR
    exact read_C1 a n cap l w hl hc hm (by omega) hat f t P hP H1 hQ1 hA H3 H6 hcb.1 hcb.2 hh.1 hh.2 rfl hE
  · cases he : lenB (p0, p1, p2) 2
    · by_cases hz : 0 < al'.length
      · rw [hE, he, decide_eq_true hz] at hR
        simp only [Bool.true_and, Bool.false_or, if_true, Prod.mk.injEq] at hR
        obtain ⟨rfl, rfl, rfl, rfl⟩ := hR
        exact read_C3 a n cap l w hl hc hm (by omega) hat f t P hP H1 hQ1 hA H3 H6 hcb.1 hcb.2 hh.1 hh.2 he hE hz
      · rw [hE, he, decide_eq_false hz] at hR
        simp only [Bool.true_and, Bool.false_or, Bool.false_eq_true, if_false, Prod.mk.injEq] at hR
        obtain ⟨rfl, rfl, rfl, rfl⟩ := hR
        exact read_C4 a n cap l w hl hc hm (by omega) hat f t P hP H1 hQ1 hA H3 H6 hcb.1 hcb.2 hh.1 hh.2 he hE (Lib.hid (by omega))
    · rw [hE, he] at hR
      simp only [Bool.true_and, Bool.true_or, if_true, Prod.mk.injEq] at hR
      obtain ⟨rfl, rfl, rfl, rfl⟩ := hR
      exact read_C2 a n cap l w hl hc hm (by omega) hat f t P hP H1 hQ1 hA H3 H6 hcb.1 hcb.2 hh.1 hh.2 he hE

set_option maxHeartbeats 400000 in
theorem fewT_any (a : Option Addr) (n cap : Nat) (w : World) (hc : n ≤ cap) (hm : cap ≤ maxLen) :
    Calls Try.prog 44 #[.slice a n cap] w fun e w' => e = .returned (.slice a (min n 120) cap) ∧ w = w' := by
  unfold maxLen at hm
  by_cases h : 120 < n
  · have HM := Lib.hid (show min n 120 = 120 by omega)
    go_enter Try.func44, Try.ntmps44
    go_wp2
    go_ret
    rw [HM.out]
    exact ⟨rfl, rfl⟩
  · have HM := Lib.hid (show min n 120 = n by omega)
    go_enter Try.func44, Try.ntmps44
    go_wp2
    go_ret
    rw [HM.out]
    exact ⟨rfl, rfl⟩

def tagL : List Int := [60, 97, 32, 98, 61, 39, 99, 39, 47, 62]
def tagParts : List PartA := [(1, 0, 1), (2, 1, 2), (3, 2, 3), (2, 3, 4), (4, 4, 5), (5, 5, 8), (6, 8, 10)]
theorem tag_parts : parts tagL 0 10 = tagParts := by decide +kernel
theorem tag_read : readP tagParts = ((2, 1, 2), [((2, 3, 4), (5, 5, 8), (7, 2, 8))], true, true) := by kernel_rfl

theorem Try.infoRune : (Try.prog.info? 21).map (fun i => (i.zero, i.size, i.bytes)) = some (some (.int .i32 0), 1, 4) := by kernel_rfl
theorem tag_decode : ∀ p, p < 10 → Utf8.decode (⟨#[60, 97, 32, 98, 61, 39, 99, 39, 47, 62]⟩ : ByteArray) p = ((tagL.getD p 0).toNat, 1) := by decide +kernel

theorem iterPosOf {w : World} {k p : Nat} {s : ByteArray} (h : w.heap[k]? = some (.stringIter s p)) : w.iterPos k = p := by simp [World.iterPos, h]
theorem tag_snoc : ∀ p, p < 10 → (tagL.take p).map (Value.int .i32) ++ [Value.int .i32 ((tagL.getD p 0).toNat : Nat)] = (tagL.take (p + 1)).map (Value.int .i32) := by
  intro p hp
  have h : ((tagL.getD p 0).toNat : Int) = tagL.getD p 0 := by
    have : ∀ p, p < 10 → 0 ≤ tagL.getD p 0 := by decide +kernel
    have := this p hp
    omega
  have hl : p < tagL.length := hp
  rw [h, List.take_succ_eq_append_getElem hl, List.map_append, List.getD_eq_getElem?_getD, List.getElem?_eq_getElem hl]
  rfl

set_option maxRecDepth 20000 in
set_option maxHeartbeats 2000000 in
theorem awakeT_any (w : World) : Calls Try.prog 48 #[] w fun e w' => e = .returned (.bool true) ∧ Below w.heap.size w w' := by
  obtain ⟨i0, hi, hz0, hz1, hz2⟩ := info_parts Try.infoRune
  have HI := Lib.hid (And.intro hi (And.intro hz0 (And.intro hz1 hz2)))
  obtain ⟨s, hs⟩ : ∃ s : ByteArray, s = ⟨#[60, 97, 32, 98, 61, 39, 99, 39, 47, 62]⟩ := ⟨_, rfl⟩
  have hsz : s.size = 10 := by rw [hs]; rfl
  have HD := Lib.hid (show ∀ p, p < 10 → Utf8.decode s p = ((tagL.getD p 0).toNat, 1) from by rw [hs]; exact tag_decode)
  have HP := Lib.hid (fun (a : Option Addr) (c : Nat) (w' : World) (hc : 10 ≤ c) (hm : c ≤ maxLen) (h : AtCells w' a (tagL.map (.int .i32))) => tag_parts ▸ parts_row a 10 c tagL w' rfl hc hm (by omega) h 0 10)
  have HR := Lib.hid (fun (a : Option Addr) (c : Nat) (w' : World) (hc : 10 ≤ c) (hm : c ≤ maxLen) (h : AtCells w' a (tagL.map (.int .i32))) => read_row a 10 c tagL w' rfl hc hm (by omega) h 0 10 ((congrArg readP tag_parts).trans tag_read))
  clear hi hz0 hz1 hz2
  go_enter Try.func48, Try.ntmps48
  go_wp2
  rw [← hs]
  go_loopw [1] (fun v wr => ∃ (pos : Nat) (v' : Value), v' = v ∧ pos ≤ 10 ∧ wr.ownsRow w.heap.size 21 1 v' (tagL.take pos).length ((tagL.take pos).map (Value.int .i32)) ∧ wr.heap[w.heap.size]? = some (.stringIter s pos) ∧ Below w.heap.size w wr) (fun _ wr => 10 - wr.iterPos w.heap.size)
  case atStart => exact ⟨0, _, rfl, by omega, World.ownsRow_nil _ _ _ _, World.iter_heap w s 0, (Below.refl _ _).alloc (Nat.le_refl _) _⟩
  case round =>
    obtain ⟨pos, v0, rfl, hpos, hown, hit, hbl⟩ := hrel
    have hgz : w.heap.size < wr.heap.size := (Array.getElem?_eq_some_iff.1 hit).1
    by_cases hp : pos < 10
    · have hp' : pos < s.size := by omega
      have hnx : ∀ ty, (Instr.next (.pointer (some ⟨w.heap.size, 0, none⟩)) true ty).run Try.prog wr = _ := fun ty => Lib.run_next_any_at wr w.heap.size s pos ty hit hp'
      have hdec := HD.out pos hp
      simp only [hdec] at hnx
      obtain ⟨z, hz⟩ : ∃ z, z = (tagL.getD pos 0).toNat := ⟨_, rfl⟩
      rw [← hz] at hnx
      have HZ := Lib.hid (show (tagL.take pos).map (Value.int .i32) ++ [Value.int .i32 (z : Nat)] = (tagL.take (pos + 1)).map (Value.int .i32) by rw [hz]; exact tag_snoc pos hp)
      have hlen : (tagL.take pos).length = pos := by rw [List.length_take]; show min pos 10 = pos; omega
      have hlen2 : (tagL.take (pos + 1)).length = pos + 1 := by rw [List.length_take]; show min (pos + 1) 10 = pos + 1; omega
      rw [hlen] at hown
      have HI2 := Lib.hid (Lib.iterAt_heap wr w.heap.size s pos (pos + 1) hit)
      have HOWN := Lib.hid (owns_iterAt hown hit (pos + 1))
      have HBL := Lib.hid (Lib.below_iterAt hbl (k := w.heap.size) (Nat.le_refl _) s (pos + 1))
      have HS := Lib.hid (Lib.iterAt_size wr w.heap.size s (pos + 1))
      have HPOS := Lib.hid (iterPosOf hit)
      have HL2 := Lib.hid hlen2
      obtain ⟨wi, hwi⟩ : ∃ wi, wi = wr.iterAt w.heap.size s (pos + 1) := ⟨_, rfl⟩
      rw [← hwi] at hnx HI2 HOWN HBL HS
      have hbase : w.heap.size ≤ wi.heap.size := HBL.out.size
      have HM := Lib.hid (And.intro (show pos + 1 ≤ maxLen by unfold maxLen; omega) (And.intro (show (pos + 1) * 4 ≤ 140737488355328 by omega) (show ∀ o, w.heap.size ≤ (wi.alloc o).heap.size from fun o => by simp; omega)))
      clear hown hwi hit hbl hlen hlen2 hdec hz hs
      go_wp2_with (first
        | (at_builtin; refine wpList_append_own _ rfl _ _ 22 rfl w.heap.size 21 i0 _ 1 4 Try.underlying22 HI.out.1 HI.out.2.1 HI.out.2.2.1 HI.out.2.2.2 rfl (by decide) _ _ _ rfl (HOWN.out.alloc _) _ _ _ [.int .i32 (z : Nat)] rfl rfl (new_cells _ _ _) (by simp [Value.oneCell']) HM.out.1 HM.out.2.1 (HM.out.2.2 _) ?_; intro v' w2 hown' hg' _))
      have hit2 := iter_grown HOWN.out HI2.out hg'
      have hb2 := below_grown_alloc HBL.out hbase hg' (fun g hg => (HOWN.out.lt g hg).1)
      clear hg'
      go_roundw
      case rel => exact ⟨pos + 1, _, rfl, by omega, by rw [HL2.out, ← HZ.out]; exact hown', hit2, hb2⟩
      case measure => rw [HPOS.out, iterPosOf hit2]; omega
    · obtain rfl : pos = 10 := by omega
      have hnx : ∀ ty, (Instr.next (.pointer (some ⟨w.heap.size, 0, none⟩)) true ty).run Try.prog wr = _ := fun ty => Lib.run_next_end_at wr w.heap.size s 10 ty hit (by omega)
      have hown10 : wr.ownsRow w.heap.size 21 1 v0 10 (tagL.map (Value.int .i32)) := hown
      obtain ⟨la, lc, rfl, hlc⟩ := owns_slice hown10
      have hlm := owns_cap hown10
      have HAT := Lib.hid (AtCells.of_owns hown10)
      have HBW := Lib.hid hbl
      clear hown hown10 hit hbl hs
      go_wp2_with (first
        | (go_at_call 45; (refine (HR.out la lc _ hlc hlm HAT.out).mono ?_); rintro e w1 ⟨av, rfl, own1, hb1⟩; obtain ⟨ta, tc, rfl, _⟩ := owns_slice own1)
        | (go_at_call 75; (refine (HP.out la lc _ hlc hlm (HAT.out.below (hb1.alloc hb1.size _))).mono ?_); rintro e w2 ⟨pv, rfl, own2, hb2⟩; obtain ⟨qa, qc, rfl, _⟩ := owns_slice own2; obtain ⟨k1, _⟩ := bcell hb2))
      go_ret
      exact ⟨rfl, HBW.out.trans (((hb1.alloc hb1.size _).mono HBW.out.size).trans (hb2.mono (by have := hb1.size; have := HBW.out.size; simp; omega)))⟩

end Go.Proofs.Ytblebkpnjeghoaa
