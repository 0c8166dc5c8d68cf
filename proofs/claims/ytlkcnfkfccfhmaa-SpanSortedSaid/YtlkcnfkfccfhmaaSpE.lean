/-
  Contracts: slices.Grow of nothing, slices.Concat of three rows of bytes.
-/
import Derived.Test.YtlkcnfkfccfhmaaSpA
import Derived.OwnWalk
import Derived.Laws.OwnMore
import Derived.Lib.AppendZeros
import Derived.Laws.AppendOwnNone
namespace Go.Proofs.Ytlkcnfkfccfhmaa
open Go.RowKit
set_option linter.unusedVariables false

theorem Try.infoB : (Try.prog.info? 5).map (fun i => (i.zero, i.size, i.bytes)) = some (some (.int .u8 0), 1, 1) := by kernel_rfl

/-- A value that owns these bytes, and the world below it as it was. -/
def OwnBs (w : World) (xs : List Int) (e : Ending) (w' : World) : Prop :=
  ∃ v, e = .returned v ∧ w'.ownsRow w.heap.size 5 1 v xs.length (xs.map (Value.int .u8)) ∧ Below w.heap.size w w'

theorem empty_owned (w : World) (n : Nat) (h : n ≤ maxLen) (g : Nat) (hg : g = w.heap.size) :
    (w.drew.alloc (.cells (Builtin.zeroCells #[.int .u8 0] n ++ Builtin.zeroCells #[.int .u8 0] (grownCap w n 0 5 - n)) 5)).ownsRow w.heap.size 5 1 (.slice (some ⟨g, 0, none⟩) 0 (grownCap w n 0 5)) 0 [] := by
  subst hg
  have hge := grownCap_ge w n 0 5
  refine ⟨rfl, .inr ⟨w.heap.size, _, Builtin.zeroCells #[.int .u8 0] n ++ Builtin.zeroCells #[.int .u8 0] (grownCap w n 0 5 - n), rfl, Nat.le_refl _, ?_, Nat.zero_le _, grownCap_le_maxLen _ _ _ _ h, ?_, by simp⟩⟩
  · have h2 : w.drew.heap.size = w.heap.size := rfl
    show (w.drew.heap.push _)[w.heap.size]? = _
    rw [← h2, Array.getElem?_push_size]
  · rw [Array.size_append, size_zeroCells, size_zeroCells]
    simp
    omega

set_option maxHeartbeats 400000 in
theorem grow_nil (n : Nat) (w : World) (hn : n ≤ 1000) :
    Calls Try.prog 31 #[.slice none 0 0, .int .i64 n] w (OwnBs w []) := by
  obtain ⟨i0, hi, hz0, hz1, hz2⟩ := info_parts Try.infoB
  by_cases h0 : 0 < n
  · have hr := Lib.run_append_nil_zeros (P := Try.prog) w 49 3 49 5 i0 _ .i64 .i64 Try.underlying49 Try.underlying3 hi hz0 n h0 (by omega) (by omega) (by rw [hz2]; omega)
    have HO := Lib.hid (empty_owned w n (by unfold maxLen; omega) _ rfl)
    have HB := Lib.hid (((Below.refl w.heap.size w).drew).alloc (Nat.le_refl _) (.cells (Builtin.zeroCells #[.int .u8 0] n ++ Builtin.zeroCells #[.int .u8 0] (grownCap w n 0 5 - n)) 5))
    have HR := Lib.hid hr
    clear hr hi hz0 hz1 hz2
    go_enter Try.func31, Try.ntmps31
    go_wp2_with (at_builtin; refine Lib.wpList_append_run _ rfl _ _ _ _ rfl _ _ rfl rfl _ _ HR.out ?_)
    go_ret
    exact ⟨_, rfl, HO.out, HB.out⟩
  · obtain rfl : n = 0 := by omega
    clear hi hz0 hz1 hz2
    go_enter Try.func31, Try.ntmps31
    go_wp2
    go_ret
    exact ⟨_, rfl, World.ownsRow_nil _ _ _ _, Below.refl _ _⟩

/-- A row of bytes that came in. -/
structure Bs where
  a : Option Addr
  n : Nat
  c : Nat
  zs : List Int

structure OkB (w : World) (r : Bs) : Prop where
  length : r.zs.length = r.n
  le : r.n ≤ r.c
  nil : r.a = none → r.n = 0 ∧ r.c = 0
  cells : AtCells w r.a (r.zs.map (.int .u8))

theorem OkB.below {w w' : World} {r : Bs} (h : OkB w r) (hb : Below w.heap.size w w') : OkB w' r := ⟨h.length, h.le, h.nil, h.cells.below hb⟩

def tot (rs : List Bs) (j : Nat) : Nat := ((rs.take j).map (·.n)).sum
def cat (rs : List Bs) (j : Nat) : List Int := (rs.take j).flatMap (·.zs)
theorem tot_zero (rs : List Bs) : tot rs 0 = 0 := by simp [tot]
theorem cat_zero (rs : List Bs) : cat rs 0 = [] := by simp [cat]
theorem tot_succ (rs : List Bs) (j : Nat) (h : j < rs.length) : tot rs (j + 1) = tot rs j + rs[j].n := by
  unfold tot; rw [List.take_succ_eq_append_getElem h, List.map_append, List.sum_append]; simp
theorem cat_succ (rs : List Bs) (j : Nat) (h : j < rs.length) : cat rs (j + 1) = cat rs j ++ rs[j].zs := by
  unfold cat; rw [List.take_succ_eq_append_getElem h, List.flatMap_append]; simp
theorem tot_le (rs : List Bs) (j : Nat) : tot rs j ≤ tot rs rs.length := by
  unfold tot
  rw [List.take_length]
  conv => rhs; rw [← List.take_append_drop j rs]
  rw [List.map_append, List.sum_append]; omega
theorem cat_all (rs : List Bs) : cat rs rs.length = rs.flatMap (·.zs) := by simp [cat]

theorem cat_length (w : World) (rs : List Bs) (h : ∀ (j : Nat) (hj : j < rs.length), OkB w rs[j]) (j : Nat) (hj : j ≤ rs.length) : (cat rs j).length = tot rs j := by
  induction j with
  | zero => rw [cat_zero, tot_zero]; rfl
  | succ j ih => rw [cat_succ rs j (by omega), tot_succ rs j (by omega), List.length_append, ih (by omega), (h j (by omega)).length]

/-- The bytes of a row, from its address on. -/
theorem at_news {w : World} {ad : Addr} {xs : List Value} (h : AtCells w (some ad) xs) : ∀ j u, xs[j]? = some u → w.cell? (ad.add j) = some u := by
  intro j u hj
  obtain ⟨b, off, hy, hc⟩ := h j u hj
  obtain rfl := Option.some.inj hy
  by_cases h0 : j = 0
  · subst h0; simpa [Addr.add] using hc
  · simpa [Addr.add, h0] using hc

theorem ints_one (k : IntKind) (zs : List Int) : ∀ u ∈ zs.map (Value.int k), u.oneCell' = true := by
  intro u hu
  obtain ⟨z, _, rfl⟩ := List.mem_map.1 hu
  rfl

set_option maxHeartbeats 1000000 in
theorem concat_any (g : Nat) (rs : List Bs) (m : Nat) (w : World) (hm : rs.length = m) (hm2 : m ≤ 1000) (hok : ∀ (j : Nat) (hj : j < rs.length), OkB w rs[j]) (htot : tot rs m ≤ 1000)
    (hcell : ∀ (j : Nat) (hj : j < rs.length), w.cell? ⟨g, j, none⟩ = some (.slice rs[j].a rs[j].n rs[j].c)) :
    Calls Try.prog 27 #[.slice (some ⟨g, 0, none⟩) m m] w (OwnBs w (rs.flatMap (·.zs))) := by
  obtain ⟨i0, hi, hz0, hz1, hz2⟩ := info_parts Try.infoB
  have HI := Lib.hid (And.intro hi (And.intro hz0 (And.intro hz1 hz2)))
  have HM := Lib.hid hm
  have HOK := Lib.hid hok
  have HC := Lib.hid hcell
  have HT := Lib.hid (fun j => Nat.le_trans (tot_le rs j) (by rw [hm]; exact htot : tot rs rs.length ≤ 1000))
  have HALL := Lib.hid (cat_all rs)
  have HL := Lib.hid (cat_length w rs hok)
  clear hm hok hcell htot hi hz0 hz1 hz2
  go_enter Try.func27, Try.ntmps27
  go_wp2
  go_loop [3, 11] (fun s i => ∃ (j t : Nat), j ≤ m ∧ Hid (t = tot rs j) ∧ i = .int .i64 j ∧ s = .int .i64 t) (fun _ i => m - (intOf i).toNat)
  case atStart => exact ⟨0, 0, Nat.zero_le _, Lib.hid (tot_zero rs).symm, rfl, rfl⟩
  case round =>
    obtain ⟨j, t, hj, Ht, rfl, rfl⟩ := hrel
    have ht := HT.out j
    rw [← Ht.out] at ht
    by_cases hlt : j < m
    · have hc := HC.out j (by rw [HM.out]; exact hlt)
      have hs := tot_succ rs j (by rw [HM.out]; exact hlt)
      have ht2 := HT.out (j + 1)
      rw [hs, ← Ht.out] at ht2
      rw [← Ht.out] at hs
      obtain ⟨⟨ra, rn, rc, rz⟩, hr⟩ : ∃ r, r = rs[j]'(by rw [HM.out]; exact hlt) := ⟨_, rfl⟩
      rw [← hr] at hc hs ht2
      simp only at hc hs ht2
      have HS := Lib.hid hs
      clear hs hr
      go_wp2
      go_round
      case rel => exact ⟨j + 1, t + rn, by omega, Lib.hid HS.out.symm, by go_num, by go_num⟩
      case measure => simp [intOf]; omega
    · obtain rfl : m = j := by omega
      clear hlt hj Ht
      go_wp2_with (go_at_call 31; (with_reducible refine (grow_nil t w ht).mono ?_); rintro e w1 ⟨v1, rfl, hown1, hb1⟩)
      go_loopw [6, 27] (fun v i wr => ∃ j : Nat, j ≤ m ∧ i = .int .i64 j ∧ wr.ownsRow w.heap.size 5 1 v (cat rs j).length ((cat rs j).map (Value.int .u8)) ∧ Below w.heap.size w wr) (fun _ i _ => m - (intOf i).toNat)
      case atStart => exact ⟨0, Nat.zero_le _, rfl, by rw [cat_zero]; exact hown1, hb1⟩
      case round =>
        obtain ⟨j, hj, rfl, hown, hbl⟩ := hrel
        by_cases hlt : j < m
        · have hjl : j < rs.length := by rw [HM.out]; exact hlt
          have hc := HC.out j hjl
          have hok := HOK.out j hjl
          have hs := cat_succ rs j hjl
          have hl1 := HL.out (j + 1) hjl
          have ht2 := HT.out (j + 1)
          rw [← hl1, hs, List.length_append] at ht2
          obtain ⟨⟨ra, rn, rc, rz⟩, hr⟩ : ∃ r, r = rs[j] := ⟨_, rfl⟩
          rw [← hr] at hc hs ht2 hok
          simp only at hc hs ht2
          have hc := (hbl.cell (p := ⟨g, j, none⟩) (cell_lt hc)).trans hc
          have hok := hok.below hbl
          obtain ⟨q1, q2, q3, q4⟩ := hok
          simp only at q1 q2 q3 q4
          rw [q1] at ht2
          have HS := Lib.hid hs
          have HQ := Lib.hid q1
          have HBL := Lib.hid hbl
          have HOWN := Lib.hid hown
          clear hs hr hl1 hjl q1 hbl hown
          cases ra with
          | none =>
            obtain ⟨rfl, rfl⟩ := q3 rfl
            obtain rfl : rz = [] := List.length_eq_zero_iff.1 HQ.out
            clear q3
            go_wp2_with (at_builtin; refine wpList_append_own_none rfl _ _ 49 rfl w.heap.size 5 i0 1 Try.underlying49 HI.out.1 _ _ _ rfl HOWN.out rfl ?_)
            go_roundw
            case rel => exact ⟨j + 1, by omega, by go_num, by rw [HS.out, List.append_nil]; exact HOWN.out, HBL.out⟩
            case measure => simp [intOf]; omega
          | some ad =>
            clear q3
            have HN := Lib.hid (at_news q4)
            have HZ := Lib.hid (show (rz.map (Value.int .u8)).length = rn * 1 by simp [HQ.out])
            have h63 : (cat rs j).length + rn ≤ maxLen := by unfold maxLen; omega
            have h47 : ((cat rs j).length + rn) * 1 ≤ 140737488355328 := by omega
            have HH := Lib.hid (And.intro h63 h47)
            clear h63 h47 q4
            go_wp2_with (at_builtin; refine wpList_append_own _ rfl _ _ 49 rfl w.heap.size 5 i0 (.int .u8 0) 1 1 Try.underlying49 HI.out.1 HI.out.2.1 HI.out.2.2.1 HI.out.2.2.2 rfl (by decide) _ _ _ rfl HOWN.out _ _ _ (rz.map (Value.int .u8)) rfl HZ.out HN.out (ints_one _ _) HH.out.1 HH.out.2 HBL.out.size ?_; intro v' w' hown' hg' _)
            have HO := Lib.hid (And.intro hown' (HBL.out.grown hg' HBL.out.size (fun k hk => (HOWN.out.lt k hk).1)))
            clear hown' hg'
            go_roundw
            case rel => exact ⟨j + 1, by omega, by go_num, by rw [HS.out, List.map_append, List.length_append, HQ.out]; exact HO.out.1, HO.out.2⟩
            case measure => simp [intOf]; omega
        · obtain rfl : m = j := by omega
          go_wp2
          go_ret
          have h1 := HM.out
          subst h1
          rw [HALL.out] at hown
          exact ⟨_, rfl, hown, hbl⟩

end Go.Proofs.Ytlkcnfkfccfhmaa
