/-
  Contract: the reference's Lines.
-/
import Derived.Test.YtlkcnfkfccfhmaaSpC
import Derived.Laws.OwnMore
namespace Go.Proofs.Ytlkcnfkfccfhmaa
open Go.RowKit
set_option linter.unusedVariables false

def pairC (p : Int × Int) : List Value := [.int .i64 p.1, .int .i64 p.2]
/-- The cells of the lines and columns of the first m places. -/
def lcCells (l : List Int) (m : Nat) : List Value := (List.range m).flatMap fun j => pairC (lc l j)
theorem lcCells_succ (l : List Int) (m : Nat) : lcCells l (m + 1) = lcCells l m ++ pairC (lc l m) := by simp [lcCells, List.range_succ]
theorem lcCells_length (l : List Int) (m : Nat) : (lcCells l m).length = m * 2 := by
  induction m with
  | zero => rfl
  | succ m ih => rw [lcCells_succ, List.length_append, ih]; simp [pairC]; omega
theorem lcCells_get (l : List Int) (m j : Nat) (h : j < m) : (lcCells l m)[j * 2]? = some (.int .i64 (lc l j).1) ∧ (lcCells l m)[j * 2 + 1]? = some (.int .i64 (lc l j).2) := by
  induction m with
  | zero => omega
  | succ m ih =>
    rw [lcCells_succ]
    by_cases hj : j < m
    · obtain ⟨h1, h2⟩ := ih hj
      rw [List.getElem?_append_left (by rw [lcCells_length]; omega), List.getElem?_append_left (by rw [lcCells_length]; omega)]
      exact ⟨h1, h2⟩
    · obtain rfl : j = m := by omega
      rw [List.getElem?_append_right (by rw [lcCells_length]; omega), List.getElem?_append_right (by rw [lcCells_length]; omega), lcCells_length]
      simp [pairC]

theorem Try.infoPair : (Try.prog.info? 34).map (fun i => (i.zero, i.size, i.bytes)) = some (some (.agg #[.int .i64 0, .int .i64 0]), 2, 16) := by kernel_rfl

theorem pairC_one (p : Int × Int) : ∀ u ∈ pairC p, u.oneCell' = true := by
  intro u hu
  simp only [pairC, List.mem_cons, List.not_mem_nil, or_false] at hu
  rcases hu with rfl | rfl <;> rfl

/-- What the reference's Lines answers. -/
def OwnLines (w : World) (l : List Int) (n : Nat) (e : Ending) (w' : World) : Prop :=
  ∃ v, e = .returned v ∧ w'.ownsRow w.heap.size 34 2 v (n + 1) (lcCells l (n + 1)) ∧ Below w.heap.size w w'

/-- The ways through a round. -/
theorem end_ways (zs : List Int) (j : Nat) (h : j < zs.length) :
    endB zs j = true ∧ (zs.getD j 0 = 10 ∨ zs.getD j 0 = 13 ∧ j + 1 = zs.length ∨ zs.getD j 0 = 13 ∧ j + 1 < zs.length ∧ zs.getD (j + 1) 0 ≠ 10) ∨
    endB zs j = false ∧ (zs.getD j 0 ≠ 10 ∧ zs.getD j 0 ≠ 13 ∨ zs.getD j 0 = 13 ∧ j + 1 < zs.length ∧ zs.getD (j + 1) 0 = 10) := by
  unfold endB
  generalize zs.getD j 0 = x
  generalize zs.getD (j + 1) 0 = y
  generalize zs.length = n at *
  by_cases h1 : x = 10
  · left; simp [h1]
  · by_cases h2 : x = 13
    · by_cases h3 : j + 1 = n
      · left; simp [h2, h3]
      · by_cases h4 : y = 10
        · right; simp [h2, h3, h4]; omega
        · left; simp [h2, h3, h4]; omega
    · right; simp [h1, h2]

set_option maxHeartbeats 2000000 in
theorem lines_any (a : Option Addr) (n cap : Nat) (zs : List Int) (w : World) (hn : zs.length = n) (h80 : n ≤ 80) (hc : n ≤ cap) (hm : cap ≤ maxLen) (hat : AtCells w a (zs.map (.int .i32))) :
    Calls Try.prog 15 #[.slice a n cap] w (OwnLines w zs n) := by
  obtain ⟨i0, hi, hz0, hz1, hz2⟩ := info_parts Try.infoPair
  have HN := Lib.hid hn
  have HAT := Lib.hid hat
  have HI := Lib.hid (And.intro hi (And.intro hz0 (And.intro hz1 hz2)))
  have HLB := Lib.hid (lc_bd zs)
  have hlc0 : Hid (lc zs 0 = (1, 1)) := Lib.hid rfl
  unfold maxLen at hm
  clear hn hat hi hz0 hz1 hz2
  go_enter Try.func15, Try.ntmps15
  go_wp2
  go_loopw [3, 11] (fun v i wr => ∃ j : Nat, j ≤ n ∧ i = .int .i64 j ∧ wr.ownsRow w.heap.size 34 2 v (j + 1) (lcCells zs (j + 1)) ∧ Below w.heap.size w wr)
    (fun _ i _ => n - (intOf i).toNat)
  case atStart =>
    refine ⟨0, Nat.zero_le _, rfl, ?_, bl1 _ _⟩
    exact World.ownsRow_lit (base := w.heap.size) (e := 34) (size := 2) w #[.int .i64 1, .int .i64 1] 1 (Nat.le_refl _) (by unfold maxLen; omega) rfl
  case round =>
    obtain ⟨j, hj, rfl, hown, hbl⟩ := hrel
    by_cases hlt : j < n
    · obtain ⟨va, vc, rfl, hvc⟩ := owns_slice hown
      have hcc := AtCells.of_owns hown
      obtain ⟨g1, g2⟩ := lcCells_get zs (j + 1) j (by omega)
      obtain ⟨b, off, rfl, c1⟩ := hcc _ _ g1
      obtain ⟨b', off', hy, c2⟩ := hcc _ _ g2
      simp only [Option.some.injEq, Addr.mk.injEq] at hy
      obtain ⟨rfl, rfl, _⟩ := hy
      obtain ⟨bz, oz, rfl, cz⟩ := (HAT.out.below hbl).int (k := j) (by rw [HN.out]; exact hlt)
      obtain ⟨x, y, HX, HY⟩ : ∃ x y : Int, Hid (x = (lc zs j).1) ∧ Hid (y = (lc zs j).2) := ⟨_, _, Lib.hid rfl, Lib.hid rfl⟩
      obtain ⟨b1, b2, b3, b4⟩ := HLB.out j
      rw [← HX.out] at b1 b2 c1
      rw [← HY.out] at b3 b4 c2
      rw [← Nat.add_assoc] at c2
      have lz := cell_lt cz
      have HOWN := Lib.hid hown
      clear hown hcc g1 g2
      have HB2 := Lib.hid (And.intro (show j + 1 + 1 ≤ maxLen by unfold maxLen; omega) (And.intro (show (j + 1 + 1) * 16 ≤ 140737488355328 by omega) (show ∀ o o', w.heap.size ≤ ((wr.alloc o).alloc o').heap.size from fun o o' => by have := hbl.size; simp; omega)))
      have HBL := Lib.hid hbl
      clear hbl
      rcases end_ways zs j (by rw [HN.out]; exact hlt) with ⟨he, hw⟩ | ⟨he, hw⟩
      · have HE := Lib.hid (show lc zs (j + 1) = (x + 1, 1) by rw [lc_yes he, ← HX.out])
        clear he
        rw [HN.out] at hw
        obtain ⟨z, hz⟩ : ∃ z, z = zs.getD j 0 := ⟨_, rfl⟩
        rw [← hz] at hw cz
        clear hz
        rcases hw with rfl | ⟨rfl, h2⟩ | ⟨rfl, h2, h3⟩
        · go_wp2_with (at_builtin; refine wpList_append_own _ rfl _ _ 35 rfl w.heap.size 34 i0 _ 2 16 Try.underlying35 HI.out.1 HI.out.2.1 HI.out.2.2.1 HI.out.2.2.2 rfl (by decide) _ _ _ rfl ((HOWN.out.alloc _).alloc _) _ _ _ (pairC (x + 1, 1)) rfl rfl (new_cells_at _ [.int .i64 (x + 1), .int .i64 1] _ _ (by simp)) (pairC_one _) HB2.out.1 HB2.out.2.1 (HB2.out.2.2 _ _) ?_; intro v' w2 hown' hg' _)
          have HO := Lib.hid (And.intro hown' (below_box HBL.out HBL.out.size hg' HOWN.out (Nat.le_refl _)))
          clear hown' hg'
          go_roundw
          case rel => exact ⟨j + 1, by omega, by go_num, by rw [lcCells_succ, HE.out]; exact HO.out.1, HO.out.2⟩
          case measure => simp [intOf]; omega
        · have h2' : n ≤ j + 1 := by omega
          clear h2
          go_wp2_with (at_builtin; refine wpList_append_own _ rfl _ _ 35 rfl w.heap.size 34 i0 _ 2 16 Try.underlying35 HI.out.1 HI.out.2.1 HI.out.2.2.1 HI.out.2.2.2 rfl (by decide) _ _ _ rfl ((HOWN.out.alloc _).alloc _) _ _ _ (pairC (x + 1, 1)) rfl rfl (new_cells_at _ [.int .i64 (x + 1), .int .i64 1] _ _ (by simp)) (pairC_one _) HB2.out.1 HB2.out.2.1 (HB2.out.2.2 _ _) ?_; intro v' w2 hown' hg' _)
          have HO := Lib.hid (And.intro hown' (below_box HBL.out HBL.out.size hg' HOWN.out (Nat.le_refl _)))
          clear hown' hg'
          go_roundw
          case rel => exact ⟨j + 1, by omega, by go_num, by rw [lcCells_succ, HE.out]; exact HO.out.1, HO.out.2⟩
          case measure => simp [intOf]; omega
        · obtain ⟨b', off', hy, c3⟩ := (HAT.out.below HBL.out).int (k := j + 1) (by rw [HN.out]; exact h2)
          simp only [Option.some.injEq, Addr.mk.injEq] at hy
          obtain ⟨rfl, rfl, _⟩ := hy
          obtain ⟨q, hq⟩ : ∃ q, q = zs.getD (j + 1) 0 := ⟨_, rfl⟩
          rw [← hq] at h3 c3
          clear hq
          have h3' : (q == 10) = false := by simpa using h3
          have h3'' : (q != 10) = true := by simpa using h3
          clear h3
          go_wp2_with (at_builtin; refine wpList_append_own _ rfl _ _ 35 rfl w.heap.size 34 i0 _ 2 16 Try.underlying35 HI.out.1 HI.out.2.1 HI.out.2.2.1 HI.out.2.2.2 rfl (by decide) _ _ _ rfl ((HOWN.out.alloc _).alloc _) _ _ _ (pairC (x + 1, 1)) rfl rfl (new_cells_at _ [.int .i64 (x + 1), .int .i64 1] _ _ (by simp)) (pairC_one _) HB2.out.1 HB2.out.2.1 (HB2.out.2.2 _ _) ?_; intro v' w2 hown' hg' _)
          have HO := Lib.hid (And.intro hown' (below_box HBL.out HBL.out.size hg' HOWN.out (Nat.le_refl _)))
          clear hown' hg'
          go_roundw
          case rel => exact ⟨j + 1, by omega, by go_num, by rw [lcCells_succ, HE.out]; exact HO.out.1, HO.out.2⟩
          case measure => simp [intOf]; omega
      · have HE := Lib.hid (show lc zs (j + 1) = (x, y + 1) by rw [lc_no he, ← HX.out, ← HY.out])
        clear he
        rw [HN.out] at hw
        obtain ⟨z, hz⟩ : ∃ z, z = zs.getD j 0 := ⟨_, rfl⟩
        rw [← hz] at hw cz
        clear hz
        rcases hw with ⟨h2, h3⟩ | ⟨rfl, h2, h3⟩
        · have h2' : (z == 10) = false := by simpa using h2
          have h3' : (z == 13) = false := by simpa using h3
          clear h2 h3
          go_wp2_with (at_builtin; refine wpList_append_own _ rfl _ _ 35 rfl w.heap.size 34 i0 _ 2 16 Try.underlying35 HI.out.1 HI.out.2.1 HI.out.2.2.1 HI.out.2.2.2 rfl (by decide) _ _ _ rfl ((HOWN.out.alloc _).alloc _) _ _ _ (pairC (x, y + 1)) rfl rfl (new_cells_at _ [.int .i64 x, .int .i64 (y + 1)] _ _ (by simp)) (pairC_one _) HB2.out.1 HB2.out.2.1 (HB2.out.2.2 _ _) ?_; intro v' w2 hown' hg' _)
          have HO := Lib.hid (And.intro hown' (below_box HBL.out HBL.out.size hg' HOWN.out (Nat.le_refl _)))
          clear hown' hg'
          go_roundw
          case rel => exact ⟨j + 1, by omega, by go_num, by rw [lcCells_succ, HE.out]; exact HO.out.1, HO.out.2⟩
          case measure => simp [intOf]; omega
        · obtain ⟨b', off', hy, c3⟩ := (HAT.out.below HBL.out).int (k := j + 1) (by rw [HN.out]; exact h2)
          simp only [Option.some.injEq, Addr.mk.injEq] at hy
          obtain ⟨rfl, rfl, _⟩ := hy
          obtain ⟨q, hq⟩ : ∃ q, q = zs.getD (j + 1) 0 := ⟨_, rfl⟩
          rw [← hq] at h3 c3
          clear hq
          subst h3
          go_wp2_with (at_builtin; refine wpList_append_own _ rfl _ _ 35 rfl w.heap.size 34 i0 _ 2 16 Try.underlying35 HI.out.1 HI.out.2.1 HI.out.2.2.1 HI.out.2.2.2 rfl (by decide) _ _ _ rfl ((HOWN.out.alloc _).alloc _) _ _ _ (pairC (x, y + 1)) rfl rfl (new_cells_at _ [.int .i64 x, .int .i64 (y + 1)] _ _ (by simp)) (pairC_one _) HB2.out.1 HB2.out.2.1 (HB2.out.2.2 _ _) ?_; intro v' w2 hown' hg' _)
          have HO := Lib.hid (And.intro hown' (below_box HBL.out HBL.out.size hg' HOWN.out (Nat.le_refl _)))
          clear hown' hg'
          go_roundw
          case rel => exact ⟨j + 1, by omega, by go_num, by rw [lcCells_succ, HE.out]; exact HO.out.1, HO.out.2⟩
          case measure => simp [intOf]; omega
    · obtain rfl : j = n := by omega
      go_wp2
      go_ret
      exact ⟨_, rfl, hown, hbl⟩

end Go.Proofs.Ytlkcnfkfccfhmaa
