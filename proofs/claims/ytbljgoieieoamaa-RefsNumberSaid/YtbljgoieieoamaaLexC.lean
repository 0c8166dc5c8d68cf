/-
  Contracts of layer 7: whether a row has a rune; the first sign that stands in no quotes.
-/
import Derived.Test.YtbljgoieieoamaaLexB
namespace Go.Proofs.Ytbljgoieieoamaa
open Go.RowKit
set_option linter.unusedVariables false

theorem has_of {S : List Int} {r : Int} (j : Nat) (hj : j < S.length) (h : S.getD j 0 = r) : S.contains r = true := by
  rw [List.contains_iff_mem, ← h, List.getD_eq_getElem?_getD, List.getElem?_eq_getElem hj]
  exact List.getElem_mem hj
theorem has_no {S : List Int} {r : Int} (h : ∀ j, j < S.length → S.getD j 0 ≠ r) : S.contains r = false := by
  cases hc : S.contains r
  · rfl
  · rw [List.contains_iff_mem] at hc
    obtain ⟨j, hj, he⟩ := List.getElem_of_mem hc
    refine absurd ?_ (h j hj)
    rw [List.getD_eq_getElem?_getD, List.getElem?_eq_getElem hj]
    exact he

/-- A place, or none, as slices.Index answers. -/
def IdxOk (S : List Int) (r i : Int) : Prop := decide (0 ≤ i) = S.contains r

set_option maxHeartbeats 1000000 in
theorem index_any (g m : Nat) (S : List Int) (r : Int) (w : World) (hm : S.length = m) (hb : m ≤ 1000) (hat : AtCells w (some ⟨g, 0, none⟩) (S.map (.int .i32))) :
    Calls Try.prog 110 #[.slice (some ⟨g, 0, none⟩) m m, .int .i32 r] w fun e w' => ∃ i : Int, (e = .returned (.int .i64 i) ∧ IdxOk S r i) ∧ w' = w := by
  have HAT := Lib.hid hat
  have HM := Lib.hid hm
  clear hat hm
  go_enter Try.func110, Try.ntmps110
  go_wp2
  go_loop [5, 8] (fun _i i => ∃ j : Nat, j ≤ m ∧ i = .int .i64 j ∧ Hid (∀ x, x < j → S.getD x 0 ≠ r)) (fun _ i => m - (intOf i).toNat)
  case atStart => exact ⟨0, by omega, rfl, Lib.hid (fun x hx => by omega)⟩
  case round =>
    obtain ⟨j, hj, rfl, HJ⟩ := hrel
    by_cases hlt : j < m
    · obtain ⟨b', off', hy, hc1⟩ := HAT.out.int (k := j) (by rw [HM.out]; exact hlt)
      simp only [Option.some.injEq, Addr.mk.injEq] at hy
      obtain ⟨rfl, rfl, _⟩ := hy
      rw [Nat.zero_add] at hc1
      obtain ⟨z, hz⟩ : ∃ z, z = S.getD j 0 := ⟨_, rfl⟩
      rw [← hz] at hc1
      by_cases he : r = z
      · have HV := Lib.hid (has_of (S := S) (r := r) j (by rw [HM.out]; exact hlt) (by rw [he, hz]))
        subst he
        clear hz
        go_wp2
        go_ret
        first
          | exact ⟨_, ⟨rfl, by unfold IdxOk; rw [HV.out]; simp⟩, rfl⟩
          | exact ⟨⟨_, rfl, by unfold IdxOk; rw [HV.out]; simp⟩, rfl⟩
      · have HK := Lib.hid (show ∀ x, x < j + 1 → S.getD x 0 ≠ r from fun x hx => by
          by_cases h : x = j
          · subst h; rw [← hz]; exact fun h => he h.symm
          · exact HJ.out x (by omega))
        clear hz
        go_wp2
        go_round
        case rel => exact ⟨j + 1, by omega, by go_num, HK⟩
        case measure => simp [intOf]; omega
    · obtain rfl : j = m := by omega
      have HV := Lib.hid (has_no (S := S) (r := r) (by rw [HM.out]; exact HJ.out))
      clear hj hlt
      go_wp2
      go_ret
      first
        | exact ⟨_, ⟨rfl, by unfold IdxOk; rw [HV.out]; simp⟩, rfl⟩
        | exact ⟨⟨_, rfl, by unfold IdxOk; rw [HV.out]; simp⟩, rfl⟩

set_option maxHeartbeats 400000 in
theorem contains_at {g m : Nat} {S : List Int} {r : Int} {v : Bool} (hv : S.contains r = v) (w : World) (hm : S.length = m) (hb : m ≤ 1000) (hat : AtCells w (some ⟨g, 0, none⟩) (S.map (.int .i32))) :
    Calls Try.prog 106 #[.slice (some ⟨g, 0, none⟩) m m, .int .i32 r] w fun e w' => e = .returned (.bool v) ∧ w' = w := by
  have HI := Lib.hid (index_any g m S r w hm hb hat)
  have HV := Lib.hid hv
  clear hv hat hm
  go_enter Try.func106, Try.ntmps106
  go_wp2_with (go_at_call 110; (with_reducible refine HI.out.mono ?_); rintro e w1 ⟨i, ⟨rfl, hi⟩, rfl⟩)
  go_ret
  exact ⟨ret_bool (by rw [← HV.out]; exact hi), rfl⟩

theorem bareP_go {S : List Int} {q r : Int} {l : List Int} (h : qstop S q r = false) : bareP S q (r :: l) = 1 + bareP S (qstep q r) l := by rw [bareP, if_neg (by rw [h]; decide)]
theorem bareP_stop {S : List Int} {q r : Int} {l : List Int} (h : qstop S q r = true) : bareP S q (r :: l) = 0 := by rw [bareP, if_pos h]

set_option maxHeartbeats 2000000 in
theorem bare_lt {b off n cap : Nat} {l : List Int} {w : World} (R : RRow w b off n cap l) (g m : Nat) (S : List Int) (hS : S.length = m) (hb : m ≤ 1000) (hat : AtCells w (some ⟨g, 0, none⟩) (S.map (.int .i32))) (k : Nat) (hk : k < n) :
    Calls Try.prog 93 #[.slice (some ⟨b, off, none⟩) n cap, .int .i64 k, .slice (some ⟨g, 0, none⟩) m m] w fun e w' => e = .returned (.int .i64 ((k + bareP S 0 (l.drop k) : Nat))) ∧ w' = w := by
  have hm := R.max
  have hc := R.le
  unfold maxLen at hm
  have HR := Lib.hid R
  have HCN := Lib.hid (fun (r : Int) (v : Bool) (hv : S.contains r = v) => contains_at hv w hS hb hat)
  clear R hat hS
  go_enter Try.func93, Try.ntmps93
  go_wp2
  go_loop [7, 8, 9, 14] (fun qv _i8 _i9 i => ∃ (j : Nat) (q : Int), j ≤ n - k ∧ i = .int .i64 j ∧ qv = .int .i32 q ∧ Hid (bareP S 0 (l.drop k) = j + bareP S q (l.drop (k + j)))) (fun _ _ _ i => n - k - (intOf i).toNat)
  case atStart => exact ⟨0, 0, by omega, rfl, rfl, Lib.hid (by simp)⟩
  case round =>
    obtain ⟨j, q, hj, rfl, rfl, HJ⟩ := hrel
    by_cases hlt : j < n - k
    · obtain ⟨b', off', hy, hc1⟩ := HR.out.cells.int (k := k + j) (by rw [HR.out.len]; omega)
      simp only [Option.some.injEq, Addr.mk.injEq] at hy
      obtain ⟨rfl, rfl, _⟩ := hy
      have hd := drop_cons (l := l) (k := k + j) (by rw [HR.out.len]; omega)
      obtain ⟨z, hz⟩ : ∃ z, z = l.getD (k + j) 0 := ⟨_, rfl⟩
      rw [← hz] at hc1 hd
      rw [← Nat.add_assoc] at hc1
      have HD := Lib.hid hd
      clear hz hd
      have HGO := Lib.hid (show qstop S q z = false → bareP S 0 (l.drop k) = (j + 1) + bareP S (qstep q z) (l.drop (k + (j + 1))) from fun h => by rw [HJ.out, HD.out, bareP_go h]; simp only [Nat.add_assoc])
      by_cases h0 : q = 0
      · subst h0
        by_cases h34 : z = 34 ∨ z = 39
        · have HN := Lib.hid (HGO.out (by unfold qstop; rcases h34 with rfl | rfl <;> rfl))
          rw [show qstep 0 z = z by unfold qstep; rw [if_neg (by decide), if_pos h34]] at HN
          clear HGO
          rcases h34 with rfl | rfl
          · go_wp2
            go_round
            case rel => exact ⟨j + 1, 34, by omega, by go_num, rfl, HN⟩
            case measure => simp [intOf]; omega
          · go_wp2
            go_round
            case rel => exact ⟨j + 1, 39, by omega, by go_num, rfl, HN⟩
            case measure => simp [intOf]; omega
        · obtain ⟨n34, n39⟩ := not_or.1 h34
          have hqs : ∀ v, S.contains z = v → qstop S 0 z = v := fun v hv => by unfold qstop; rw [hv, decide_eq_false n34, decide_eq_false n39]; rfl
          clear h34
          have e1 : (z == 34) = false := by simpa using n34
          have e2 : (z == 39) = false := by simpa using n39
          cases hv : S.contains z
          · have HN := Lib.hid (HGO.out (hqs _ hv))
            rw [show qstep 0 z = 0 by unfold qstep; rw [if_neg (by decide), if_neg (by rintro (h | h); exact n34 h; exact n39 h)]] at HN
            have HC := Lib.hid (HCN.out z _ hv)
            clear HGO hqs hv
            go_wp2_with (go_at_call 106; (with_reducible refine HC.out.mono ?_); rintro e w1 ⟨rfl, rfl⟩)
            go_round
            case rel => exact ⟨j + 1, 0, by omega, by go_num, rfl, HN⟩
            case measure => simp [intOf]; omega
          · have HN := Lib.hid (show bareP S 0 (l.drop k) = j by rw [HJ.out, HD.out, bareP_stop (hqs _ hv)]; rfl)
            have HC := Lib.hid (HCN.out z _ hv)
            clear HGO hqs hv
            go_wp2_with (go_at_call 106; (with_reducible refine HC.out.mono ?_); rintro e w1 ⟨rfl, rfl⟩)
            go_ret
            rw [HN.out]
            exact ⟨ret_num (by omega), rfl⟩
      · have HN := Lib.hid (HGO.out (by unfold qstop; rw [decide_eq_false h0]; rfl))
        clear HGO
        have e0 : (q != 0) = true := by simpa using h0
        by_cases hz : z = q
        · rw [show qstep q z = 0 by unfold qstep; rw [if_pos h0, if_pos hz]] at HN
          subst hz
          go_wp2
          go_round
          case rel => exact ⟨j + 1, 0, by omega, by go_num, rfl, HN⟩
          case measure => simp [intOf]; omega
        · rw [show qstep q z = q by unfold qstep; rw [if_pos h0, if_neg hz]] at HN
          have e1 : (z == q) = false := by simpa using hz
          go_wp2
          go_round
          case rel => exact ⟨j + 1, q, by omega, by go_num, rfl, HN⟩
          case measure => simp [intOf]; omega
    · obtain rfl : j = n - k := by omega
      have HN := Lib.hid (show bareP S 0 (l.drop k) = n - k by
        rw [HJ.out, List.drop_eq_nil_of_le (by rw [HR.out.len]; omega)]; rfl)
      clear hj hlt
      go_wp2
      go_ret
      rw [HN.out]
      exact ⟨ret_num (by omega), rfl⟩

set_option maxHeartbeats 1000000 in
theorem bare_end {b off n cap : Nat} {w : World} (hc : n ≤ cap) (hm : cap ≤ maxLen) (g m : Nat) :
    Calls Try.prog 93 #[.slice (some ⟨b, off, none⟩) n cap, .int .i64 n, .slice (some ⟨g, 0, none⟩) m m] w fun e w' => e = .returned (.int .i64 n) ∧ w' = w := by
  unfold maxLen at hm
  by_cases hcap : cap = n
  · subst hcap
    go_enter Try.func93, Try.ntmps93
    go_wp2
    go_loop [7, 8, 9, 14] (fun qv _i8 _i9 i => i = .int .i64 0) (fun _ _ _ i => 0)
    case atStart => rfl
    case round =>
      obtain rfl := hrel
      go_wp2
      go_ret
      exact ⟨rfl, rfl⟩
  · go_enter Try.func93, Try.ntmps93
    go_wp2
    go_loop [7, 8, 9, 14] (fun qv _i8 _i9 i => i = .int .i64 0) (fun _ _ _ i => 0)
    case atStart => rfl
    case round =>
      obtain rfl := hrel
      go_wp2
      go_ret
      exact ⟨rfl, rfl⟩

theorem bareC {b off n cap : Nat} {l : List Int} {w : World} (R : RRow w b off n cap l) {g m : Nat} {S : List Int} (hS : S.length = m) (hb : m ≤ 1000) (hat : AtCells w (some ⟨g, 0, none⟩) (S.map (.int .i32))) (k : Nat) (hk : k ≤ n) :
    Calls Try.prog 93 #[.slice (some ⟨b, off, none⟩) n cap, .int .i64 k, .slice (some ⟨g, 0, none⟩) m m] w fun e w' => e = .returned (.int .i64 ((k + bareP S 0 (l.drop k) : Nat))) ∧ w' = w := by
  by_cases h : k < n
  · exact bare_lt R g m S hS hb hat k h
  · obtain rfl : k = n := by omega
    have h0 : l.drop k = [] := List.drop_eq_nil_of_le (by rw [R.len]; exact Nat.le_refl _)
    rw [h0]
    exact bare_end R.le R.max g m

end Go.Proofs.Ytbljgoieieoamaa
