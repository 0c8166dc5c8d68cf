/-
  Layer 14: Known, the program's and the reference's.
-/
import Derived.Test.YtbljgoieieoamaaRfH
namespace Go.Proofs.Ytbljgoieieoamaa
open Go.RowKit
set_option linter.unusedVariables false

def knI (s : ByteArray) : Int := if s = ⟨#[108, 116]⟩ then 60 else if s = ⟨#[103, 116]⟩ then 62 else if s = ⟨#[97, 109, 112]⟩ then 38 else if s = ⟨#[97, 112, 111, 115]⟩ then 39 else if s = ⟨#[113, 117, 111, 116]⟩ then 34 else -1
/-- What Known answers. -/
def knV (k : Int) : Value := if k < 0 then .tuple #[.int .i32 0, .bool false] else .tuple #[.int .i32 k, .bool true]
theorem ne_list {s c : ByteArray} (h : ¬ s = c) : (s.toList == c.toList) = false := by
  rw [beq_eq_false_iff_ne]
  intro he
  apply h
  rw [ba_toList, ba_toList] at he
  cases s; cases c
  simp at he
  rw [he]
theorem ne_list2 {s c : ByteArray} (h : ¬ s = c) : (c.toList == s.toList) = false := ne_list (fun e => h e.symm)

set_option maxHeartbeats 1000000 in
theorem known_any (s : ByteArray) (w : World) : Calls Try.prog 26 #[.string s] w fun e w' => e = .returned (knV (knI s)) ∧ w' = w := by
  by_cases h0 : s = ⟨#[108, 116]⟩
  · subst h0
    show Calls _ _ _ _ fun e w' => e = .returned (knV 60) ∧ w' = w
    go_enter Try.func26, Try.ntmps26
    go_wp2
    go_ret2
    exact ⟨rfl, rfl⟩
  by_cases h1 : s = ⟨#[103, 116]⟩
  · subst h1
    show Calls _ _ _ _ fun e w' => e = .returned (knV 62) ∧ w' = w
    go_enter Try.func26, Try.ntmps26
    go_wp2
    go_ret2
    exact ⟨rfl, rfl⟩
  by_cases h2 : s = ⟨#[97, 109, 112]⟩
  · subst h2
    show Calls _ _ _ _ fun e w' => e = .returned (knV 38) ∧ w' = w
    go_enter Try.func26, Try.ntmps26
    go_wp2
    go_ret2
    exact ⟨rfl, rfl⟩
  by_cases h3 : s = ⟨#[97, 112, 111, 115]⟩
  · subst h3
    show Calls _ _ _ _ fun e w' => e = .returned (knV 39) ∧ w' = w
    go_enter Try.func26, Try.ntmps26
    go_wp2
    go_ret2
    exact ⟨rfl, rfl⟩
  by_cases h4 : s = ⟨#[113, 117, 111, 116]⟩
  · subst h4
    show Calls _ _ _ _ fun e w' => e = .returned (knV 34) ∧ w' = w
    go_enter Try.func26, Try.ntmps26
    go_wp2
    go_ret2
    exact ⟨rfl, rfl⟩
  have hk : knI s = -1 := by unfold knI; rw [if_neg h0, if_neg h1, if_neg h2, if_neg h3, if_neg h4]
  rw [hk]
  have e0 : (s.toList == [108, 116]) = false := by have h := ne_list h0; rw [ba_toList ⟨#[108, 116]⟩] at h; exact h
  have e1 : (s.toList == [103, 116]) = false := by have h := ne_list h1; rw [ba_toList ⟨#[103, 116]⟩] at h; exact h
  have e2 : (s.toList == [97, 109, 112]) = false := by have h := ne_list h2; rw [ba_toList ⟨#[97, 109, 112]⟩] at h; exact h
  have e3 : (s.toList == [97, 112, 111, 115]) = false := by have h := ne_list h3; rw [ba_toList ⟨#[97, 112, 111, 115]⟩] at h; exact h
  have e4 : (s.toList == [113, 117, 111, 116]) = false := by have h := ne_list h4; rw [ba_toList ⟨#[113, 117, 111, 116]⟩] at h; exact h
  clear hk h0 h1 h2 h3 h4
  go_enter Try.func26, Try.ntmps26
  go_wp2
  go_ret2
  exact ⟨rfl, rfl⟩

set_option maxHeartbeats 2000000 in
theorem refKnown_any (s : ByteArray) (w : World) : Says 27 #[.string s] (.int .i32 (knI s)) w w := by
  by_cases h0 : s = ⟨#[108, 116]⟩
  · subst h0
    show Says _ _ (.int .i32 60) w w
    go_enter Try.func27, Try.ntmps27
    go_wp2
    go_loopw [5, 6, 11] (fun _a _b iv wr => ∃ j : Nat, iv = .int .i64 j ∧ j ≤ 0 ∧ wr = (w.alloc (.cells #[.string ⟨#[108, 116]⟩, .string ⟨#[103, 116]⟩, .string ⟨#[97, 109, 112]⟩, .string ⟨#[97, 112, 111, 115]⟩, .string ⟨#[113, 117, 111, 116]⟩] 9)).alloc (.cells #[.int .i32 60, .int .i32 62, .int .i32 38, .int .i32 39, .int .i32 34] 21)) (fun _ _ iv _ => 6 - (intOf iv).toNat)
    case atStart => exact ⟨0, rfl, Nat.zero_le _, rfl⟩
    case round =>
      obtain ⟨j, rfl, hj, rfl⟩ := hrel
      have hcs : j = 0 := by omega
      clear hj
      rcases hcs with rfl
      go_wp2
      go_ret
      exact ⟨rfl, two_ok w _ _⟩
  by_cases h1 : s = ⟨#[103, 116]⟩
  · subst h1
    show Says _ _ (.int .i32 62) w w
    go_enter Try.func27, Try.ntmps27
    go_wp2
    go_loopw [5, 6, 11] (fun _a _b iv wr => ∃ j : Nat, iv = .int .i64 j ∧ j ≤ 1 ∧ wr = (w.alloc (.cells #[.string ⟨#[108, 116]⟩, .string ⟨#[103, 116]⟩, .string ⟨#[97, 109, 112]⟩, .string ⟨#[97, 112, 111, 115]⟩, .string ⟨#[113, 117, 111, 116]⟩] 9)).alloc (.cells #[.int .i32 60, .int .i32 62, .int .i32 38, .int .i32 39, .int .i32 34] 21)) (fun _ _ iv _ => 6 - (intOf iv).toNat)
    case atStart => exact ⟨0, rfl, Nat.zero_le _, rfl⟩
    case round =>
      obtain ⟨j, rfl, hj, rfl⟩ := hrel
      have hcs : j = 0 ∨ j = 1 := by omega
      clear hj
      rcases hcs with rfl | rfl
      · go_wp2
        go_roundw
        case rel => first | exact ⟨1, by go_num, by omega, trivial⟩ | exact ⟨1, by go_num, by omega, rfl⟩
        case measure => simp [intOf]
      · go_wp2
        go_ret
        exact ⟨rfl, two_ok w _ _⟩
  by_cases h2 : s = ⟨#[97, 109, 112]⟩
  · subst h2
    show Says _ _ (.int .i32 38) w w
    go_enter Try.func27, Try.ntmps27
    go_wp2
    go_loopw [5, 6, 11] (fun _a _b iv wr => ∃ j : Nat, iv = .int .i64 j ∧ j ≤ 2 ∧ wr = (w.alloc (.cells #[.string ⟨#[108, 116]⟩, .string ⟨#[103, 116]⟩, .string ⟨#[97, 109, 112]⟩, .string ⟨#[97, 112, 111, 115]⟩, .string ⟨#[113, 117, 111, 116]⟩] 9)).alloc (.cells #[.int .i32 60, .int .i32 62, .int .i32 38, .int .i32 39, .int .i32 34] 21)) (fun _ _ iv _ => 6 - (intOf iv).toNat)
    case atStart => exact ⟨0, rfl, Nat.zero_le _, rfl⟩
    case round =>
      obtain ⟨j, rfl, hj, rfl⟩ := hrel
      have hcs : j = 0 ∨ j = 1 ∨ j = 2 := by omega
      clear hj
      rcases hcs with rfl | rfl | rfl
      · go_wp2
        go_roundw
        case rel => first | exact ⟨1, by go_num, by omega, trivial⟩ | exact ⟨1, by go_num, by omega, rfl⟩
        case measure => simp [intOf]
      · go_wp2
        go_roundw
        case rel => first | exact ⟨2, by go_num, by omega, trivial⟩ | exact ⟨2, by go_num, by omega, rfl⟩
        case measure => simp [intOf]
      · go_wp2
        go_ret
        exact ⟨rfl, two_ok w _ _⟩
  by_cases h3 : s = ⟨#[97, 112, 111, 115]⟩
  · subst h3
    show Says _ _ (.int .i32 39) w w
    go_enter Try.func27, Try.ntmps27
    go_wp2
    go_loopw [5, 6, 11] (fun _a _b iv wr => ∃ j : Nat, iv = .int .i64 j ∧ j ≤ 3 ∧ wr = (w.alloc (.cells #[.string ⟨#[108, 116]⟩, .string ⟨#[103, 116]⟩, .string ⟨#[97, 109, 112]⟩, .string ⟨#[97, 112, 111, 115]⟩, .string ⟨#[113, 117, 111, 116]⟩] 9)).alloc (.cells #[.int .i32 60, .int .i32 62, .int .i32 38, .int .i32 39, .int .i32 34] 21)) (fun _ _ iv _ => 6 - (intOf iv).toNat)
    case atStart => exact ⟨0, rfl, Nat.zero_le _, rfl⟩
    case round =>
      obtain ⟨j, rfl, hj, rfl⟩ := hrel
      have hcs : j = 0 ∨ j = 1 ∨ j = 2 ∨ j = 3 := by omega
      clear hj
      rcases hcs with rfl | rfl | rfl | rfl
      · go_wp2
        go_roundw
        case rel => first | exact ⟨1, by go_num, by omega, trivial⟩ | exact ⟨1, by go_num, by omega, rfl⟩
        case measure => simp [intOf]
      · go_wp2
        go_roundw
        case rel => first | exact ⟨2, by go_num, by omega, trivial⟩ | exact ⟨2, by go_num, by omega, rfl⟩
        case measure => simp [intOf]
      · go_wp2
        go_roundw
        case rel => first | exact ⟨3, by go_num, by omega, trivial⟩ | exact ⟨3, by go_num, by omega, rfl⟩
        case measure => simp [intOf]
      · go_wp2
        go_ret
        exact ⟨rfl, two_ok w _ _⟩
  by_cases h4 : s = ⟨#[113, 117, 111, 116]⟩
  · subst h4
    show Says _ _ (.int .i32 34) w w
    go_enter Try.func27, Try.ntmps27
    go_wp2
    go_loopw [5, 6, 11] (fun _a _b iv wr => ∃ j : Nat, iv = .int .i64 j ∧ j ≤ 4 ∧ wr = (w.alloc (.cells #[.string ⟨#[108, 116]⟩, .string ⟨#[103, 116]⟩, .string ⟨#[97, 109, 112]⟩, .string ⟨#[97, 112, 111, 115]⟩, .string ⟨#[113, 117, 111, 116]⟩] 9)).alloc (.cells #[.int .i32 60, .int .i32 62, .int .i32 38, .int .i32 39, .int .i32 34] 21)) (fun _ _ iv _ => 6 - (intOf iv).toNat)
    case atStart => exact ⟨0, rfl, Nat.zero_le _, rfl⟩
    case round =>
      obtain ⟨j, rfl, hj, rfl⟩ := hrel
      have hcs : j = 0 ∨ j = 1 ∨ j = 2 ∨ j = 3 ∨ j = 4 := by omega
      clear hj
      rcases hcs with rfl | rfl | rfl | rfl | rfl
      · go_wp2
        go_roundw
        case rel => first | exact ⟨1, by go_num, by omega, trivial⟩ | exact ⟨1, by go_num, by omega, rfl⟩
        case measure => simp [intOf]
      · go_wp2
        go_roundw
        case rel => first | exact ⟨2, by go_num, by omega, trivial⟩ | exact ⟨2, by go_num, by omega, rfl⟩
        case measure => simp [intOf]
      · go_wp2
        go_roundw
        case rel => first | exact ⟨3, by go_num, by omega, trivial⟩ | exact ⟨3, by go_num, by omega, rfl⟩
        case measure => simp [intOf]
      · go_wp2
        go_roundw
        case rel => first | exact ⟨4, by go_num, by omega, trivial⟩ | exact ⟨4, by go_num, by omega, rfl⟩
        case measure => simp [intOf]
      · go_wp2
        go_ret
        exact ⟨rfl, two_ok w _ _⟩
  have hk : knI s = -1 := by unfold knI; rw [if_neg h0, if_neg h1, if_neg h2, if_neg h3, if_neg h4]
  rw [hk]
  have e0 : ([108, 116] == s.toList) = false := by have h := ne_list2 h0; rw [ba_toList ⟨#[108, 116]⟩] at h; exact h
  have e1 : ([103, 116] == s.toList) = false := by have h := ne_list2 h1; rw [ba_toList ⟨#[103, 116]⟩] at h; exact h
  have e2 : ([97, 109, 112] == s.toList) = false := by have h := ne_list2 h2; rw [ba_toList ⟨#[97, 109, 112]⟩] at h; exact h
  have e3 : ([97, 112, 111, 115] == s.toList) = false := by have h := ne_list2 h3; rw [ba_toList ⟨#[97, 112, 111, 115]⟩] at h; exact h
  have e4 : ([113, 117, 111, 116] == s.toList) = false := by have h := ne_list2 h4; rw [ba_toList ⟨#[113, 117, 111, 116]⟩] at h; exact h
  clear hk h0 h1 h2 h3 h4
  go_enter Try.func27, Try.ntmps27
  go_wp2
  go_loopw [5, 6, 11] (fun _a _b iv wr => ∃ j : Nat, iv = .int .i64 j ∧ j ≤ 5 ∧ wr = (w.alloc (.cells #[.string ⟨#[108, 116]⟩, .string ⟨#[103, 116]⟩, .string ⟨#[97, 109, 112]⟩, .string ⟨#[97, 112, 111, 115]⟩, .string ⟨#[113, 117, 111, 116]⟩] 9)).alloc (.cells #[.int .i32 60, .int .i32 62, .int .i32 38, .int .i32 39, .int .i32 34] 21)) (fun _ _ iv _ => 6 - (intOf iv).toNat)
  case atStart => exact ⟨0, rfl, Nat.zero_le _, rfl⟩
  case round =>
    obtain ⟨j, rfl, hj, rfl⟩ := hrel
    have hcs : j = 0 ∨ j = 1 ∨ j = 2 ∨ j = 3 ∨ j = 4 ∨ j = 5 := by omega
    clear hj
    rcases hcs with rfl | rfl | rfl | rfl | rfl | rfl
    · go_wp2
      go_roundw
      case rel => first | exact ⟨1, by go_num, by omega, trivial⟩ | exact ⟨1, by go_num, by omega, rfl⟩
      case measure => simp [intOf]
    · go_wp2
      go_roundw
      case rel => first | exact ⟨2, by go_num, by omega, trivial⟩ | exact ⟨2, by go_num, by omega, rfl⟩
      case measure => simp [intOf]
    · go_wp2
      go_roundw
      case rel => first | exact ⟨3, by go_num, by omega, trivial⟩ | exact ⟨3, by go_num, by omega, rfl⟩
      case measure => simp [intOf]
    · go_wp2
      go_roundw
      case rel => first | exact ⟨4, by go_num, by omega, trivial⟩ | exact ⟨4, by go_num, by omega, rfl⟩
      case measure => simp [intOf]
    · go_wp2
      go_roundw
      case rel => first | exact ⟨5, by go_num, by omega, trivial⟩ | exact ⟨5, by go_num, by omega, rfl⟩
      case measure => simp [intOf]
    · go_wp2
      go_ret
      exact ⟨rfl, two_ok w _ _⟩

theorem knI_bd (s : ByteArray) : knI s = -1 ∨ (34 ≤ knI s ∧ knI s ≤ 62) := by
  unfold knI
  repeat' split
  all_goals omega

end Go.Proofs.Ytbljgoieieoamaa
