/-
  Layer 14: Lines, the program's and the reference's.
-/
import Derived.Test.YtbljgoieieoamaaRfH
namespace Go.Proofs.Ytbljgoieieoamaa
open Go.RowKit
set_option linter.unusedVariables false

def linR (l : List Int) (i : Nat) : List Int := if sw [13, 10] (l.drop i) then [] else if l.getD i 0 = 13 then [10] else [l.getD i 0]
def linT (l : List Int) (k : Nat) : List Int := (List.range k).flatMap (linR l)
def linP (l : List Int) : List Int := linT l l.length
theorem linT_succ (l : List Int) (k : Nat) : linT l (k + 1) = linT l k ++ linR l k := by
  unfold linT; rw [List.range_succ, List.flatMap_append]; simp
theorem linR_len (l : List Int) (i : Nat) : (linR l i).length ≤ 1 := by unfold linR; split <;> (try split) <;> simp
theorem linT_len (l : List Int) : ∀ k, (linT l k).length ≤ k
  | 0 => by simp [linT]
  | k + 1 => by
    have h1 := linT_len l k
    have h2 := linR_len l k
    rw [linT_succ, List.length_append]; omega
theorem linR_no (l : List Int) (i : Nat) : ∀ x ∈ linR l i, x ≠ 13 := by
  intro x hx
  unfold linR at hx
  split at hx
  · simp at hx
  split at hx
  · simp at hx; omega
  · rename_i h; simp at hx; rw [hx]; exact h
theorem linP_no (l : List Int) : ∀ x ∈ linP l, x ≠ 13 := by
  intro x hx
  obtain ⟨i, _, hi⟩ := List.mem_flatMap.1 hx
  exact linR_no l i x hi
theorem sw_crlf (l : List Int) (i : Nat) (h : sw [13, 10] (l.drop i) = true) : l.getD i 0 = 13 ∧ l.getD (i + 1) 0 = 10 ∧ i + 1 < l.length := by
  have h1 := sw_get h 0 (by simp)
  have h2 := sw_get h 1 (by simp)
  have h3 := sw_length h
  rw [dropl] at h3
  simp at h1 h2 h3
  refine ⟨by simpa using h1, by simpa using h2, by omega⟩
theorem sw_crlf_yes (l : List Int) (i : Nat) (h0 : i + 1 < l.length) (h1 : l.getD i 0 = 13) (h2 : l.getD (i + 1) 0 = 10) : sw [13, 10] (l.drop i) = true := by
  unfold sw
  rw [decide_eq_true_eq]
  rw [List.drop_eq_getElem_cons (by omega), List.drop_eq_getElem_cons h0]
  rw [List.getD_eq_getElem?_getD, List.getElem?_eq_getElem (by omega)] at h1
  rw [List.getD_eq_getElem?_getD, List.getElem?_eq_getElem h0] at h2
  simp at h1 h2
  simp [h1, h2]
theorem linR_plain (l : List Int) (i : Nat) (h : l.getD i 0 ≠ 13) : linR l i = [l.getD i 0] := by
  unfold linR
  rw [if_neg (fun hs => h (sw_crlf l i hs).1), if_neg h]
theorem linP_same (l : List Int) (h : ∀ x ∈ l, x ≠ 13) : linP l = l := by
  have key : ∀ k, k ≤ l.length → linT l k = l.take k := by
    intro k
    induction k with
    | zero => intro _; simp [linT]
    | succ k ih =>
      intro hk
      have hkl : k < l.length := by omega
      have hmem : l.getD k 0 ∈ l := by rw [List.getD_eq_getElem?_getD, List.getElem?_eq_getElem hkl]; simp
      rw [linT_succ, ih (by omega), linR_plain l k (h _ hmem), List.take_succ_eq_append_getElem hkl, List.getD_eq_getElem?_getD, List.getElem?_eq_getElem hkl]
      rfl
  unfold linP
  rw [key _ (Nat.le_refl _), List.take_of_length_le (Nat.le_refl _)]
theorem linP_wf {l : List Int} (h : Runes l) : Runes (linP l) := by
  intro x hx
  obtain ⟨i, hi, hx⟩ := List.mem_flatMap.1 hx
  rw [List.mem_range] at hi
  unfold linR at hx
  split at hx
  · simp at hx
  split at hx
  · simp at hx; omega
  · simp at hx; rw [hx]; exact h.at hi

theorem sCrS : Sign ⟨#[13, 10]⟩ := Sign.of (by decide)

set_option maxRecDepth 20000 in
set_option maxHeartbeats 4000000 in
theorem lines_any {w : World} {a : Option Addr} {n cap : Nat} {l : List Int} (R : NRw w a n cap l) (hn : n ≤ 1000) : Calls Try.prog 33 #[.slice a n cap] w (OwnRunes w (linP l)) := by
  obtain ⟨i0, hi, hz0, hz1, hz2⟩ := info_parts Try.infoI32
  have HI := Lib.hid (And.intro hi (And.intro hz0 (And.intro hz1 hz2)))
  have HL := Lib.hid R.len
  have HR := Lib.hid R
  have HM0 := Lib.hid (And.intro (show i0.bytes * n ≤ 281474976710656 by rw [hz2]; omega) (show n ≤ maxLen by unfold maxLen; omega))
  clear hi hz0 hz1 hz2 R
  go_enter Try.func33, Try.ntmps33
  go_wp2_with (at_make; refine wpList_make_own _ rfl _ _ 43 rfl w.heap.size 21 i0 (.int .i32 0) 1 Try.underlying43 HI.out.1 HI.out.2.1 HI.out.2.2.1 .i64 .i64 n n rfl rfl rfl HM0.out.1 HM0.out.2 (Nat.le_refl _) ?_; intro w1 hown1 hgrow1)
  have HO1 := Lib.hid (And.intro hown1 (show Below w.heap.size w w1 from (Below.refl _ _).grown hgrow1 (Nat.le_refl _) (fun k hk => by cases hk)))
  clear hown1 hgrow1
  go_loopw [3, 11] (fun v iv wr => ∃ (k : Nat) (v' : Value), iv = .int .i64 k ∧ v' = v ∧ k ≤ n ∧ Hid (wr.ownsRow w.heap.size 21 1 v' (linT l k).length ((linT l k).map (Value.int .i32)) ∧ Below w.heap.size w wr)) (fun _ iv _ => n - (intOf iv).toNat)
  case atStart => exact ⟨0, _, rfl, rfl, Nat.zero_le _, Lib.hid ⟨by simpa [linT] using HO1.out.1, HO1.out.2⟩⟩
  case round =>
    obtain ⟨k, v0, rfl, rfl, hk, HO⟩ := hrel
    by_cases hlt : k < n
    · obtain ⟨b, off, rfl, R'⟩ := HR.out.some_ (by omega)
      have hc0 := (HR.out.cells.below HO.out.2).int (k := k) (by rw [HL.out]; exact hlt)
      obtain ⟨_, _, he, hc⟩ := hc0
      cases he
      obtain ⟨z, hz⟩ : ∃ z, z = l.getD k 0 := ⟨_, rfl⟩
      rw [← hz] at hc
      have hsucc := linT_succ l k
      have hll := linT_len l k
      unfold linR at hsucc
      rw [← hz] at hsucc
      obtain ⟨m, hm⟩ : ∃ m, m = (linT l k).length := ⟨_, rfl⟩
      rw [← hm] at HO hll
      have HML := Lib.hid hm
      have hkz : (k : Int) < (n : Int) := by omega
      have hkw : IntKind.i64.wrap ((k : Int) + 1) = (k : Int) + 1 := by rw [IntKind.wrap_i64]; omega
      have HR2 := Lib.hid R'
      cases hsw : sw [13, 10] (l.drop k) with
      | true =>
        have HST := Lib.hid (fun (W : World) (hb : Below w.heap.size w W) => startsB (R'.below hb) sCrS k (by omega) hsw W (Below.refl _ _))
        rw [if_pos hsw, List.append_nil] at hsucc
        have HSU := Lib.hid hsucc
        clear hsucc hz hm hsw R'
        go_wp2_with (go_at_call 46; (with_reducible refine (HST.out _ HO.out.2).mono ?_); rintro e w3 ⟨rfl, hb3⟩; have HW3 := Lib.hid (And.intro (owns_below HO.out.1 hb3) (Below.more HO.out.2 hb3)); clear hb3)
        go_roundw
        case rel => exact ⟨k + 1, _, by go_num, rfl, by omega, Lib.hid ⟨by rw [HSU.out, ← HML.out]; exact HW3.out.1, HW3.out.2⟩⟩
        case measure => simp [intOf]; omega
      | false =>
        have HST := Lib.hid (fun (W : World) (hb : Below w.heap.size w W) => startsB (R'.below hb) sCrS k (by omega) hsw W (Below.refl _ _))
        rw [if_neg (by rw [hsw]; simp)] at hsucc
        by_cases h13 : z = 13
        · rw [if_pos h13] at hsucc
          have HSU := Lib.hid hsucc
          subst h13
          clear hsucc hz hm hsw R'
          go_wp2_with (first
            | (at_builtin; refine wpList_append_own _ rfl _ _ 43 rfl w.heap.size 21 i0 _ 1 4 Try.underlying43 HI.out.1 HI.out.2.1 HI.out.2.2.1 HI.out.2.2.2 rfl (by decide) _ _ _ rfl (HW3.out.1.alloc _) _ _ _ [.int .i32 10] rfl rfl (new_cells _ _ _) (by simp [Value.oneCell']) (by unfold maxLen; omega) (by omega) (Nat.le_trans HW3.out.2.size (one_ok w3 _).size) ?_; intro v' w4 hown' hg' _; have HF := Lib.hid (And.intro hown' (below_grown_alloc HW3.out.2 HW3.out.2.size hg' (fun g hg => (HW3.out.1.lt g hg).1))); clear hown' hg')
            | (go_at_call 46; (with_reducible refine (HST.out _ HO.out.2).mono ?_); rintro e w3 ⟨rfl, hb3⟩; have HW3 := Lib.hid (And.intro (owns_below HO.out.1 hb3) (Below.more HO.out.2 hb3)); clear hb3))
          go_roundw
          case rel => exact ⟨k + 1, _, by go_num, rfl, by omega, Lib.hid ⟨by rw [HSU.out, List.length_append, List.map_append, ← HML.out]; exact HF.out.1, HF.out.2⟩⟩
          case measure => simp [intOf]; omega
        · rw [if_neg h13] at hsucc
          have HSU := Lib.hid hsucc
          clear hsucc hz hm hsw R'
          go_wp2_with (first
            | (at_builtin; refine wpList_append_own _ rfl _ _ 43 rfl w.heap.size 21 i0 _ 1 4 Try.underlying43 HI.out.1 HI.out.2.1 HI.out.2.2.1 HI.out.2.2.2 rfl (by decide) _ _ _ rfl (HW3.out.1.alloc _) _ _ _ [.int .i32 z] rfl rfl (new_cells _ _ _) (by simp [Value.oneCell']) (by unfold maxLen; omega) (by omega) (Nat.le_trans HW3.out.2.size (one_ok w3 _).size) ?_; intro v' w4 hown' hg' _; have HF := Lib.hid (And.intro hown' (below_grown_alloc HW3.out.2 HW3.out.2.size hg' (fun g hg => (HW3.out.1.lt g hg).1))); clear hown' hg')
            | (go_at_call 46; (with_reducible refine (HST.out _ HO.out.2).mono ?_); rintro e w3 ⟨rfl, hb3⟩; have HW3 := Lib.hid (And.intro (owns_below HO.out.1 hb3) (Below.more HO.out.2 hb3)); clear hb3))
          go_roundw
          case rel => exact ⟨k + 1, _, by go_num, rfl, by omega, Lib.hid ⟨by rw [HSU.out, List.length_append, List.map_append, ← HML.out]; exact HF.out.1, HF.out.2⟩⟩
          case measure => simp [intOf]; omega
    · obtain rfl : k = n := by omega
      have hkf : ¬ (k : Int) < (k : Int) := by omega
      have hpp : linT l k = linP l := by unfold linP; rw [HL.out]
      rw [hpp] at HO
      clear hlt
      go_wp2
      go_ret
      exact ⟨_, rfl, HO.out.1, HO.out.2⟩

set_option maxRecDepth 20000 in
set_option maxHeartbeats 4000000 in
theorem refLines_any {w : World} {a : Option Addr} {n cap : Nat} {l : List Int} (R : NRw w a n cap l) (hn : n ≤ 1000) : Calls Try.prog 34 #[.slice a n cap] w (OwnRunes w (linP l)) := by
  obtain ⟨i0, hi, hz0, hz1, hz2⟩ := info_parts Try.infoI32
  have HI := Lib.hid (And.intro hi (And.intro hz0 (And.intro hz1 hz2)))
  have HL := Lib.hid R.len
  have HR := Lib.hid R
  clear hi hz0 hz1 hz2 R
  go_enter Try.func34, Try.ntmps34
  go_wp2
  go_loopw [3, 4] (fun v iv wr => ∃ (k : Nat) (v' : Value), iv = .int .i64 k ∧ v' = v ∧ k ≤ n ∧ Hid (wr.ownsRow w.heap.size 21 1 v' (linT l k).length ((linT l k).map (Value.int .i32)) ∧ Below w.heap.size w wr)) (fun _ iv _ => n - (intOf iv).toNat)
  case atStart => exact ⟨0, _, rfl, rfl, Nat.zero_le _, Lib.hid ⟨World.ownsRow_nil _ _ _ _, Below.refl _ _⟩⟩
  case round =>
    obtain ⟨k, v0, rfl, rfl, hk, HO⟩ := hrel
    by_cases hlt : k < n
    · have hc0 := (HR.out.cells.below HO.out.2).int (k := k) (by rw [HL.out]; exact hlt)
      obtain ⟨b, off, rfl, hc⟩ := hc0
      obtain ⟨z, hz⟩ : ∃ z, z = l.getD k 0 := ⟨_, rfl⟩
      rw [← hz] at hc
      have hsucc := linT_succ l k
      have hll := linT_len l k
      obtain ⟨m, hm⟩ : ∃ m, m = (linT l k).length := ⟨_, rfl⟩
      rw [← hm] at HO hll
      have HML := Lib.hid hm
      have hkz : (k : Int) < (n : Int) := by omega
      have hkw : IntKind.i64.wrap ((k : Int) + 1) = (k : Int) + 1 := by rw [IntKind.wrap_i64]; omega
      have hkw2 : IntKind.i64.wrap ((k : Int) + 1 + 1) = (k : Int) + 1 + 1 := by rw [IntKind.wrap_i64]; omega
      by_cases h13 : z = 13
      · by_cases hn1 : k + 1 < n
        · obtain ⟨_, _, he, hc2⟩ := (HR.out.cells.below HO.out.2).int (k := k + 1) (by rw [HL.out]; exact hn1)
          cases he
          obtain ⟨y, hy⟩ : ∃ y, y = l.getD (k + 1) 0 := ⟨_, rfl⟩
          rw [← hy] at hc2
          have hn1z : (k : Int) + 1 < (n : Int) := by omega
          have hc2' : wr.cell? ⟨b, off + (k + 1), none⟩ = some (.int .i32 y) := hc2
          by_cases h10 : y = 10
          · have hs1 : linT l (k + 1 + 1) = linT l k ++ [10] := by
              rw [linT_succ, hsucc]
              have e1 : linR l k = [] := by
                unfold linR
                rw [if_pos (sw_crlf_yes l k (by rw [HL.out]; exact hn1) (by rw [← hz, h13]) (by rw [← hy, h10]))]
              have e2 : linR l (k + 1) = [10] := by rw [linR_plain l (k + 1) (by rw [← hy, h10]; decide), ← hy, h10]
              rw [e1, e2, List.append_nil]
            have HSU := Lib.hid hs1
            subst h13 h10
            clear hsucc hz hm hy hs1
            go_wp2_with (at_builtin; refine wpList_append_own _ rfl _ _ 43 rfl w.heap.size 21 i0 _ 1 4 Try.underlying43 HI.out.1 HI.out.2.1 HI.out.2.2.1 HI.out.2.2.2 rfl (by decide) _ _ _ rfl (HO.out.1.alloc _) _ _ _ [.int .i32 10] rfl rfl (new_cells _ _ _) (by simp [Value.oneCell']) (by unfold maxLen; omega) (by omega) (Nat.le_trans HO.out.2.size (one_ok wr _).size) ?_; intro v' w4 hown' hg' _; have HF := Lib.hid (And.intro hown' (below_grown_alloc HO.out.2 HO.out.2.size hg' (fun g hg => (HO.out.1.lt g hg).1))); clear hown' hg')
            go_roundw
            case rel => exact ⟨k + 1 + 1, _, by go_num, rfl, by omega, Lib.hid ⟨by rw [HSU.out, List.length_append, List.map_append, ← HML.out]; exact HF.out.1, HF.out.2⟩⟩
            case measure => simp [intOf]; omega
          · have hs1 : linT l (k + 1) = linT l k ++ [10] := by
              rw [hsucc]
              have e1 : linR l k = [10] := by
                unfold linR
                rw [if_neg (fun hs => h10 (by rw [hy]; exact (sw_crlf l k hs).2.1)), if_pos (by rw [← hz, h13])]
              rw [e1]
            have HSU := Lib.hid hs1
            subst h13
            clear hsucc hz hm hy hs1
            go_wp2_with (at_builtin; refine wpList_append_own _ rfl _ _ 43 rfl w.heap.size 21 i0 _ 1 4 Try.underlying43 HI.out.1 HI.out.2.1 HI.out.2.2.1 HI.out.2.2.2 rfl (by decide) _ _ _ rfl (HO.out.1.alloc _) _ _ _ [.int .i32 10] rfl rfl (new_cells _ _ _) (by simp [Value.oneCell']) (by unfold maxLen; omega) (by omega) (Nat.le_trans HO.out.2.size (one_ok wr _).size) ?_; intro v' w4 hown' hg' _; have HF := Lib.hid (And.intro hown' (below_grown_alloc HO.out.2 HO.out.2.size hg' (fun g hg => (HO.out.1.lt g hg).1))); clear hown' hg')
            go_roundw
            case rel => exact ⟨k + 1, _, by go_num, rfl, by omega, Lib.hid ⟨by rw [HSU.out, List.length_append, List.map_append, ← HML.out]; exact HF.out.1, HF.out.2⟩⟩
            case measure => simp [intOf]; omega
        · have hn1z : ¬ (k : Int) + 1 < (n : Int) := by omega
          have hs1 : linT l (k + 1) = linT l k ++ [10] := by
            rw [hsucc]
            have e1 : linR l k = [10] := by
              unfold linR
              rw [if_neg (fun hs => hn1 (by have := (sw_crlf l k hs).2.2; rw [HL.out] at this; exact this)), if_pos (by rw [← hz, h13])]
            rw [e1]
          have HSU := Lib.hid hs1
          subst h13
          clear hsucc hz hm hs1
          go_wp2_with (at_builtin; refine wpList_append_own _ rfl _ _ 43 rfl w.heap.size 21 i0 _ 1 4 Try.underlying43 HI.out.1 HI.out.2.1 HI.out.2.2.1 HI.out.2.2.2 rfl (by decide) _ _ _ rfl (HO.out.1.alloc _) _ _ _ [.int .i32 10] rfl rfl (new_cells _ _ _) (by simp [Value.oneCell']) (by unfold maxLen; omega) (by omega) (Nat.le_trans HO.out.2.size (one_ok wr _).size) ?_; intro v' w4 hown' hg' _; have HF := Lib.hid (And.intro hown' (below_grown_alloc HO.out.2 HO.out.2.size hg' (fun g hg => (HO.out.1.lt g hg).1))); clear hown' hg')
          go_roundw
          case rel => exact ⟨k + 1, _, by go_num, rfl, by omega, Lib.hid ⟨by rw [HSU.out, List.length_append, List.map_append, ← HML.out]; exact HF.out.1, HF.out.2⟩⟩
          case measure => simp [intOf]; omega
      · rw [linR_plain l k (by rw [← hz]; exact h13), ← hz] at hsucc
        have HSU := Lib.hid hsucc
        clear hsucc hz hm
        go_wp2_with (at_builtin; refine wpList_append_own _ rfl _ _ 43 rfl w.heap.size 21 i0 _ 1 4 Try.underlying43 HI.out.1 HI.out.2.1 HI.out.2.2.1 HI.out.2.2.2 rfl (by decide) _ _ _ rfl (HO.out.1.alloc _) _ _ _ [.int .i32 z] rfl rfl (new_cells _ _ _) (by simp [Value.oneCell']) (by unfold maxLen; omega) (by omega) (Nat.le_trans HO.out.2.size (one_ok wr _).size) ?_; intro v' w4 hown' hg' _; have HF := Lib.hid (And.intro hown' (below_grown_alloc HO.out.2 HO.out.2.size hg' (fun g hg => (HO.out.1.lt g hg).1))); clear hown' hg')
        go_roundw
        case rel => exact ⟨k + 1, _, by go_num, rfl, by omega, Lib.hid ⟨by rw [HSU.out, List.length_append, List.map_append, ← HML.out]; exact HF.out.1, HF.out.2⟩⟩
        case measure => simp [intOf]; omega
    · obtain rfl : k = n := by omega
      have hkf : ¬ (k : Int) < (k : Int) := by omega
      have hpp : linT l k = linP l := by unfold linP; rw [HL.out]
      rw [hpp] at HO
      clear hlt
      go_wp2
      go_ret
      exact ⟨_, rfl, HO.out.1, HO.out.2⟩

end Go.Proofs.Ytbljgoieieoamaa
