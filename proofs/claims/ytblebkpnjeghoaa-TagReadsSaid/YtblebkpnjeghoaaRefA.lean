/-
  Contracts of the reference's layers 7 and 8: Starts, quoted.
-/
import Derived.Test.YtblebkpnjeghoaaTagR
namespace Go.Proofs.Ytblebkpnjeghoaa
open Go.RowKit
set_option linter.unusedVariables false

set_option maxRecDepth 100000 in
set_option maxHeartbeats 1000000 in
theorem refStarts_any (b off n cap : Nat) (l : List Int) (k : Nat) (s : ByteArray) (w : World) (hn : l.length = n) (hc : n ≤ cap) (hm : cap ≤ maxLen) (hk : k ≤ n) (hs : s.size ≤ 100) (ha : ∀ j (h : j < s.size), (s[j]).toNat < 128) (hat : AtCells w (some ⟨b, off, none⟩) (l.map (.int .i32))) (hwf : ∀ j, -2147483648 ≤ l.getD j 0 ∧ l.getD j 0 ≤ 2147483647) :
    Calls Try.prog 52 #[.slice (some ⟨b, off, none⟩) n cap, .int .i64 k, .string s] w fun e w' => e = .returned (.bool (sw (sg s) (l.drop k))) ∧ ∃ m, w' = w.drewN m := by
  unfold maxLen at hm
  have HSG := Lib.hid (sg_get s)
  have HSL := Lib.hid (sg_length s)
  have HLD := Lib.hid (show (l.drop k).length = n - k by rw [List.length_drop, hn])
  have HAT := Lib.hid hat
  have HN := Lib.hid hn
  have HA := Lib.hid ha
  have HW := Lib.hid hwf
  clear hat hn ha hwf
  by_cases hlen : n - k < s.size
  · have HR := Lib.hid (show sw (sg s) (l.drop k) = false from sw_short (by rw [HLD.out, HSL.out]; exact hlen))
    have hlen' : (n : Int) - k < s.size := by omega
    go_enter Try.func52, Try.ntmps52
    go_wp2
    go_ret
    exact ⟨by rw [HR.out]; rfl, 0, rfl⟩
  · have hlen' : ¬ (n : Int) - k < s.size := by omega
    go_enter Try.func52, Try.ntmps52
    go_wp2
    go_loopw [7] (fun i wr => ∃ j m : Nat, j ≤ s.size ∧ i = .int .i64 j ∧ wr = w.drewN m ∧ Hid (∀ x, x < j → (l.drop k).getD x 0 = (sg s).getD x 0)) (fun i _ => s.size - (intOf i).toNat)
    case atStart => exact ⟨0, 0, by omega, rfl, rfl, Lib.hid (fun x hx => by omega)⟩
    case round =>
      obtain ⟨j, m, hj, rfl, rfl, HJ⟩ := hrel
      by_cases hlt : j < s.size
      · have hc0 := HAT.out.drop k
        rw [← List.map_drop] at hc0
        obtain ⟨b', off', hy, hc1⟩ := hc0.int (k := j) (by rw [HLD.out]; omega)
        simp only [Option.some.injEq, Addr.mk.injEq] at hy
        obtain ⟨rfl, rfl, _⟩ := hy
        rw [Nat.add_assoc] at hc1
        have hwz := HW.out (k + j)
        rw [show l.getD (k + j) 0 = (l.drop k).getD j 0 by simp] at hwz
        obtain ⟨z, hz⟩ : ∃ z, z = (l.drop k).getD j 0 := ⟨_, rfl⟩
        rw [← hz] at hc1 hwz
        obtain ⟨hw1, hw2⟩ := hwz
        have hlow := HA.out j hlt
        have hsgj := HSG.out j hlt
        have hkj : (k : Int) + j < n := by omega
        have hge : ((127 : Int) < ((s[j]).toNat : Int)) = False := eq_false (by omega)
        have hge2 : (127 < (s[j]).toNat) = False := eq_false (by omega)
        by_cases he : z = ((s[j]).toNat : Int)
        · have HK := Lib.hid (show ∀ x, x < j + 1 → (l.drop k).getD x 0 = (sg s).getD x 0 from fun x hx => by
            by_cases h : x = j
            · subst h; rw [← hz, hsgj]; exact he
            · exact HJ.out x (by omega))
          subst he
          clear hz hsgj hc0
          go_wp2
          have ek : IntKind.i64.wrap ((k : Int) + j) = (k : Int) + j := IntWalk.i64_in _ (by omega)
          have ei : IntKind.i64.wrap ((s[j]).toNat : Int) = ((s[j]).toNat : Int) := IntWalk.i64_in _ (by omega)
          have e0 : (0 : Int) ≤ (k : Int) + j := by omega
          have et : ((k : Int) + (j : Int)).toNat = k + j := by omega
          go_quiet (fail)
          clear e0 et ek ei hge hge2
          go_wp2
          go_roundw
          case rel => exact ⟨j + 1, m + nq, by omega, by go_num, by first | rfl | exact World.drewN_drewN .., HK⟩
          case measure => simp [intOf]; omega
        · have HR := Lib.hid (show sw (sg s) (l.drop k) = false from sw_no j (by rw [HSL.out]; exact hlt) (by rw [← hz, hsgj]; exact he))
          clear hz hsgj hc0
          go_wp2
          have ek : IntKind.i64.wrap ((k : Int) + j) = (k : Int) + j := IntWalk.i64_in _ (by omega)
          have ei : IntKind.i64.wrap ((s[j]).toNat : Int) = ((s[j]).toNat : Int) := IntWalk.i64_in _ (by omega)
          have ez : IntKind.i64.wrap z = z := IntWalk.i64_in _ (by omega)
          have e0 : (0 : Int) ≤ (k : Int) + j := by omega
          have et : ((k : Int) + (j : Int)).toNat = k + j := by omega
          go_quiet (fail)
          clear e0 et ek ei ez hge hge2
          have hq : ((z : Int) != ((s[j]).toNat : Int)) = true := by simpa using he
          go_wp2
          go_ret
          exact ⟨by rw [HR.out]; rfl, m + nq, by first | rfl | exact World.drewN_drewN ..⟩
      · obtain rfl : j = s.size := by omega
        have HR := Lib.hid (show sw (sg s) (l.drop k) = true from sw_of (by rw [HLD.out, HSL.out]; omega) (fun x hx => HJ.out x (by rw [HSL.out] at hx; exact hx)))
        clear hj hlt
        go_wp2
        go_ret
        exact ⟨by rw [HR.out]; rfl, m, rfl⟩

theorem sw_one {z : Int} {l : List Int} (h : 0 < l.length) : sw [z] l = decide (l.getD 0 0 = z) := by
  cases l with
  | nil => simp at h
  | cons r l => rw [Bool.eq_iff_iff]; simp [sw]
def quoV (k : Nat) (o : Option Nat) : Int := match o with | some q => (k : Int) + q + 2 | none => -1

set_option maxRecDepth 100000 in
set_option maxHeartbeats 1000000 in
theorem quoted_any {b off n cap : Nat} {l : List Int} {w : World} (R : RRow w b off n cap l) (k t : Nat) (hk : k < t) (ht : t ≤ n) (z : Int) (hz : l.getD k 0 = z) {o : Option Nat} (ho : fnd [z] ((l.take t).drop (k + 1)) = o) :
    Calls Try.prog 120 #[.slice (some ⟨b, off, none⟩) n cap, .int .i64 k, .int .i64 t] w fun e w' => e = .returned (.int .i64 (quoV k o)) ∧ ∃ m, w' = w.drewN m := by
  have hm := R.max
  have hc := R.le
  unfold maxLen at hm
  obtain ⟨b', off', hy, hc0⟩ := R.cells.int (k := k) (by rw [R.len]; omega)
  simp only [Option.some.injEq, Addr.mk.injEq] at hy
  obtain ⟨rfl, rfl, _⟩ := hy
  rw [hz] at hc0
  have HR := Lib.hid R
  have HO := Lib.hid ho
  have hlm : ((l.take t).drop (k + 1)).length = t - (k + 1) := by rw [List.length_drop, List.length_take, R.len]; omega
  have HLM := Lib.hid hlm
  have HSW := Lib.hid (show ∀ x, k + 1 + x < t → sw [z] (((l.take t).drop (k + 1)).drop x) = decide (l.getD (k + 1 + x) 0 = z) from fun x hx => by
    rw [sw_one (by rw [List.length_drop, hlm]; omega)]
    congr 2
    rw [dd, List.getD_eq_getElem?_getD, List.getD_eq_getElem?_getD, List.getElem?_drop, List.getElem?_take, if_pos (by omega)]
    simp)
  clear R ho hz hlm
  go_enter Try.func120, Try.ntmps120
  go_wp2
  go_loopw [7] (fun i wr => ∃ j m : Nat, i = .int .i64 ((k + 1 + j : Nat)) ∧ k + 1 + j ≤ t ∧ wr = w.drewN m ∧ Hid (∀ x, x < j → sw [z] (((l.take t).drop (k + 1)).drop x) = false)) (fun i _ => t - (intOf i).toNat)
  case atStart => exact ⟨0, 0, by go_num, by omega, rfl, Lib.hid (fun x hx => by omega)⟩
  case round =>
    obtain ⟨j, m, rfl, hj, rfl, HJ⟩ := hrel
    obtain ⟨i, hi⟩ : ∃ i, i = k + 1 + j := ⟨_, rfl⟩
    rw [← hi] at hj ⊢
    have HI := Lib.hid hi
    by_cases hlt : i < t
    · obtain ⟨b', off', hy, hc1⟩ := HR.out.cells.int (k := i) (by rw [HR.out.len]; omega)
      simp only [Option.some.injEq, Addr.mk.injEq] at hy
      obtain ⟨rfl, rfl, _⟩ := hy
      have hsw := HSW.out j (by omega)
      rw [← hi] at hsw
      obtain ⟨y, hy⟩ : ∃ y, y = l.getD i 0 := ⟨_, rfl⟩
      rw [← hy] at hc1 hsw
      clear hi hy
      by_cases he : y = z
      · have HF := Lib.hid (show o = some j by rw [← HO.out]; exact fnd_some [z] (by simp) _ j HJ.out (by rw [hsw]; exact decide_eq_true he))
        subst he
        clear hsw
        go_wp2
        go_quiet (fail)
        go_wp2
        go_ret
        rw [HF.out]
        exact ⟨ret_num (by have := HI.out; unfold quoV; simp only; omega), m + nq, by first | rfl | exact World.drewN_drewN ..⟩
      · have HK := Lib.hid (show ∀ x, x < j + 1 → sw [z] (((l.take t).drop (k + 1)).drop x) = false from fun x hx => by
          by_cases h : x = j
          · subst h; rw [hsw]; exact decide_eq_false he
          · exact HJ.out x (by omega))
        have hq : ((y : Int) == z) = false := by simpa using he
        clear hsw
        go_wp2
        go_quiet (fail)
        go_wp2
        go_roundw
        case rel => exact ⟨j + 1, m + nq, by have := HI.out; go_num, by have := HI.out; omega, by first | rfl | exact World.drewN_drewN .., HK⟩
        case measure => simp [intOf]; omega
    · obtain rfl : i = t := by omega
      have HF := Lib.hid (show o = none by rw [← HO.out]; exact fnd_none [z] (by simp) _ (fun x hx => HJ.out x (by rw [HLM.out] at hx; simp at hx; omega)))
      clear hi
      go_wp2
      go_ret
      rw [HF.out]
      exact ⟨rfl, m, rfl⟩

end Go.Proofs.Ytblebkpnjeghoaa
