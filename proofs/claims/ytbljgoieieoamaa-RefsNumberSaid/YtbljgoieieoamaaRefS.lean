/-
  Contracts of the reference's layer 7: Starts; what the reference's later layers share.
-/
import Derived.Test.YtbljgoieieoamaaLexS
import Derived.Test.YtbljgoieieoamaaGen0
namespace Go.Proofs.Ytbljgoieieoamaa
open Go.RowKit
set_option linter.unusedVariables false

set_option maxRecDepth 100000 in
set_option maxHeartbeats 1000000 in
theorem refStarts_any (b off n cap : Nat) (l : List Int) (k : Nat) (s : ByteArray) (w : World) (hn : l.length = n) (hc : n ≤ cap) (hm : cap ≤ maxLen) (hk : k ≤ n) (hs : s.size ≤ 100) (ha : ∀ j (h : j < s.size), (s[j]).toNat < 128) (hat : AtCells w (some ⟨b, off, none⟩) (l.map (.int .i32))) (hwf : ∀ j, -2147483648 ≤ l.getD j 0 ∧ l.getD j 0 ≤ 2147483647) :
    Calls Try.prog 61 #[.slice (some ⟨b, off, none⟩) n cap, .int .i64 k, .string s] w fun e w' => e = .returned (.bool (sw (sg s) (l.drop k))) ∧ ∃ m, w' = w.drewN m := by
  unfold maxLen at hm
  have HSG := Lib.hid (sg_get s)
  have HSL := Lib.hid (sg_length s)
  have HLD := Lib.hid (show (l.drop k).length = n - k by rw [List.length_drop, hn])
  have HAT := Lib.hid hat
  have HN := Lib.hid hn
  have HA := Lib.hid ha
  have HW := Lib.hid hwf
  clear hat hn ha hwf
  by_cases hlen : n - k < s.size
  · have HR := Lib.hid (show sw (sg s) (l.drop k) = false from sw_short (by rw [HLD.out, HSL.out]; exact hlen))
    have hlen' : (n : Int) - k < s.size := by omega
    go_enter Try.func61, Try.ntmps61
    go_wp2
    go_ret
    exact ⟨by rw [HR.out]; rfl, 0, rfl⟩
  · have hlen' : ¬ (n : Int) - k < s.size := by omega
    go_enter Try.func61, Try.ntmps61
    go_wp2
    go_loopw [7] (fun i wr => ∃ j m : Nat, j ≤ s.size ∧ i = .int .i64 j ∧ wr = w.drewN m ∧ Hid (∀ x, x < j → (l.drop k).getD x 0 = (sg s).getD x 0)) (fun i _ => s.size - (intOf i).toNat)
    case atStart => exact ⟨0, 0, by omega, rfl, rfl, Lib.hid (fun x hx => by omega)⟩
    case round =>
      obtain ⟨j, m, hj, rfl, rfl, HJ⟩ := hrel
      by_cases hlt : j < s.size
      · have hc0 := HAT.out.drop k
        rw [← List.map_drop] at hc0
        obtain ⟨b', off', hy, hc1⟩ := hc0.int (k := j) (by rw [HLD.out]; omega)
        simp only [Option.some.injEq, Addr.mk.injEq] at hy
        obtain ⟨rfl, rfl, _⟩ := hy
        rw [Nat.add_assoc] at hc1
        have hwz := HW.out (k + j)
        rw [show l.getD (k + j) 0 = (l.drop k).getD j 0 by simp] at hwz
        obtain ⟨z, hz⟩ : ∃ z, z = (l.drop k).getD j 0 := ⟨_, rfl⟩
        rw [← hz] at hc1 hwz
        obtain ⟨hw1, hw2⟩ := hwz
        have hlow := HA.out j hlt
        have hsgj := HSG.out j hlt
        have hkj : (k : Int) + j < n := by omega
        have hge : ((127 : Int) < ((s[j]).toNat : Int)) = False := eq_false (by omega)
        have hge2 : (127 < (s[j]).toNat) = False := eq_false (by omega)
        by_cases he : z = ((s[j]).toNat : Int)
        · have HK := Lib.hid (show ∀ x, x < j + 1 → (l.drop k).getD x 0 = (sg s).getD x 0 from fun x hx => by
            by_cases h : x = j
            · subst h; rw [← hz, hsgj]; exact he
            · exact HJ.out x (by omega))
          subst he
          clear hz hsgj hc0
          go_wp2
          have ek : IntKind.i64.wrap ((k : Int) + j) = (k : Int) + j := IntWalk.i64_in _ (by omega)
          have ei : IntKind.i64.wrap ((s[j]).toNat : Int) = ((s[j]).toNat : Int) := IntWalk.i64_in _ (by omega)
          have e0 : (0 : Int) ≤ (k : Int) + j := by omega
          have et : ((k : Int) + (j : Int)).toNat = k + j := by omega
          go_quiet (fail)
          clear e0 et ek ei hge hge2
          go_wp2
          go_roundw
          case rel => exact ⟨j + 1, m + nq, by omega, by go_num, by first | rfl | exact World.drewN_drewN .., HK⟩
          case measure => simp [intOf]; omega
        · have HR := Lib.hid (show sw (sg s) (l.drop k) = false from sw_no j (by rw [HSL.out]; exact hlt) (by rw [← hz, hsgj]; exact he))
          clear hz hsgj hc0
          go_wp2
          have ek : IntKind.i64.wrap ((k : Int) + j) = (k : Int) + j := IntWalk.i64_in _ (by omega)
          have ei : IntKind.i64.wrap ((s[j]).toNat : Int) = ((s[j]).toNat : Int) := IntWalk.i64_in _ (by omega)
          have ez : IntKind.i64.wrap z = z := IntWalk.i64_in _ (by omega)
          have e0 : (0 : Int) ≤ (k : Int) + j := by omega
          have et : ((k : Int) + (j : Int)).toNat = k + j := by omega
          go_quiet (fail)
          clear e0 et ek ei ez hge hge2
          have hq : ((z : Int) != ((s[j]).toNat : Int)) = true := by simpa using he
          go_wp2
          go_ret
          exact ⟨by rw [HR.out]; rfl, m + nq, by first | rfl | exact World.drewN_drewN ..⟩
      · obtain rfl : j = s.size := by omega
        have HR := Lib.hid (show sw (sg s) (l.drop k) = true from sw_of (by rw [HLD.out, HSL.out]; omega) (fun x hx => HJ.out x (by rw [HSL.out] at hx; exact hx)))
        clear hj hlt
        go_wp2
        go_ret
        exact ⟨by rw [HR.out]; rfl, m, rfl⟩

theorem sw_one {z : Int} {l : List Int} (h : 0 < l.length) : sw [z] l = decide (l.getD 0 0 = z) := by
  cases l with
  | nil => simp at h
  | cons r l => rw [Bool.eq_iff_iff]; simp [sw]
section
variable {b off n cap : Nat} {l : List Int} {W : World}
theorem refLeadB (R : RRow W b off n cap l) (k : Nat) {q : Nat} (hq : leadP (l.drop k) = q) (w : World) (hb : Below W.heap.size W w) :
    Says 86 #[.slice (some ⟨b, off, none⟩) n cap, .int .i64 k] (.int .i64 q) W w :=
  (refLead_any (some ⟨b, off, none⟩) n cap l k w R.len R.le R.max (R.below hb).cells).mono fun e w' ⟨he, hw⟩ => ⟨by rw [he, lead_drop, hq], hw ▸ hb⟩
theorem refStartsB (R : RRow W b off n cap l) (hwf : ∀ j, -2147483648 ≤ l.getD j 0 ∧ l.getD j 0 ≤ 2147483647) {s : ByteArray} (S : Sign s) (k : Nat) (hk : k ≤ n) {v : Bool} (hv : sw (sg s) (l.drop k) = v) (w : World) (hb : Below W.heap.size W w) :
    Says 61 #[.slice (some ⟨b, off, none⟩) n cap, .int .i64 k, .string s] (.bool v) W w :=
  (refStarts_any b off n cap l k s w R.len R.le R.max hk (by have := S.small; omega) S.low (R.below hb).cells hwf).mono fun e w' ⟨he, m, hw⟩ => ⟨by rw [he, hv], hw ▸ below_drewN hb m⟩
theorem RRow.cut {w : World} (R : RRow w b off n cap l) (t : Nat) (ht : t ≤ n) : RRow w b off t cap (l.take t) := ⟨by rw [List.length_take, R.len]; omega, by have := R.le; omega, R.max, by rw [List.map_take]; exact R.cells.take t⟩
end

end Go.Proofs.Ytbljgoieieoamaa
