/-
  NameWords: the walk.
-/
import Derived.Test.YtlkcnfkfccfhmaaDoorNmX
namespace Go.Proofs.YtlkcnfkfccfhmaaDoor
open Go.RowKit
set_option linter.unusedVariables false

theorem word_at {w : World} {a : Option Addr} {l : List ByteArray} (h : AtCells w a (l.map Value.string)) {k : Nat} (hk : k < l.length) :
    ∃ b off, a = some ⟨b, off, none⟩ ∧ w.cell? ⟨b, off + k, none⟩ = some (.string l[k]) :=
  h k _ (by simp [hk])

set_option maxHeartbeats 1000000 in
theorem nameWords_walk (s0 : ByteArray) (w : World) (hT : Tabs w) (hs0 : s0.size ≤ maxLen) :
    Calls Tryd.prog 7 #[.string s0] w fun e w' => e = .returned (.bool true) ∧ Below w.heap.size w w' := by
  have HS := Lib.hid (shortC s0 w hs0)
  have hs : (cutS s0).size ≤ 200 := Nat.le_trans (cutS_size s0) (by omega)
  generalize cutS s0 = s at HS hs
  have H1 := wordsC s w hs
  have H2 := fun w' => refWordsC s w' hs
  have HAW := Lib.hid (fun w' (hb : Below w.heap.size w w') => awakeC w' (tabs_below hT hb))
  generalize wordsS s = l at H1 H2
  obtain ⟨n, hn⟩ : ∃ n, n = l.length := ⟨_, rfl⟩
  have HL := Lib.hid hn
  have H1 := Lib.hid H1
  have H2 := Lib.hid H2
  clear hT hn
  go_enter Tryd.func7, Tryd.ntmps7
  go_wp2_with (first
    | (go_at_call 9; (with_reducible refine HS.out.mono ?_); rintro e w1 ⟨rfl, rfl⟩)
    | (go_at_call 22; (refine H1.out.mono ?_); rintro e w2 ⟨v2, rfl, hown2, hb2⟩; rw [← HL.out] at hown2; obtain ⟨a2, c2, rfl, hc2⟩ := owns_slice hown2; have HA2 := Lib.hid (AtCells.of_owns hown2); have HB2 := Lib.hid hb2; have hm2 := owns_cap hown2; clear hown2 hb2)
    | (go_at_call 23; (refine (H2.out _).mono ?_); rintro e w3 ⟨v3, rfl, hown3, hb3⟩; rw [← HL.out] at hown3; obtain ⟨a3, c3, rfl, hc3⟩ := owns_slice hown3; have HA3 := Lib.hid (AtCells.of_owns hown3); have HA22 := Lib.hid (HA2.out.below hb3); have HB3 := Lib.hid (HB2.out.trans (hb3.mono HB2.out.size)); clear hown3 hb3))
  unfold maxLen at hm2
  go_loopw [5, 19] (fun _i5 i wr => ∃ k : Nat, k ≤ n ∧ i = .int .i64 k ∧ Below w3.heap.size w3 wr) (fun _ i _ => n - (intOf i).toNat)
  case atStart => exact ⟨0, Nat.zero_le _, rfl, Below.refl _ _⟩
  case round =>
    obtain ⟨k, hk, rfl, hbl⟩ := hrel
    by_cases hlt : k < n
    · have hkl : k < l.length := by rw [← HL.out]; exact hlt
      obtain ⟨b, off, rfl, q1⟩ := word_at (HA22.out.below hbl) hkl
      obtain ⟨b', off', rfl, q2⟩ := word_at (HA3.out.below hbl) hkl
      generalize l[k] = t at q1 q2
      have HBL := Lib.hid hbl
      have hki : (k : Int) < (n : Int) := by omega
      clear hbl hkl
      go_wp2_with fail
      go_quiet (fail)
      go_wp2
      go_roundw
      case rel => exact ⟨k + 1, by omega, by go_num, bel_drewN HBL.out _⟩
      case measure => simp [intOf]; omega
    · obtain rfl : k = n := by omega
      have HBX := Lib.hid (HB3.out.trans (hbl.mono HB3.out.size))
      clear hlt hbl
      go_wp2_with (go_at_call 16; (with_reducible refine (HAW.out _ HBX.out).mono ?_); rintro e w9 ⟨rfl, hb9⟩)
      go_ret
      exact ⟨rfl, HBX.out.trans (hb9.mono HBX.out.size)⟩

end Go.Proofs.YtlkcnfkfccfhmaaDoor
