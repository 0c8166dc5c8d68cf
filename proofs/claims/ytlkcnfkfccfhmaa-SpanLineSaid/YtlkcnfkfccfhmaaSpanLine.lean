/-
  SpanLine: the walk.
-/
import Derived.Test.YtlkcnfkfccfhmaaSpG
namespace Go.Proofs.Ytlkcnfkfccfhmaa
open Go.RowKit
set_option linter.unusedVariables false

set_option maxHeartbeats 1000000 in
theorem spanLine_walk (a : Option Addr) (n cap : Nat) (zs : List Int) (k : Int) (w : World) (hn : zs.length = n) (hc : n ≤ cap) (hm : cap ≤ maxLen) (hat : AtCells w a (zs.map (.int .i32))) :
    Calls Try.prog 5 #[.slice a n cap, .int .i64 k] w fun e w' => e = .returned (.bool true) ∧ Below w.heap.size w w' := by
  obtain ⟨m, hmm⟩ : ∃ m, m = min n 80 := ⟨_, rfl⟩
  have hat' := hat.take m
  rw [← List.map_take] at hat'
  have hlen : (zs.take m).length = m := by rw [List.length_take]; omega
  generalize zs.take m = ys at hat' hlen
  have HL := Lib.hid (lines_any a m cap ys w hlen (by omega) (by omega) hm hat')
  have HLN := Lib.hid (fun w' (hb : Below w.heap.size w w') => line_any a m cap ys k w' hlen (by omega) (by omega) hm (hat'.below hb))
  obtain ⟨x, hx⟩ : ∃ x, x = clampN k m := ⟨_, rfl⟩
  have hx2 : x = min k.toNat m := hx
  rw [← hx] at HLN
  have HG := Lib.hid (lcCells_get ys (m + 1) x (by omega))
  have hX := hx2
  obtain ⟨p, q, HP⟩ : ∃ p q : Int, Hid (p = (lc ys x).1 ∧ q = (lc ys x).2) := ⟨_, _, Lib.hid ⟨rfl, rfl⟩⟩
  have HLN2 : Hid (∀ w', Below w.heap.size w w' → Calls Try.prog 16 #[.slice a m cap, .int .i64 k] w' fun e w2 => e = .returned (.tuple #[.int .i64 p, .int .i64 q]) ∧ w' = w2) := Lib.hid (fun w' hb => by rw [HP.out.1, HP.out.2]; exact HLN.out w' hb)
  unfold maxLen at hm
  clear hat hn hat' hlen hx hx2 HLN
  by_cases h80 : n ≤ 80
  · obtain rfl : n = m := by omega
    by_cases hk0 : k < 0
    · obtain rfl : x = 0 := by omega
      clear hmm hX
      go_enter Try.func5, Try.ntmps5
      go_wp2_with (first
        | (go_at_call 15; (with_reducible refine HL.out.mono ?_); rintro e w1 ⟨v, rfl, hown, hb1⟩; obtain ⟨va, vc, rfl, hvc⟩ := owns_slice hown; have hcc := AtCells.of_owns hown; obtain ⟨b, off, rfl, c1⟩ := hcc _ _ HG.out.1; obtain ⟨b', off', hy, c2⟩ := hcc _ _ HG.out.2; simp only [Option.some.injEq, Addr.mk.injEq] at hy; obtain ⟨rfl, rfl, _⟩ := hy; rw [← Nat.add_assoc] at c2; rw [← HP.out.1] at c1; rw [← HP.out.2] at c2; simp only [Nat.zero_mul, Nat.add_zero] at c1 c2; have HB1 := Lib.hid hb1; clear hown hcc hb1)
        | (go_at_call 16; (with_reducible refine (HLN2.out _ (HB1.out.alloc HB1.out.size _)).mono ?_); rintro e w2 ⟨rfl, rfl⟩)
        | (go_at_call 13; (with_reducible refine (awake_any _).mono ?_); rintro e w3 ⟨rfl, hb3⟩))
      go_ret
      exact ⟨rfl, Below.more (HB1.out.alloc HB1.out.size _) hb3⟩
    · have hk1 : 0 ≤ k := by omega
      clear hk0
      by_cases hkn : (n : Int) < k
      · obtain rfl : n = x := by omega
        clear hmm hX
        go_enter Try.func5, Try.ntmps5
        go_wp2_with (first
          | (go_at_call 15; (with_reducible refine HL.out.mono ?_); rintro e w1 ⟨v, rfl, hown, hb1⟩; obtain ⟨va, vc, rfl, hvc⟩ := owns_slice hown; have hcc := AtCells.of_owns hown; obtain ⟨b, off, rfl, c1⟩ := hcc _ _ HG.out.1; obtain ⟨b', off', hy, c2⟩ := hcc _ _ HG.out.2; simp only [Option.some.injEq, Addr.mk.injEq] at hy; obtain ⟨rfl, rfl, _⟩ := hy; rw [← Nat.add_assoc] at c2; rw [← HP.out.1] at c1; rw [← HP.out.2] at c2; have HB1 := Lib.hid hb1; clear hown hcc hb1)
          | (go_at_call 16; (with_reducible refine (HLN2.out _ (HB1.out.alloc HB1.out.size _)).mono ?_); rintro e w2 ⟨rfl, rfl⟩)
          | (go_at_call 13; (with_reducible refine (awake_any _).mono ?_); rintro e w3 ⟨rfl, hb3⟩))
        go_ret
        exact ⟨rfl, Below.more (HB1.out.alloc HB1.out.size _) hb3⟩
      · obtain rfl : k = x := by omega
        have hkn' : (x : Int) ≤ n := by omega
        clear hmm hX hkn hk1
        go_enter Try.func5, Try.ntmps5
        go_wp2_with (first
          | (go_at_call 15; (with_reducible refine HL.out.mono ?_); rintro e w1 ⟨v, rfl, hown, hb1⟩; obtain ⟨va, vc, rfl, hvc⟩ := owns_slice hown; have hcc := AtCells.of_owns hown; obtain ⟨b, off, rfl, c1⟩ := hcc _ _ HG.out.1; obtain ⟨b', off', hy, c2⟩ := hcc _ _ HG.out.2; simp only [Option.some.injEq, Addr.mk.injEq] at hy; obtain ⟨rfl, rfl, _⟩ := hy; rw [← Nat.add_assoc] at c2; rw [← HP.out.1] at c1; rw [← HP.out.2] at c2; have HB1 := Lib.hid hb1; clear hown hcc hb1)
          | (go_at_call 16; (with_reducible refine (HLN2.out _ (HB1.out.alloc HB1.out.size _)).mono ?_); rintro e w2 ⟨rfl, rfl⟩)
          | (go_at_call 13; (with_reducible refine (awake_any _).mono ?_); rintro e w3 ⟨rfl, hb3⟩))
        go_ret
        exact ⟨rfl, Below.more (HB1.out.alloc HB1.out.size _) hb3⟩
  · obtain rfl : m = 80 := by omega
    have h80' : 80 < n := by omega
    by_cases hk0 : k < 0
    · obtain rfl : x = 0 := by omega
      clear hmm hX h80
      go_enter Try.func5, Try.ntmps5
      go_wp2_with (first
        | (go_at_call 15; (with_reducible refine HL.out.mono ?_); rintro e w1 ⟨v, rfl, hown, hb1⟩; obtain ⟨va, vc, rfl, hvc⟩ := owns_slice hown; have hcc := AtCells.of_owns hown; obtain ⟨b, off, rfl, c1⟩ := hcc _ _ HG.out.1; obtain ⟨b', off', hy, c2⟩ := hcc _ _ HG.out.2; simp only [Option.some.injEq, Addr.mk.injEq] at hy; obtain ⟨rfl, rfl, _⟩ := hy; rw [← Nat.add_assoc] at c2; rw [← HP.out.1] at c1; rw [← HP.out.2] at c2; simp only [Nat.zero_mul, Nat.add_zero] at c1 c2; have HB1 := Lib.hid hb1; clear hown hcc hb1)
        | (go_at_call 16; (with_reducible refine (HLN2.out _ (HB1.out.alloc HB1.out.size _)).mono ?_); rintro e w2 ⟨rfl, rfl⟩)
        | (go_at_call 13; (with_reducible refine (awake_any _).mono ?_); rintro e w3 ⟨rfl, hb3⟩))
      go_ret
      exact ⟨rfl, Below.more (HB1.out.alloc HB1.out.size _) hb3⟩
    · have hk1 : 0 ≤ k := by omega
      clear hk0
      by_cases hkn : 80 < k
      · obtain rfl : x = 80 := by omega
        clear hmm hX h80
        go_enter Try.func5, Try.ntmps5
        go_wp2_with (first
          | (go_at_call 15; (with_reducible refine HL.out.mono ?_); rintro e w1 ⟨v, rfl, hown, hb1⟩; obtain ⟨va, vc, rfl, hvc⟩ := owns_slice hown; have hcc := AtCells.of_owns hown; obtain ⟨b, off, rfl, c1⟩ := hcc _ _ HG.out.1; obtain ⟨b', off', hy, c2⟩ := hcc _ _ HG.out.2; simp only [Option.some.injEq, Addr.mk.injEq] at hy; obtain ⟨rfl, rfl, _⟩ := hy; rw [← Nat.add_assoc] at c2; rw [← HP.out.1] at c1; rw [← HP.out.2] at c2; simp only [Nat.reduceMul] at c1 c2; have HB1 := Lib.hid hb1; clear hown hcc hb1)
          | (go_at_call 16; (with_reducible refine (HLN2.out _ (HB1.out.alloc HB1.out.size _)).mono ?_); rintro e w2 ⟨rfl, rfl⟩)
          | (go_at_call 13; (with_reducible refine (awake_any _).mono ?_); rintro e w3 ⟨rfl, hb3⟩))
        go_ret
        exact ⟨rfl, Below.more (HB1.out.alloc HB1.out.size _) hb3⟩
      · obtain rfl : k = x := by omega
        have hkn' : (x : Int) ≤ 80 := by omega
        clear hmm hX hkn hk1 h80
        go_enter Try.func5, Try.ntmps5
        go_wp2_with (first
          | (go_at_call 15; (with_reducible refine HL.out.mono ?_); rintro e w1 ⟨v, rfl, hown, hb1⟩; obtain ⟨va, vc, rfl, hvc⟩ := owns_slice hown; have hcc := AtCells.of_owns hown; obtain ⟨b, off, rfl, c1⟩ := hcc _ _ HG.out.1; obtain ⟨b', off', hy, c2⟩ := hcc _ _ HG.out.2; simp only [Option.some.injEq, Addr.mk.injEq] at hy; obtain ⟨rfl, rfl, _⟩ := hy; rw [← Nat.add_assoc] at c2; rw [← HP.out.1] at c1; rw [← HP.out.2] at c2; have HB1 := Lib.hid hb1; clear hown hcc hb1)
          | (go_at_call 16; (with_reducible refine (HLN2.out _ (HB1.out.alloc HB1.out.size _)).mono ?_); rintro e w2 ⟨rfl, rfl⟩)
          | (go_at_call 13; (with_reducible refine (awake_any _).mono ?_); rintro e w3 ⟨rfl, hb3⟩))
        go_ret
        exact ⟨rfl, Below.more (HB1.out.alloc HB1.out.size _) hb3⟩

end Go.Proofs.Ytlkcnfkfccfhmaa
