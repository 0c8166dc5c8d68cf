/-
  The reference of layer 12: Apply, refused.
-/
import Derived.Test.YtbljgoieieoamaaSqM
import Derived.Test.YtbljgoieieoamaaSqR
namespace Go.Proofs.Ytbljgoieieoamaa
open Go.Shelf Go.RowKit Go.Lib Go.Sort
set_option linter.unusedVariables false

set_option maxHeartbeats 2000000 in
theorem raC_refused (a : Option Addr) (len cap : Nat) (v : Value) (k : Int) (hk : k ≠ 0) (w : World)
    (hS : Calls Try.prog 37 #[v] w fun e w' => e = .returned (.tuple #[.slice none 0 0, .int .i64 k]) ∧ Below w.heap.size w w') :
    Calls Try.prog 16 #[.slice a len cap, v] w fun e w' => e = .returned (.tuple #[.slice none 0 0, .slice none 0 0, .int .i64 k]) ∧ Below w.heap.size w w' := by
  have HS := Lib.hid hS
  clear hS
  go_enter Try.func16, Try.ntmps16
  go_wp2_with (go_at_call 37; (with_reducible refine HS.out.mono ?_); rintro e w2 ⟨rfl, hb2⟩; have HB := Lib.hid hb2; clear hb2)
  go_ret3
  exact ⟨rfl, HB.out⟩

set_option maxRecDepth 20000 in
set_option maxHeartbeats 4000000 in
theorem raC_beyond (a : Option Addr) (len cap : Nat) (v : Value) (n : Nat) (S : List Chg) (w : World) (hn : n ≤ 1000) (hl : S.length = n)
    (hS : Calls Try.prog 37 #[v] w fun e w' => ∃ v, e = .returned (.tuple #[v, .int .i64 0]) ∧ w'.ownsRow w.heap.size 66 3 v n (cellsC S) ∧ Below w.heap.size w w') (hbad : ∃ x ∈ S, (len : Int) < x.2.1) :
    Calls Try.prog 16 #[.slice a len cap, v] w fun e w' => e = .returned (.tuple #[.slice none 0 0, .slice none 0 0, .int .i64 3]) ∧ Below w.heap.size w w' := by
  obtain ⟨m, y, hm, hy, hpre⟩ : ∃ (m : Nat) (y : Chg), S[m]? = some y ∧ (len : Int) < y.2.1 ∧ ∀ (j : Nat) (x : Chg), j < m → S[j]? = some x → ¬ (len : Int) < x.2.1 := by
    clear hl hS
    induction S with
    | nil => obtain ⟨x, hx, _⟩ := hbad; simp at hx
    | cons z L ih =>
      by_cases hz : (len : Int) < z.2.1
      · exact ⟨0, z, rfl, hz, fun j x hj => by omega⟩
      · obtain ⟨x, hx, hb⟩ := hbad
        rcases List.mem_cons.1 hx with rfl | hx
        · exact absurd hb hz
        · obtain ⟨m, y, h1, h2, h3⟩ := ih ⟨x, hx, hb⟩
          refine ⟨m + 1, y, by simpa using h1, h2, fun j x hj hx => ?_⟩
          cases j with
          | zero => simp at hx; subst hx; exact hz
          | succ j => exact h3 j x (by omega) (by simpa using hx)
  have hmn : m < n := by rw [← hl]; exact (List.getElem?_eq_some_iff.1 hm).1
  have HS := Lib.hid hS
  have HL := Lib.hid hl
  have HM := Lib.hid (And.intro hm (And.intro hy hpre))
  clear hS hl hm hy hpre hbad
  go_enter Try.func16, Try.ntmps16
  go_wp2_with (go_at_call 37; (with_reducible refine HS.out.mono ?_); rintro e w2 ⟨v2, rfl, own2, hb2⟩; obtain ⟨a2, c2, rfl, hc2⟩ := owns_slice own2; have HAT := Lib.hid (And.intro (AtCells.of_owns own2) hb2); clear own2 hb2)
  go_loopw [10, 28] (fun _p i wr => ∃ k : Nat, i = .int .i64 k ∧ k ≤ m ∧ Hid (Below w2.heap.size w2 wr)) (fun _ i _ => n - (intOf i).toNat)
  case atStart => exact ⟨0, rfl, Nat.zero_le _, Lib.hid (Below.refl _ _)⟩
  case round =>
    obtain ⟨k, rfl, hk, HB⟩ := hrel
    obtain ⟨⟨f, t, ba, bc, bs⟩, hx⟩ : ∃ x, S[k]? = some x := ⟨_, List.getElem?_eq_getElem (by rw [HL.out]; omega)⟩
    obtain ⟨b, off, rfl, c0, c1, c2⟩ := chg_cells (HAT.out.1.below HB.out) hx
    simp only at c0 c1 c2
    have hkn2 : (k : Int) < (n : Int) := by omega
    obtain ⟨bl, hbl⟩ : ∃ bl, bl = bs.length := ⟨_, rfl⟩
    rw [← hbl] at c2
    by_cases hkm : k = m
    · have hb : (len : Int) < t := by
        have h1 := HM.out.1
        rw [← hkm, hx] at h1
        have := HM.out.2.1
        rw [← Option.some.inj h1] at this
        exact this
      clear hx hbl hkm
      go_wp2
      go_ret3
      exact ⟨rfl, (Below.more HAT.out.2 HB.out).alloc (Below.more HAT.out.2 HB.out).size _⟩
    · have hb : ¬ (len : Int) < t := by have h := HM.out.2.2 k _ (by omega) hx; simp only at h; omega
      have HB2 := Lib.hid (fun o => HB.out.alloc HB.out.size o)
      clear hx hbl
      go_wp2
      go_roundw
      case rel => exact ⟨k + 1, by go_num, by omega, Lib.hid (HB2.out _)⟩
      case measure => simp [intOf]; omega

end Go.Proofs.Ytbljgoieieoamaa
