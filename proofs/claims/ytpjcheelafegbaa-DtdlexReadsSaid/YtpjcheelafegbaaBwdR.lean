/-
  Contract of slices.Backward, at rows of runes: a range over a function, from the last one to the first.
-/
import Derived.RangeFuncNested
import Derived.RangeFuncBound
import Derived.RangeFuncCalls
import Derived.RangeFuncLeaves
import Derived.RangeFuncBox
import Derived.Shelf.Abstract
import Derived.Shelf.RegionOpen
import Derived.WalkKit
import Derived.OwnWalkIn
import Derived.TacticsInMore
import Derived.LoopNIn
import Derived.LoopIn
import Derived.Test.YtpjcheelafegbaaRows0
import Derived.Test.YtpjcheelafegbaaChecked
namespace Go.Proofs.Ytpjcheelafegbaa
open Go.RowKit Go.Shelf
set_option linter.unusedVariables false
attribute [local go_sem] Oper.semAt_some

/-- What a round that goes on keeps: all below n₀, and the iterator's own box. -/
def KpBR (n₀ Bs : Nat) (A B : World) : Prop := Below n₀ A B ∧ B.heap[Bs]? = A.heap[Bs]?
theorem KpBR.trans {n₀ Bs : Nat} {A B C : World} (h : KpBR n₀ Bs A B) (h' : KpBR n₀ Bs B C) : KpBR n₀ Bs A C := ⟨h.1.trans h'.1, h'.2.trans h.2⟩
/-! ### slices.Backward[[]rune,rune] -/
/-- What comes: an index within the row, with what stands there. -/
abbrev BxR (zs : List Int) : Type := { x : Nat × Int // x.1 < zs.length ∧ x.2 = zs[x.1]?.getD 0 }
def atR (zs : List Int) (j : Nat) (h : j < zs.length) : BxR zs := ⟨(j, zs[j]?.getD 0), h, rfl⟩
/-- What has come when the rounds from the last place down to k are over. -/
def downR (zs : List Int) (k : Nat) (hk : k ≤ zs.length) : List (BxR zs) := (List.finRange (zs.length - k)).map fun j => atR zs (zs.length - 1 - j.1) (by have := j.2; omega)
theorem downR_length (zs : List Int) (k : Nat) (hk : k ≤ zs.length) : (downR zs k hk).length = zs.length - k := by simp [downR]
theorem downR_val (zs : List Int) (k : Nat) (hk : k ≤ zs.length) : (downR zs k hk).map (·.1) = (List.range (zs.length - k)).map fun j => (zs.length - 1 - j, zs[zs.length - 1 - j]?.getD 0) := by
  apply List.ext_getElem
  · simp [downR]
  · intro i h1 h2
    simp [downR, atR]
theorem downR_succ (zs : List Int) (k : Nat) (hk : k < zs.length) : downR zs k (by omega) = downR zs (k + 1) (by omega) ++ [atR zs k hk] := by
  apply List.ext_getElem
  · simp [downR]; omega
  · intro i h1 h2
    by_cases hi : i < zs.length - (k + 1)
    · rw [List.getElem_append_left (by simp [downR]; exact hi)]
      simp [downR]
    · have e : i = zs.length - (k + 1) := by simp [downR] at h1; omega
      subst e
      rw [List.getElem_append_right (by simp [downR])]
      simp [downR, atR]
      have : zs.length - 1 - (zs.length - (k + 1)) = k := by omega
      rw [this]
      exact ⟨rfl, rfl⟩

/-- The row that lies somewhere below n₀. -/
def LiesR (n₀ : Nat) (W : World) (a : Option Addr) (zs : List Int) : Prop :=
  ∀ j, j < zs.length → ∃ b off, a = some ⟨b, off, none⟩ ∧ b < n₀ ∧ W.cell? ⟨b, off + j, none⟩ = some (.int .i32 (zs[j]?.getD 0))
theorem LiesR.below {n₀ : Nat} {A B : World} (h : Below n₀ A B) {a : Option Addr} {zs : List Int} (hl : LiesR n₀ A a zs) : LiesR n₀ B a zs := fun j hj => by
  obtain ⟨b, off, ha, hb, hc⟩ := hl j hj
  exact ⟨b, off, ha, hb, (h.cell (p := ⟨b, off + j, none⟩) hb).trans hc⟩
theorem LiesR.of_at {W : World} {a : Option Addr} {zs : List Int} (h : AtCells W a (zs.map (.int .i32))) : LiesR W.heap.size W a zs := fun j hj => by
  obtain ⟨b, off, ha, hc⟩ := h.int (k := j) hj
  exact ⟨b, off, ha, cell_lt hc, by rw [List.getD_eq_getElem?_getD] at hc; exact hc⟩

set_option maxRecDepth 100000 in
set_option maxHeartbeats 2000000 in
theorem bwdR_in (F : Fence) (n : Nat) (hf : F.fn 100) (hro : F.round = none) (hn : 1 ≤ n) (l Bs n₀ cap : Nat) (a : Option Addr) (zs : List Int) (hreach : zs.length ≤ 1000000000000) (J Jx : List (BxR zs) → World → Prop)
    (hY : ∀ pre x W, J pre W → pre.length < zs.length → YieldAt F (n - 1) Try.prog l #[.int .i64 (x.1.1 : Int), .int .i32 x.1.2] W fun e W' =>
      (e = .returned (.bool true) ∧ J (pre ++ [x]) W' ∧ KpBR n₀ Bs W W') ∨ (e = .returned (.bool false) ∧ Jx (pre ++ [x]) W'))
    (W : World) (hBs : W.cell? ⟨Bs, 0, none⟩ = some (.slice a zs.length cap)) (hc : LiesR n₀ W a zs) (h0 : J [] W) :
    CallsIn F n Try.prog 100 #[.func (.yield l) #[] #[], .pointer (some ⟨Bs, 0, none⟩)] W fun e W' => (∃ v, e = .returned v) ∧
      ((∃ ys, ys = downR zs 0 (Nat.zero_le _) ∧ J ys W') ∨ (∃ pre, (∃ k hk, pre = downR zs k hk) ∧ Jx pre W')) := by
  refine callsIn_of_wp Try.func100 rfl hf ?_ hro
  simp only [Try.ntmps100, List.size_toArray, List.length_cons, List.length_nil, Nat.reduceAdd, Nat.reduceSub, Array.replicate_succ, Array.replicate_zero, List.push_toArray, List.append_toArray, List.nil_append, List.cons_append]
  obtain ⟨m, hm⟩ : ∃ m, m = zs.length := ⟨_, rfl⟩
  have HM := Lib.hid hm
  rw [← hm] at hBs hreach
  have HC := Lib.hid hc
  have HB := Lib.hid hBs
  clear hm hc
  gi_wp2
  gi_loopw [3] (fun i wr => (∃ k : Nat, ∃ hk : k ≤ zs.length, i = .int .i64 ((k : Int) - 1) ∧ k ≤ m ∧ J (downR zs k hk) wr) ∧ KpBR n₀ Bs W wr)
    (fun i _ => (intOf i + 1).toNat)
  case atStart => exact ⟨⟨m, by rw [HM.out]; exact Nat.le_refl _, rfl, Nat.le_refl _, by
    have e : downR zs m (by rw [HM.out]; exact Nat.le_refl _) = [] := List.eq_nil_of_length_eq_zero (by rw [downR_length, HM.out]; omega)
    rw [e]; exact h0⟩, ⟨Below.refl _ _, rfl⟩⟩
  case round =>
    obtain ⟨⟨k, hk, rfl, hkm, hJs⟩, hnx⟩ := hrel
    have hbs := (World.cell?_of_block hnx.2).trans HB.out
    clear hBs
    cases k with
    | zero =>
      gi_wp2
      go_end0
      exact ⟨⟨_, rfl⟩, .inl ⟨_, rfl, hJs⟩⟩
    | succ k =>
      obtain ⟨b, off, rfl, hbn, hcx⟩ := (HC.out.below hnx.1) k (by omega)
      obtain ⟨fn, tmps, assign, body, hy, hR⟩ := hY _ (atR zs k (by omega)) wr hJs (by rw [downR_length]; omega)
      simp only [atR] at hy
      have e1 : ((k + 1 : Nat) : Int) - 1 = (k : Int) := by omega
      rw [e1]
      have i1 : (k : Int) < (m : Int) := by omega
      have HS := Lib.hid (downR_succ zs k (by omega))
      clear e1 hkm
      gi_wp2
      refine hR.mono ?_
      rintro e W3 (⟨rfl, hJ3, hk3⟩ | ⟨rfl, hJx3⟩)
      · gi_wp2
        go_roundw
        case rel => exact ⟨⟨k, by omega, rfl, by omega, by rw [HS.out]; exact hJ3⟩, hnx.trans hk3⟩
        case measure => simp [intOf]
      · gi_wp2
        refine bodyPost_ret (results_none rfl _ _ _) rfl ?_
        exact ⟨⟨_, rfl⟩, .inr ⟨_, ⟨k, by omega, HS.out.symm⟩, hJx3⟩⟩

set_option maxHeartbeats 1000000 in
theorem bwdR_at (F : Fence) (n : Nat) (hf : F.fn 96) (hro : F.round = none) (a : Option Addr) (len cap : Nat) (w : World) :
    CallsIn F n Try.prog 96 #[.slice a len cap] w fun e w' => e = .returned (.func (.func 100) #[] #[.pointer (some ⟨w.heap.size, 0, none⟩)]) ∧ w' = w.alloc (.cells #[.slice a len cap] 22) := by
  refine callsIn_of_wp Try.func96 rfl hf ?_ hro
  simp only [Try.ntmps96, List.size_toArray, List.length_cons, List.length_nil, Nat.reduceAdd, Nat.reduceSub, Array.replicate_succ, Array.replicate_zero, List.push_toArray, List.append_toArray, List.nil_append, List.cons_append]
  gi_wp2
  go_ret
  exact ⟨rfl, rfl⟩

theorem bwdR_stops (F : Fence) (n : Nat) (hf : F.fn 100) (hro : F.round = none) (hn : 1 ≤ n) (Bs n₀ cap : Nat) (a : Option Addr) (zs : List Int) (hreach : zs.length ≤ 1000000000000) (w : World) (hBs : Bs < w.heap.size) (hn₀ : n₀ ≤ w.heap.size)
    (hc : w.cell? ⟨Bs, 0, none⟩ = some (.slice a zs.length cap)) (hI : LiesR n₀ w a zs) :
    SeqStopsK F n Try.prog 100 #[.pointer (some ⟨Bs, 0, none⟩)] (fun x : BxR zs => #[Value.int .i64 (x.1.1 : Int), Value.int .i32 x.1.2]) (KpBR n₀ Bs) (fun ys => ys = downR zs 0 (Nat.zero_le _))
      (fun pre => ∃ k hk, pre = downR zs k hk) zs.length w := fun l J Jx W hW _ _ hY h0 => by
  exact bwdR_in F n hf hro hn l Bs n₀ cap a zs hreach J Jx hY W ((hW.cell (p := ⟨Bs, 0, none⟩) hBs).trans hc) (hI.below (hW.mono hn₀)) h0

end Go.Proofs.Ytpjcheelafegbaa
