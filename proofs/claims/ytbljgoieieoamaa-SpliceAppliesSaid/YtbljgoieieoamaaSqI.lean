/-
  Apply, refused; are changes the document's?
-/
import Derived.Test.YtbljgoieieoamaaSqH
import Derived.Test.YtbljgoieieoamaaStrB
namespace Go.Proofs.Ytbljgoieieoamaa
open Go.Shelf Go.RowKit Go.Lib Go.Sort
set_option linter.unusedVariables false

set_option maxHeartbeats 2000000 in
theorem apC_refused (a : Option Addr) (len cap : Nat) (v : Value) (k : Int) (hk : k ≠ 0) (w : World)
    (hS : Calls Try.prog 35 #[v] w fun e w' => e = .returned (.tuple #[.slice none 0 0, .int .i64 k]) ∧ Below w.heap.size w w') :
    Calls Try.prog 14 #[.slice a len cap, v] w fun e w' => e = .returned (.tuple #[.slice none 0 0, .slice none 0 0, .int .i64 k]) ∧ Below w.heap.size w w' := by
  have HS := Lib.hid hS
  clear hS
  go_enter Try.func14, Try.ntmps14
  go_wp2_with (go_at_call 35; (with_reducible refine HS.out.mono ?_); rintro e w2 ⟨rfl, hb2⟩; have HB := Lib.hid hb2; clear hb2)
  go_ret3
  exact ⟨rfl, HB.out⟩

/-- Where a change's bytes lie. -/
structure BytesW (w : World) (x : Chg) : Prop where
  at_ : AtCells w x.2.2.1 (x.2.2.2.2.map (Value.int .u8))
  le : x.2.2.2.2.length ≤ x.2.2.2.1
  max : x.2.2.2.1 ≤ maxLen
theorem BytesW.below {w w' : World} {x : Chg} (h : BytesW w x) (hb : Below w.heap.size w w') : BytesW w' x := ⟨h.at_.below hb, h.le, h.max⟩

set_option maxRecDepth 20000 in
set_option maxHeartbeats 4000000 in
theorem same_true (a1 a2 : Option Addr) (n c1 c2 : Nat) (K L : List Chg) (w : World) (hK : K.length = n) (hn : n ≤ 1000) (hat1 : AtCells w a1 (cellsC K)) (hat2 : AtCells w a2 (cellsC L)) (him : K.map img = L.map img) (hb1 : ∀ x ∈ K, BytesW w x) (hb2 : ∀ x ∈ L, BytesW w x) :
    Calls Try.prog 17 #[.slice a1 n c1, .slice a2 n c2] w fun e w' => e = .returned (.bool true) ∧ Below w.heap.size w w' := by
  have HL := Lib.hid (show K.length = n ∧ L.length = n from ⟨hK, by have := congrArg List.length him; simpa [hK] using this.symm⟩)
  have HIM := Lib.hid him
  have HAT := Lib.hid (And.intro hat1 hat2)
  have HBB := Lib.hid (And.intro hb1 hb2)
  clear hK hat1 hat2 him hb1 hb2
  go_enter Try.func17, Try.ntmps17
  go_wp2
  go_loopw [5, 6, 14] (fun _i _p iv wr => ∃ k : Nat, iv = .int .i64 k ∧ k ≤ n ∧ Hid (Below w.heap.size w wr)) (fun _ _ iv _ => n - (intOf iv).toNat)
  case atStart => exact ⟨0, rfl, Nat.zero_le _, Lib.hid (Below.refl _ _)⟩
  case round =>
    obtain ⟨k, rfl, hk, HB⟩ := hrel
    by_cases hkn : k < n
    · obtain ⟨⟨f, t, ba, bc, bs⟩, hx⟩ : ∃ x, L[k]? = some x := ⟨_, List.getElem?_eq_getElem (by rw [HL.out.2]; omega)⟩
      obtain ⟨⟨f', t', ya, yc, ys⟩, hy⟩ : ∃ x, K[k]? = some x := ⟨_, List.getElem?_eq_getElem (by rw [HL.out.1]; omega)⟩
      have heq := congrArg (fun l : List PC => l[k]?) HIM.out
      simp only [List.getElem?_map, hx, hy, Option.map_some, img, Option.some.injEq, Prod.mk.injEq] at heq
      obtain ⟨rfl, rfl, rfl⟩ := heq
      obtain ⟨b1, o1, rfl, c0, c1', c2'⟩ := chg_cells (HAT.out.2.below HB.out) hx
      obtain ⟨b2, o2, rfl, d0, d1, d2⟩ := chg_cells (HAT.out.1.below HB.out) hy
      simp only at c0 c1' c2' d0 d1 d2
      have hbx := (HBB.out.2 _ (List.mem_of_getElem? hx)).below HB.out
      have hby := (HBB.out.1 _ (List.mem_of_getElem? hy)).below HB.out
      obtain ⟨bl, hbl⟩ : ∃ bl, bl = ys.length := ⟨_, rfl⟩
      obtain ⟨S, hS⟩ : ∃ S, S = strOfNums ys := ⟨_, rfl⟩
      have HR := Lib.hid (show ∀ W, Below wr.heap.size wr W → Sem.run Try.prog (convert 22 9 (.slice ba bl bc)) W = .ok (.string S) W ∧ Sem.run Try.prog (convert 22 9 (.slice ya bl yc)) W = .ok (.string S) W from fun W hW => by
        rw [hS]
        exact ⟨run_strB _ _ 5 _ Try.underlying22 Try.underlying5 Try.underlying9 ba bl bc ys hbl.symm (hbx.below hW).at_, run_strB _ _ 5 _ Try.underlying22 Try.underlying5 Try.underlying9 ya bl yc ys hbl.symm (hby.below hW).at_⟩)
      rw [← hbl] at c2' d2
      have hkn2 : (k : Int) < (n : Int) := by omega
      clear hx hy hbx hby hbl hS
      go_wp2
      have f0 : (wr.alloc (.cells #[.int .i64 f', .int .i64 t', .slice ba bl bc] 66)).cell? ⟨wr.heap.size, 0, none⟩ = some (.int .i64 f') := by simp
      have f1 : (wr.alloc (.cells #[.int .i64 f', .int .i64 t', .slice ba bl bc] 66)).cell? ⟨wr.heap.size, 1, none⟩ = some (.int .i64 t') := by simp
      have f2 : (wr.alloc (.cells #[.int .i64 f', .int .i64 t', .slice ba bl bc] 66)).cell? ⟨wr.heap.size, 2, none⟩ = some (.slice ba bl bc) := by simp
      have g0 := kp_alloc (.cells #[.int .i64 f', .int .i64 t', .slice ba bl bc] 66) d0
      have g1 := kp_alloc (.cells #[.int .i64 f', .int .i64 t', .slice ba bl bc] 66) d1
      have g2 := kp_alloc (.cells #[.int .i64 f', .int .i64 t', .slice ba bl bc] 66) d2
      have HB5 := Lib.hid (one_ok wr (.cells #[.int .i64 f', .int .i64 t', .slice ba bl bc] 66))
      obtain ⟨P, hP⟩ : ∃ P, P = wr.heap.size := ⟨_, rfl⟩
      obtain ⟨W5, hW5⟩ : ∃ W5, W5 = wr.alloc (.cells #[.int .i64 f', .int .i64 t', .slice ba bl bc] 66) := ⟨_, rfl⟩
      rw [← hW5] at f0 f1 f2 g0 g1 g2 HB5 ⊢
      rw [← hP] at f0 f1 f2 ⊢
      obtain ⟨r1, r2⟩ := HR.out W5.drew HB5.out.drew
      clear hW5 hP c0 c1' c2' d0 d1 d2
      go_region_held_law (fun W => W.cell? ⟨P, 0, none⟩ = some (.int .i64 f') ∧ W.cell? ⟨P, 1, none⟩ = some (.int .i64 t') ∧ W.cell? ⟨P, 2, none⟩ = some (.slice ba bl bc) ∧ W.cell? ⟨b2, o2 + k * 3, none⟩ = some (.int .i64 f') ∧ W.cell? ⟨b2, o2 + k * 3 + 1, none⟩ = some (.int .i64 t') ∧ W.cell? ⟨b2, o2 + k * 3 + 2, none⟩ = some (.slice ya bl yc) ∧ Sem.run Try.prog (convert 22 9 (.slice ba bl bc)) W = .ok (.string S) W ∧ Sem.run Try.prog (convert 22 9 (.slice ya bl yc)) W = .ok (.string S) W)
        ((refine ⟨?_, ?_, ?_, ?_, ?_, ?_, ?_, ?_⟩ <;> (repeat (first | (with_reducible assumption) | (with_reducible refine kp_drew ?_)))))
        (fail)
      go_wp2
      go_roundw
      case rel => exact ⟨k + 1, by go_num, by omega, Lib.hid ((Below.more HB.out HB5.out).drew)⟩
      case measure => simp [intOf]; omega
    · obtain rfl : k = n := by omega
      have hknf : ¬ (k : Int) < (k : Int) := by omega
      clear hkn
      go_wp2
      go_ret
      exact ⟨rfl, HB.out⟩

end Go.Proofs.Ytbljgoieieoamaa
