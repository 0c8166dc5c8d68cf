/-
  Contracts of layer 12's statements' own functions.
-/
import Derived.Test.YtbljgoieieoamaaSqF
namespace Go.Proofs.Ytbljgoieieoamaa
open Go.Shelf Go.RowKit Go.Lib Go.Sort
set_option linter.unusedVariables false

theorem new_at (w : World) (cs : List Value) (e : TypeId) (k : Nat) (hk : k = w.heap.size) : AtCells (w.alloc (.cells cs.toArray e)) (some ⟨k, 0, none⟩) cs := fun j u hj => ⟨k, 0, rfl, by
  have := new_cells_at w cs e k hk j u hj
  rwa [addr_add] at this⟩

/-- Bytes cut behind the 80th. -/
def shC (x : Chg) : Chg := (x.1, x.2.1, x.2.2.1, x.2.2.2.1, x.2.2.2.2.take 80)

set_option maxHeartbeats 1000000 in
theorem short_any (a : Option Addr) (n cap : Nat) (w : World) (hc : n ≤ cap) (hm : cap ≤ maxLen) :
    Calls Try.prog 12 #[.slice a n cap] w fun e w' => e = .returned (.slice a (min n 80) cap) ∧ w = w' := by
  by_cases h : 80 < n
  · have h1 : (80 : Int) < (n : Int) := by omega
    have hmin : min n 80 = 80 := by omega
    have h2 : (80 : Int) ≤ (cap : Int) := by omega
    have h3 : 80 ≤ cap := by omega
    rw [hmin]
    clear hmin
    go_enter Try.func12, Try.ntmps12
    go_wp2
    go_ret
    exact ⟨rfl, rfl⟩
  · have h1 : ¬ (80 : Int) < (n : Int) := by omega
    have hmin : min n 80 = n := by omega
    rw [hmin]
    clear hmin
    go_enter Try.func12, Try.ntmps12
    go_wp2
    go_ret
    exact ⟨rfl, rfl⟩

set_option maxRecDepth 20000 in
set_option maxHeartbeats 4000000 in
theorem ours_any (a : Option Addr) (n c : Nat) (L : List Chg) (w : World) (hl : L.length = n) (hn : n ≤ 1000) (hat : AtCells w a (cellsC L)) :
    Calls Try.prog 15 #[.slice a n c] w fun e w' => ∃ v, e = .returned v ∧ w'.ownsRow w.heap.size 39 3 v n (cellsC L) ∧ Below w.heap.size w w' := by
  obtain ⟨iC, hiC, hz0, hz1, hz2⟩ := info_parts Try.infoChg
  have HIC := Lib.hid (And.intro hiC (And.intro hz0 (And.intro hz1 hz2)))
  have HL := Lib.hid hl
  have HAT := Lib.hid hat
  clear hiC hz0 hz1 hz2 hl hat
  go_enter Try.func15, Try.ntmps15
  go_wp2
  go_loopw [3, 5, 8] (fun x3 _p iv wr => ∃ (k : Nat) (v : Value), v = x3 ∧ iv = .int .i64 k ∧ k ≤ n ∧ Hid (wr.ownsRow w.heap.size 39 3 v k (cellsC (L.take k)) ∧ Below w.heap.size w wr)) (fun _ _ iv _ => n - (intOf iv).toNat)
  case atStart => exact ⟨0, _, rfl, rfl, Nat.zero_le _, Lib.hid ⟨by rw [List.take_zero]; exact World.ownsRow_nil _ _ _ _, Below.refl _ _⟩⟩
  case round =>
    obtain ⟨k, v, rfl, rfl, hk, HO⟩ := hrel
    by_cases hkn : k < n
    · obtain ⟨⟨f, t, ba, bc, bs⟩, hx⟩ : ∃ x, L[k]? = some x := ⟨_, List.getElem?_eq_getElem (by rw [HL.out]; omega)⟩
      obtain ⟨b', off', rfl, c0, c1, c2⟩ := chg_cells (HAT.out.below HO.out.2) hx
      simp only at c0 c1 c2
      obtain ⟨bl, hbl⟩ : ∃ bl, bl = bs.length := ⟨_, rfl⟩
      rw [← hbl] at c2
      have htake : L.take (k + 1) = L.take k ++ [(f, t, ba, bc, bs)] := by
        have hlt : k < L.length := by rw [HL.out]; exact hkn
        rw [List.take_succ_eq_append_getElem hlt, (List.getElem?_eq_some_iff.1 hx).2]
      have HTK := Lib.hid (show cellsC (L.take (k + 1)) = cellsC (L.take k) ++ [.int .i64 f, .int .i64 t, .slice ba bl bc] by rw [htake, cellsC_append, hbl]; rfl)
      have hkn2 : (k : Int) < (n : Int) := by omega
      clear hx htake hbl
      go_wp2_with (at_builtin; refine wpList_append_sep rfl _ _ 26 rfl w.heap.size 39 iC _ 3 40 Try.underlying26 HIC.out.1 HIC.out.2.1 HIC.out.2.2.1 HIC.out.2.2.2 rfl (by decide) _ k _ rfl (owns_below HO.out.1 (two_ok wr _ _)) _ 1 1 [.int .i64 f, .int .i64 t, .slice ba bl bc] rfl (fun h => by cases h) rfl (new_at (wr.alloc _) _ _ _ (by simp)) (one_chg _ _ _ _ _) (by unfold maxLen; omega) (by omega) (Nat.le_trans HO.out.2.size (two_ok wr _ _).size) _ rfl ?_; intro v' w4 own4 gr4 _; have HO4 := Lib.hid (And.intro own4 ((Below.more HO.out.2 (two_ok wr _ _)).grown gr4 (Nat.le_trans HO.out.2.size (two_ok wr _ _).size) (fun y hy => (HO.out.1.lt y hy).1))); clear own4 gr4)
      go_roundw
      case rel => exact ⟨k + 1, _, rfl, by go_num, by omega, Lib.hid ⟨by rw [HTK.out]; exact HO4.out.1, HO4.out.2⟩⟩
      case measure => simp [intOf]; omega
    · obtain rfl : k = n := by omega
      have hf := HO.out.1
      rw [List.take_of_length_le (by rw [HL.out]; exact Nat.le_refl _)] at hf
      have HF := Lib.hid hf
      have hknf : ¬ (k : Int) < (k : Int) := by omega
      clear hf hkn
      go_wp2
      go_ret
      exact ⟨_, rfl, HF.out, HO.out.2⟩

end Go.Proofs.Ytbljgoieieoamaa
