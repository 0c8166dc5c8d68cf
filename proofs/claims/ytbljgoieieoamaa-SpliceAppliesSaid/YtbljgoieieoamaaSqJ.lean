/-
  Apply of a row that the call owns; the law's example of layer 12.
-/
import Derived.Test.YtbljgoieieoamaaSqI
import Derived.Laws.BytesArg
import Derived.WalkSpells
import Derived.Lib.SlBytesConst
namespace Go.Proofs.Ytbljgoieieoamaa
open Go.Shelf Go.RowKit Go.Lib Go.Sort
set_option linter.unusedVariables false

theorem psC_own {w : World} {base n : Nat} {v : Value} {L : List Chg} (own : w.ownsRow base 39 3 v n (cellsC L)) (hl : L.length = n) (hn : n < 20) (hok : ∀ x ∈ L, ¬ badC x) (hH : Held w w.heap.size L) :
    Calls Try.prog 35 #[v] w (SortD w L n) := by
  obtain ⟨a, c, rfl, hc⟩ := owns_slice own
  have hat := AtCells.of_owns own
  obtain ⟨_, ⟨h1, h2⟩ | ⟨g, c', cur, hv, hb, hg, _⟩⟩ := own
  · simp only [Value.slice.injEq] at h1
    obtain ⟨rfl, rfl, rfl⟩ := h1
    obtain rfl : L = [] := List.length_eq_zero_iff.1 hl
    exact psC_nil 0 w
  · simp only [Value.slice.injEq] at hv
    obtain ⟨rfl, _, rfl⟩ := hv
    exact psC_main g 0 n c L w hl hn hat (Array.getElem?_eq_some_iff.1 hg).1 hok hH

theorem at_new8 (w : World) (zs : List Int) (m : Nat × Nat) (k : Nat) (hk : k = w.heap.size) : AtCells (w.alloc (.cells (zs.map (Value.int .u8)).toArray 5 m)) (some ⟨k, 0, none⟩) (zs.map (.int .u8)) := by
  subst hk
  intro j u hj
  refine ⟨w.heap.size, 0, rfl, ?_⟩
  have h : (w.alloc (.cells (zs.map (Value.int .u8)).toArray 5 m)).heap[w.heap.size]? = some (.cells (zs.map (Value.int .u8)).toArray 5 m) := by
    show (w.heap.push _)[w.heap.size]? = _
    simp
  unfold World.cell?
  simp only [h]
  simpa using hj

theorem conv_c (w : World) (C : Array Value) (n c k : Nat) (hk : k = w.heap.size) :
    Sem.run Try.prog (convert 22 22 (.slice (some ⟨k, 0, none⟩) n c)) (w.alloc (.cells C 5)) = .ok (.slice (some ⟨k, 0, none⟩) n c) (w.alloc (.cells C 5 (C.size, C.size + 1))) := by
  subst hk
  exact Lib.run_convert_bytes_const (P := Try.prog) w _ _ C n c Try.underlying22 Try.underlying5

/-- The example's changes. -/
def exL (k : Nat) : List Chg := [(2, 2, some ⟨k + 1, 0, none⟩, 2, [121, 121]), (0, 1, some ⟨k + 2, 0, none⟩, 1, [120])]
def exS (k : Nat) : List Chg := [(0, 1, some ⟨k + 2, 0, none⟩, 1, [120]), (2, 2, some ⟨k + 1, 0, none⟩, 2, [121, 121])]
theorem exL_sorted (k : Nat) : isort ltC (exL k) = exS k := by rfl
theorem exL_free (k : Nat) : takenC 0 (isort ltC (exL k)) = false := by rfl
theorem exL_apply (k : Nat) : apP [97, 98, 99] 0 [] [] ((isort ltC (exL k)).map img) = some ([120, 98, 121, 121, 99], [(0, 1, [97]), (2, 4, [])]) := by rfl
theorem ex_text : strOfNums [120, 98, 121, 121, 99] = ⟨#[120, 98, 121, 121, 99]⟩ := by rfl

theorem exL_held {w W : World} (k : Nat) (h1 : AtCells W (some ⟨k + 1, 0, none⟩) ([121, 121].map (Value.int .u8))) (h2 : AtCells W (some ⟨k + 2, 0, none⟩) ([120].map (Value.int .u8))) (g : Nat) (hg1 : k + 2 < g) : Held W g (exL k) := fun x hx => by
  simp only [exL, List.mem_cons, List.not_mem_nil, or_false] at hx
  rcases hx with rfl | rfl
  · exact ⟨fun j u hj => by
      obtain ⟨b, off, ha, hc⟩ := h1 j u hj
      refine ⟨b, off, ha, ?_, hc⟩
      have : b = k + 1 := by cases ha; rfl
      omega, by simp, by simp [maxLen], by simp, fun h => by cases h⟩
  · exact ⟨fun j u hj => by
      obtain ⟨b, off, ha, hc⟩ := h2 j u hj
      refine ⟨b, off, ha, ?_, hc⟩
      have : b = k + 2 := by cases ha; rfl
      omega, by simp, by simp [maxLen], by simp, fun h => by cases h⟩

theorem ex_apply (w : World) (v : Value) (k base : Nat) (hat : AtCells w (some ⟨k, 0, none⟩) ([97, 98, 99].map (Value.int .u8))) (h1 : AtCells w (some ⟨k + 1, 0, none⟩) ([121, 121].map (Value.int .u8))) (h2 : AtCells w (some ⟨k + 2, 0, none⟩) ([120].map (Value.int .u8))) (hk : k + 2 < w.heap.size) (own : w.ownsRow base 39 3 v 2 (cellsC (exL k))) :
    Calls Try.prog 14 #[.slice (some ⟨k, 0, none⟩) 3 3, v] w fun e w' => ∃ v9 v10 K, e = .returned (.tuple #[v9, v10, .int .i64 0]) ∧ w'.ownsRow w.heap.size 5 1 v9 5 ([120, 98, 121, 121, 99].map (Value.int .u8)) ∧ w'.ownsRow w.heap.size 39 3 v10 2 (cellsC K) ∧ K.map img = [(0, 1, [97]), (2, 4, [])] ∧ (∀ x ∈ K, BytesW w' x) ∧ Below w.heap.size w w' := by
  refine (apC_main (some ⟨k, 0, none⟩) 3 3 [97, 98, 99] v 2 (exL k) w (fun h => by cases h) rfl (by omega) (Nat.le_refl _) (by simp [maxLen]) hat rfl (by omega) (psC_own own rfl (by omega) (fun x hx => ?_) (exL_held (w := w) k h1 h2 _ hk)) (fun x hx => ?_) (exL_free k)).mono ?_
  · simp only [exL, List.mem_cons, List.not_mem_nil, or_false] at hx
    rcases hx with rfl | rfl <;> simp [badC]
  · simp only [exL, List.mem_cons, List.not_mem_nil, or_false] at hx
    rcases hx with rfl | rfl <;> simp [badC]
  · rintro e w' ⟨h | ⟨v9, v10, C, K, hap, rfl, o9, o10, held, _, hkl⟩, hb⟩
    · rw [exL_apply] at h; cases h.1
    · rw [exL_apply] at hap
      simp only [Option.some.injEq, Prod.mk.injEq] at hap
      obtain ⟨rfl, hm⟩ := hap
      have hkl2 : K.length = 2 := by rw [hkl]; rfl
      rw [hkl2] at o10
      exact ⟨v9, v10, K, rfl, o9, o10, hm.symm, fun x hx => ⟨fun j u hj => by obtain ⟨b, off, ha, _, _, hc⟩ := (held x hx).cells j u hj; exact ⟨b, off, ha, hc⟩, (held x hx).le, (held x hx).max⟩, hb⟩

/-- What leads back, in the example. -/
def exB (k : Nat) : List Chg := [(0, 1, some ⟨k, 0, none⟩, 1, [97]), (2, 4, none, 0, [])]

theorem exB_held (w : World) (x : Chg) (hx : x ∈ exB w.heap.size) : BytesW (w.alloc (.cells #[.int .u8 97] 5 (1, 2))) x := by
  simp only [exB, List.mem_cons, List.not_mem_nil, or_false] at hx
  rcases hx with rfl | rfl
  · exact ⟨at_new8 w [97] (1, 2) w.heap.size rfl, by simp, by simp [maxLen]⟩
  · exact ⟨AtCells.nil _ _, by simp, by simp [maxLen]⟩

set_option maxRecDepth 20000 in
set_option maxHeartbeats 4000000 in
theorem awake12_any (w : World) : Calls Try.prog 18 #[] w fun e w' => e = .returned (.bool true) ∧ Below w.heap.size w w' := by
  have HT := Lib.hid ex_text
  have k1 := conv_c w #[.int .u8 97, .int .u8 98, .int .u8 99] 3 3 w.heap.size rfl
  have k2 := conv_c (w.alloc (.cells #[.int .u8 97, .int .u8 98, .int .u8 99] 5 (3, 4))) #[.int .u8 121, .int .u8 121] 2 2 (w.heap.size + 1) (by simp)
  have k3 := conv_c ((w.alloc (.cells #[.int .u8 97, .int .u8 98, .int .u8 99] 5 (3, 4))).alloc (.cells #[.int .u8 121, .int .u8 121] 5 (2, 3))) #[.int .u8 120] 1 1 (w.heap.size + 1 + 1) (by simp)
  obtain ⟨W3, hW3⟩ : ∃ W3, W3 = ((w.alloc (.cells #[.int .u8 97, .int .u8 98, .int .u8 99] 5 (3, 4))).alloc (.cells #[.int .u8 121, .int .u8 121] 5 (2, 3))).alloc (.cells #[.int .u8 120] 5 (1, 2)) := ⟨_, rfl⟩
  have h1 := at_new8 w [97, 98, 99] (3, 4) w.heap.size rfl
  have h2 := at_new8 (w.alloc (.cells #[.int .u8 97, .int .u8 98, .int .u8 99] 5 (3, 4))) [121, 121] (2, 3) (w.heap.size + 1) (by simp)
  have h3 := at_new8 ((w.alloc (.cells #[.int .u8 97, .int .u8 98, .int .u8 99] 5 (3, 4))).alloc (.cells #[.int .u8 121, .int .u8 121] 5 (2, 3))) [120] (1, 2) (w.heap.size + 2) (by simp)
  have HA : Hid (AtCells W3 (some ⟨w.heap.size, 0, none⟩) ([97, 98, 99].map (Value.int .u8)) ∧ AtCells W3 (some ⟨w.heap.size + 1, 0, none⟩) ([121, 121].map (Value.int .u8)) ∧ AtCells W3 (some ⟨w.heap.size + 2, 0, none⟩) ([120].map (Value.int .u8)) ∧ Below w.heap.size w W3 ∧ W3.heap.size = w.heap.size + 3) := Lib.hid (by
    subst hW3
    exact ⟨(h1.alloc _).alloc _, h2.alloc _, h3, (two_ok w _ _).alloc (by simp; omega) _, by simp⟩)
  have HOU := Lib.hid (fun (k : Nat) (hk : k = W3.heap.size) => ours_any (some ⟨k, 0, none⟩) 2 2 (exL w.heap.size) (W3.alloc (.cells (cellsC (exL w.heap.size)).toArray 66)) rfl (by omega) (new_at W3 _ _ k hk))
  rw [hW3] at HOU
  have HW3 := Lib.hid hW3
  clear h1 h2 h3 hW3
  go_enter Try.func18, Try.ntmps18
  go_wp2_with (first
    | (go_at_call 15; (refine (HOU.out _ (by simp)).mono ?_); rintro e w1 ⟨v, rfl, hown, hb1⟩; (rw [← HW3.out] at hb1 hown); have HB1 := Lib.hid (Below.more (one_ok W3 _) hb1); have HX := Lib.hid (ex_apply w1 v w.heap.size _ (HA.out.1.below HB1.out) (HA.out.2.1.below HB1.out) (HA.out.2.2.1.below HB1.out) (by have h1 := HB1.out.size; have h2 := HA.out.2.2.2.2; omega) hown); clear hown hb1)
    | (go_at_call 14; (with_reducible refine HX.out.mono ?_); rintro e w6 ⟨v9, v10, K, rfl, o9, o10, him, hbw, hb6⟩; obtain ⟨a9, c9, rfl, hc9⟩ := owns_slice o9; obtain ⟨a10, c10, rfl, hc10⟩ := owns_slice o10; have hr := run_strB (P := Try.prog) w6 22 5 9 Try.underlying22 Try.underlying5 Try.underlying9 a9 5 c9 _ rfl (AtCells.of_owns o9); (rw [HT.out] at hr); have k5 := conv_c w6 #[.int .u8 97] 1 1 w6.heap.size rfl; have HB6 := Lib.hid (Below.more HB1.out hb6); have HSM := Lib.hid (fun (o : Obj) (ho : o = .cells #[.int .u8 97] 5 (1, 2)) (o' : Obj) (ho' : o' = .cells (cellsC (exB w6.heap.size)).toArray 66) (k : Nat) (hk : k = (w6.alloc o).heap.size) => same_true a10 (some ⟨k, 0, none⟩) 2 c10 2 K (exB w6.heap.size) ((w6.alloc o).alloc o') (by have := congrArg List.length him; simpa using this) (by omega) ((AtCells.of_owns o10).below (two_ok w6 _ _)) (by subst ho'; exact new_at _ _ _ _ hk) (by rw [him]; rfl) (fun x hx => (hbw x hx).below (two_ok w6 _ _)) (fun x hx => by subst ho; exact (exB_held w6 x hx).below (one_ok _ _))); clear o9 o10 him hbw hb6 hc9 hc10)
    | (go_at_call 17; (refine (HSM.out _ rfl _ rfl _ (by simp)).mono ?_); rintro e w7 ⟨rfl, hb7⟩; have HB7 := Lib.hid (Below.more (two_ok w6 _ _) hb7); clear hb7))
  go_ret
  exact ⟨rfl, Below.more (Below.more HA.out.2.2.2.1 HB6.out) HB7.out⟩

end Go.Proofs.Ytbljgoieieoamaa
