/-
  The order of changes, as the program compares them; the sort of few of them.
-/
import Derived.Test.YtbljgoieieoamaaSqA
import Derived.Test.YtbljgoieieoamaaGen0
import Derived.Deep.DeepCutAuto
import Derived.Deep.RegionHeldLaw
namespace Go.Proofs.Ytbljgoieieoamaa
open Go.Shelf Go.RowKit Go.Lib Go.Sort
set_option linter.unusedVariables false

theorem three_grown (w : World) (a b c : Obj) : (((w.alloc a).alloc b).alloc c).drew = grow (w.drewN 1) #[a, b, c] := by
  rw [alloc_eq_grow, alloc_eq_grow, alloc_eq_grow, grow_grow, grow_grow, drew_grow]
  rfl
theorem or_new (p : Nat) (a b : Int) (w : World) (T : TypeId) (hp : p = w.heap.size) :
    Calls Try.prog 55 #[.slice (some ⟨p, 0, none⟩) 2 2] (w.alloc (.cells #[.int .i64 a, .int .i64 b] T)).drew fun e w' => e = .returned (.int .i64 (orI2 a b)) ∧ (w.alloc (.cells #[.int .i64 a, .int .i64 b] T)).drew = w' :=
  or2_any p a b _ (kp_drew (World.cell?_alloc_at _ _ _ _ hp)) (kp_drew (World.cell?_alloc_at _ _ _ _ hp))

set_option maxHeartbeats 10000000 in
set_option maxRecDepth 100000 in
theorem compareC_any (f t f' t' : Int) (v v' : Value) (w : World) :
    Calls Try.prog 54 #[.agg #[.int .i64 f, .int .i64 t, v], .agg #[.int .i64 f', .int .i64 t', v']] w fun e w' => e = .returned (.int .i64 (orI2 (cmpI f f') (cmpI t t'))) ∧ ∃ q os', w' = grow (w.drewN q) os' := by
  have hx : ∀ i (u : Value), #[Value.int .i64 f, .int .i64 t, v][i]? = some u → ((w.alloc (.cells #[.int .i64 f, .int .i64 t, v] 39)).alloc (.cells #[.int .i64 f', .int .i64 t', v'] 39)).cell? ⟨w.heap.size, i, none⟩ = some u := fun i u h =>
    kp_alloc _ (World.cell?_alloc_at _ _ _ _ rfl |>.trans (by simpa using h))
  have hy : ∀ i (u : Value), #[Value.int .i64 f', .int .i64 t', v'][i]? = some u → ((w.alloc (.cells #[.int .i64 f, .int .i64 t, v] 39)).alloc (.cells #[.int .i64 f', .int .i64 t', v'] 39)).cell? ⟨w.heap.size + 1, i, none⟩ = some u := fun i u h =>
    World.cell?_alloc_at _ _ _ _ (by simp) |>.trans (by simpa using h)
  have HA0 := Lib.hid (hx 0 (.int .i64 f) rfl)
  have HA1 := Lib.hid (hx 1 (.int .i64 t) rfl)
  have HB0 := Lib.hid (hy 0 (.int .i64 f') rfl)
  have HB1 := Lib.hid (hy 1 (.int .i64 t') rfl)
  clear hx hy
  go_enter Try.func54, Try.ntmps54
  go_upto_region 1 with fail
  go_region_held3 (fun W => W.cell? ⟨w.heap.size, 0, none⟩ = some (.int .i64 f) ∧ W.cell? ⟨w.heap.size, 1, none⟩ = some (.int .i64 t) ∧ W.cell? ⟨w.heap.size + 1, 0, none⟩ = some (.int .i64 f') ∧ W.cell? ⟨w.heap.size + 1, 1, none⟩ = some (.int .i64 t'))
    ((refine ⟨?_, ?_, ?_, ?_⟩ <;> (repeat (first | (with_reducible exact HA0.out) | (with_reducible exact HA1.out) | (with_reducible exact HB0.out) | (with_reducible exact HB1.out) | (with_reducible refine kp_alloc _ ?_) | (with_reducible refine kp_drew ?_)))))
    (first | (go_at_call 56; (with_reducible refine (compareI_any _ _ _).mono ?_); rintro e w1 ⟨rfl, rfl⟩) | (go_at_call 55; (with_reducible refine (or_new _ _ _ _ _ (by simp)).mono ?_); rintro e w1 ⟨rfl, rfl⟩))
  all_goals
    go_wp2
    go_ret
    exact ⟨rfl, 1, _, three_grown w _ _ _⟩

/-- What the sort asks of the order. -/
theorem cmpLays_C (blk off size : Nat) (w : World) : CmpLays Try.prog 54 #[] encC 3 cfC blk off size w :=
  fun m os dk _ x y => compareC_any x.1 x.2.1 y.1 y.2.1 _ _ _

end Go.Proofs.Ytbljgoieieoamaa
