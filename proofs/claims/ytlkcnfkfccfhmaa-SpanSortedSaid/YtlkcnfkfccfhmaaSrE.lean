/-
  Diag.compare, and what the sort asks of it.
-/
import Derived.Test.YtlkcnfkfccfhmaaSrD
import Derived.Deep.DeepCutAuto
namespace Go.Proofs.Ytlkcnfkfccfhmaa
open Go.RowKit Go.Sort
set_option linter.unusedVariables false

theorem kp_alloc {W : World} {a : Addr} {v : Value} (o : Obj) (h : W.cell? a = some v) : (W.alloc o).cell? a = some v := by
  obtain ⟨b, off, spot⟩ := a
  obtain rfl : spot = none := World.cell?_spot h
  rw [World.cell?_of_block (Below.heap_alloc _ o b (cell_lt h))]
  exact h
theorem kp_drew {W : World} {a : Addr} {v : Value} (h : W.cell? a = some v) : W.drew.cell? a = some v := h

theorem three_grown (w : World) (a b c : Obj) : (((w.alloc a).alloc b).alloc c).drew = grow (w.drewN 1) #[a, b, c] := by
  rw [alloc_eq_grow, alloc_eq_grow, alloc_eq_grow, grow_grow, grow_grow, drew_grow]
  rfl

/-- Or, of three numbers just laid. -/
theorem or_new (p : Nat) (a b c : Int) (w : World) (T : TypeId) (hp : p = w.heap.size) :
    Calls Try.prog 29 #[.slice (some ⟨p, 0, none⟩) 3 3] (w.alloc (.cells #[.int .i64 a, .int .i64 b, .int .i64 c] T)).drew fun e w' => e = .returned (.int .i64 (orI a b c)) ∧ (w.alloc (.cells #[.int .i64 a, .int .i64 b, .int .i64 c] T)).drew = w' :=
  or_any p a b c _ (kp_drew (World.cell?_alloc_at _ _ _ _ hp)) (kp_drew (World.cell?_alloc_at _ _ _ _ hp)) (kp_drew (World.cell?_alloc_at _ _ _ _ hp))

set_option maxHeartbeats 10000000 in
set_option maxRecDepth 100000 in
theorem compare_any (f t c f' t' c' : Int) (w : World) :
    Calls Try.prog 25 #[.agg #[.int .i64 f, .int .i64 t, .int .i64 c], .agg #[.int .i64 f', .int .i64 t', .int .i64 c']] w fun e w' => e = .returned (.int .i64 (orI (cmpI f f') (cmpI t t') (cmpI c c'))) ∧ ∃ q os', w' = grow (w.drewN q) os' := by
  have hx : ∀ i (v : Value), #[Value.int .i64 f, .int .i64 t, .int .i64 c][i]? = some v → ((w.alloc (.cells #[.int .i64 f, .int .i64 t, .int .i64 c] 45)).alloc (.cells #[.int .i64 f', .int .i64 t', .int .i64 c'] 45)).cell? ⟨w.heap.size, i, none⟩ = some v := fun i v h =>
    kp_alloc _ (World.cell?_alloc_at _ _ _ _ rfl |>.trans (by simpa using h))
  have hy : ∀ i (v : Value), #[Value.int .i64 f', .int .i64 t', .int .i64 c'][i]? = some v → ((w.alloc (.cells #[.int .i64 f, .int .i64 t, .int .i64 c] 45)).alloc (.cells #[.int .i64 f', .int .i64 t', .int .i64 c'] 45)).cell? ⟨w.heap.size + 1, i, none⟩ = some v := fun i v h =>
    World.cell?_alloc_at _ _ _ _ (by simp) |>.trans (by simpa using h)
  have HA0 := Lib.hid (hx 0 (.int .i64 f) rfl)
  have HA1 := Lib.hid (hx 1 (.int .i64 t) rfl)
  have HA2 := Lib.hid (hx 2 (.int .i64 c) rfl)
  have HB0 := Lib.hid (hy 0 (.int .i64 f') rfl)
  have HB1 := Lib.hid (hy 1 (.int .i64 t') rfl)
  have HB2 := Lib.hid (hy 2 (.int .i64 c') rfl)
  clear hx hy
  go_enter Try.func25, Try.ntmps25
  go_upto_region 1 with fail
  go_region_held3 (fun W => W.cell? ⟨w.heap.size, 0, none⟩ = some (.int .i64 f) ∧ W.cell? ⟨w.heap.size, 1, none⟩ = some (.int .i64 t) ∧ W.cell? ⟨w.heap.size, 2, none⟩ = some (.int .i64 c) ∧ W.cell? ⟨w.heap.size + 1, 0, none⟩ = some (.int .i64 f') ∧ W.cell? ⟨w.heap.size + 1, 1, none⟩ = some (.int .i64 t') ∧ W.cell? ⟨w.heap.size + 1, 2, none⟩ = some (.int .i64 c'))
    ((refine ⟨?_, ?_, ?_, ?_, ?_, ?_⟩ <;> (repeat (first | (with_reducible exact HA0.out) | (with_reducible exact HA1.out) | (with_reducible exact HA2.out) | (with_reducible exact HB0.out) | (with_reducible exact HB1.out) | (with_reducible exact HB2.out) | (with_reducible refine kp_alloc _ ?_) | (with_reducible refine kp_drew ?_)))))
    (first | (go_at_call 30; (with_reducible refine (compareI_any _ _ _).mono ?_); rintro e w1 ⟨rfl, rfl⟩) | (go_at_call 29; (with_reducible refine (or_new _ _ _ _ _ _ (by simp)).mono ?_); rintro e w1 ⟨rfl, rfl⟩))
  all_goals
    go_wp2
    go_ret
    exact ⟨rfl, 1, _, three_grown w _ _ _⟩

/-- What the sort asks of the method. -/
theorem cmpLays_D (blk off size : Nat) (w : World) : CmpLays Try.prog 25 #[] encD 3 cfD blk off size w :=
  fun m os dk _ x y => compare_any x.1 x.2.1 x.2.2 y.1 y.2.1 y.2.2 _
end Go.Proofs.Ytlkcnfkfccfhmaa
