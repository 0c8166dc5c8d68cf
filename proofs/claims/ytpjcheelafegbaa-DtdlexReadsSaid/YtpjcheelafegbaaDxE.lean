/-
  Contracts of layer 9: within, over each that reads a row.
-/
import Derived.Test.YtpjcheelafegbaaDxD
import Derived.Laws.OwnMore
namespace Go.Proofs.Ytpjcheelafegbaa
open Go.RowKit
set_option linter.unusedVariables false

/-- Some of a row, shifted to where it stood. -/
def inP (res : List Int → List PartA) (l : List Int) (f t : Int) : List PartA := if 0 ≤ f ∧ f ≤ t ∧ t ≤ l.length then shiftP f.toNat (res ((l.take t.toNat).drop f.toNat)) else []

theorem addr_add (b off F : Nat) : (⟨b, off, none⟩ : Addr).add F = ⟨b, off + F, none⟩ := by
  unfold Addr.add
  split <;> simp_all

/-- Parts of which the first k have been shifted. -/
def halfP (d : Nat) (P : List PartA) (k : Nat) : List PartA := shiftP d (P.take k) ++ P.drop k
theorem halfP_length (d : Nat) (P : List PartA) (k : Nat) : (halfP d P k).length = P.length := by simp [halfP, shiftP]; omega
theorem halfP_zero (d : Nat) (P : List PartA) : halfP d P 0 = P := by simp [halfP, shiftP]
theorem halfP_all (d : Nat) (P : List PartA) : halfP d P P.length = shiftP d P := by simp [halfP]
theorem parsCells_set (Q1 Q2 : List PartA) (x : PartA) (u v : Value) : ((parsCells (Q1 ++ x :: Q2)).set (Q1.length * 3 + 1) u).set (Q1.length * 3 + 2) v = parsCells Q1 ++ [.int .i64 (x.1 : Nat), u, v] ++ parsCells Q2 := by
  have hl := parsCells_length Q1
  have e : parsCells (Q1 ++ x :: Q2) = parsCells Q1 ++ (parCells x ++ parsCells Q2) := by rw [parsCells_append]; rfl
  rw [e, List.set_append_right _ _ (by omega), List.set_append_right _ _ (by omega), hl, Nat.add_sub_cancel_left, Nat.add_sub_cancel_left]
  rw [List.append_assoc]
  rfl
theorem halfP_succ {d : Nat} {P : List PartA} {k : Nat} {x : PartA} (h : P[k]? = some x) : ((parsCells (halfP d P k)).set (k * 3 + 1) (.int .i64 ((x.2.1 + d : Nat)))).set (k * 3 + 2) (.int .i64 ((x.2.2 + d : Nat))) = parsCells (halfP d P (k + 1)) := by
  have hlt := (List.getElem?_eq_some_iff.1 h).1
  have hx := (List.getElem?_eq_some_iff.1 h).2
  have e1 : P.drop k = x :: P.drop (k + 1) := by rw [List.drop_eq_getElem_cons hlt, hx]
  have e2 : (shiftP d (P.take k)).length = k := by simp [shiftP]; omega
  have e3 : P.take (k + 1) = P.take k ++ [x] := by rw [List.take_succ_eq_append_getElem hlt, hx]
  have h1 := parsCells_set (shiftP d (P.take k)) (P.drop (k + 1)) x (.int .i64 ((x.2.1 + d : Nat))) (.int .i64 ((x.2.2 + d : Nat)))
  rw [e2] at h1
  unfold halfP
  rw [e1, h1, e3]
  unfold shiftP
  rw [List.map_append, parsCells_append, parsCells_append]
  rfl
theorem halfP_get {d : Nat} {P : List PartA} {k : Nat} {x : PartA} (h : P[k]? = some x) : (halfP d P k)[k]? = some x := by
  have hlt := (List.getElem?_eq_some_iff.1 h).1
  unfold halfP
  rw [List.getElem?_append_right (by simp [shiftP]; omega)]
  simp only [shiftP, List.length_map, List.length_take, Nat.min_eq_left (Nat.le_of_lt hlt), Nat.sub_self]
  rw [List.getElem?_drop, Nat.add_zero]
  exact h
theorem parsCells_at : ∀ (l : List PartA) (k : Nat) (x : PartA) (i : Nat), l[k]? = some x → i < 3 → (parsCells l)[k * 3 + i]? = (parCells x)[i]? := by
  intro l
  induction l with
  | nil => intro k x i h; simp at h
  | cons y l ih =>
    intro k x i h hi
    have hy : (parCells y).length = 3 := rfl
    have e : parsCells (y :: l) = parCells y ++ parsCells l := rfl
    rw [e]
    cases k with
    | zero =>
      simp at h; subst h
      rw [Nat.zero_mul, Nat.zero_add, List.getElem?_append_left (by omega)]
    | succ k =>
      simp at h
      rw [List.getElem?_append_right (by omega), hy, show (k + 1) * 3 + i - 3 = k * 3 + i by omega]
      exact ih k x i h hi
/-- Two cells of an owned row of parts are set. -/
theorem owns_half {w : World} {base g cap d k : Nat} {P : List PartA} {x : PartA} {e : TypeId} (h : w.ownsRow base e 3 (.slice (some ⟨g, 0, none⟩) P.length cap) P.length (parsCells (halfP d P k))) (hx : P[k]? = some x) {y z : Int} (hy : y = (x.2.1 + d : Nat)) (hz : z = (x.2.2 + d : Nat)) :
    ((w.setCell ⟨g, k * 3 + 1, none⟩ (.int .i64 y)).setCell ⟨g, k * 3 + 2, none⟩ (.int .i64 z)).ownsRow base e 3 (.slice (some ⟨g, 0, none⟩) P.length cap) P.length (parsCells (halfP d P (k + 1))) := by
  subst hy hz
  have h2 := ((h.stored (k * 3 + 1) (.int .i64 ((x.2.1 + d : Nat)))).1.stored (k * 3 + 2) (.int .i64 ((x.2.2 + d : Nat)))).1
  rwa [halfP_succ hx] at h2
theorem owns_addr {w : World} {base n cap : Nat} {e : TypeId} {size : Nat} {a : Option Addr} {xs : List Value} (h : w.ownsRow base e size (.slice a n cap) n xs) (hn : 0 < n) : ∃ g, a = some ⟨g, 0, none⟩ := by
  obtain ⟨_, ⟨h1, h2⟩ | ⟨g, c, cur, hv, _⟩⟩ := h
  · omega
  · simp only [Value.slice.injEq] at hv
    exact ⟨g, hv.1⟩

set_option maxRecDepth 20000 in
set_option maxHeartbeats 4000000 in
theorem within_words {a : Option Addr} {n cap : Nat} {l : List Int} {w : World} (R : NRow w a n cap l) (hn : n ≤ 900) (f t : Int) (res : List Int → List PartA)
    (HR : ∀ (a' : Option Addr) (n' cap' : Nat) (l' : List Int) (w' : World), NRow w' a' n' cap' l' → n' ≤ 900 → Calls Try.prog 43 #[.slice a' n' cap'] w' (OwnD w' (res l')))
    (hres : ∀ l', (res l').length ≤ l'.length + 5 ∧ ∀ x ∈ res l', x.2.1 ≤ l'.length ∧ x.2.2 ≤ l'.length) :
    Calls Try.prog 34 #[.slice a n cap, .int .i64 f, .int .i64 t, .func (.func 43) #[] #[]] w (OwnD w (inP res l f t)) := by
  have hm := R.max
  have hc := R.le
  have hln := R.len
  unfold maxLen at hm
  by_cases hm1 : 0 ≤ f ∧ f ≤ t ∧ t ≤ n
  · obtain ⟨F, rfl⟩ : ∃ F : Nat, f = F := ⟨f.toNat, by omega⟩
    obtain ⟨T, rfl⟩ : ∃ T : Nat, t = T := ⟨t.toNat, by omega⟩
    have hFT : F ≤ T := by omega
    have hTn : T ≤ n := by omega
    obtain ⟨F2, hF2⟩ : ∃ F2, F2 = F := ⟨_, rfl⟩
    have HIN := Lib.hid (show inP res l F T = shiftP F2 (res ((l.take T).drop F)) by unfold inP; rw [if_pos (by rw [hln]; exact hm1), hF2]; rfl)
    obtain ⟨P, hP⟩ : ∃ P, res ((l.take T).drop F) = P := ⟨_, rfl⟩
    have hsl : ((l.take T).drop F).length = T - F := by simp; omega
    have hPl := (hres ((l.take T).drop F)).1
    have HPM := Lib.hid (fun (x : PartA) (hx : x ∈ P) => (hres ((l.take T).drop F)).2 x (by rw [hP]; exact hx))
    rw [hP, hsl] at hPl
    rw [hsl] at HPM
    obtain ⟨A', hA'⟩ : ∃ A' : Option Addr, A' = (match a with | some x => if cap = F then some x else some (x.add F) | none => none) := ⟨_, rfl⟩
    have q1 : decide ((F : Int) < 0) = false := decide_eq_false (by omega)
    have q2 : decide (T < F) = false := decide_eq_false (by omega)
    have q3 : decide (n < T) = false := decide_eq_false (by omega)
    have hsub : NRow w A' (T - F) (cap - F) ((l.take T).drop F) := by
      refine ⟨hsl, by omega, by have := R.max; omega, ?_⟩
      intro j u hj
      rw [List.getElem?_map, List.getElem?_drop, List.getElem?_take] at hj
      split at hj
      · obtain ⟨b, off, rfl, hcl⟩ := R.cells (F + j) u (by rw [List.getElem?_map]; exact hj)
        have hne : ¬ cap = F := by omega
        rw [hA']
        simp only [if_neg hne]
        exact ⟨b, off + F, by rw [addr_add], by rw [Nat.add_assoc]; exact hcl⟩
      · simp at hj
    have HC := Lib.hid (hP ▸ HR A' (T - F) (cap - F) _ w hsub (by omega))
    rw [hP] at HIN
    have HF2 := Lib.hid hF2
    have hcs : (a = none ∧ A' = none) ∨ (∃ x, a = some x ∧ cap = F ∧ A' = some x) ∨ (∃ x, a = some x ∧ ¬ cap = F ∧ A' = some (x.add F)) := by
      cases a with
      | none => exact .inl ⟨rfl, hA'⟩
      | some x =>
        by_cases h : cap = F
        · exact .inr (.inl ⟨x, rfl, h, by rw [hA']; simp [h]⟩)
        · exact .inr (.inr ⟨x, rfl, h, by rw [hA']; simp [h]⟩)
    clear hsub hres HR hP hsl hm1 hA' R hF2
    rcases hcs with ⟨rfl, rfl⟩ | ⟨x, rfl, rfl, rfl⟩ | ⟨x, rfl, hne, rfl⟩
    all_goals
      (try rw [Nat.sub_self] at HC)
      go_enter Try.func34, Try.ntmps34
      go_wp2_with (go_at_call 43; (with_reducible refine HC.out.mono ?_); rintro e w1 ⟨v, rfl, hown, hb1⟩; obtain ⟨va, vc, rfl, hvc⟩ := owns_slice hown)
      have hvm := owns_cap hown
      unfold maxLen at hvm
      have HB1 := Lib.hid hb1
      have HOWN := Lib.hid hown
      clear hb1 hown
      go_loopw [10, 32] (fun _s i wr => ∃ k : Nat, i = .int .i64 k ∧ k ≤ P.length ∧ Hid (wr.ownsRow w.heap.size 32 3 (.slice va P.length vc) P.length (parsCells (halfP F2 P k)) ∧ Below w.heap.size w wr)) (fun _ i _ => P.length - (intOf i).toNat)
      case atStart => exact ⟨0, rfl, Nat.zero_le _, Lib.hid ⟨by rw [halfP_zero]; exact HOWN.out, HB1.out⟩⟩
      case round =>
        obtain ⟨k, rfl, hk, HO⟩ := hrel
        by_cases hlt : k < P.length
        · obtain ⟨g, hg⟩ := owns_addr HO.out.1 (by omega)
          subst hg
          obtain ⟨⟨x0, x1, x2⟩, hx⟩ : ∃ x, P[k]? = some x := ⟨_, List.getElem?_eq_getElem hlt⟩
          have hxm := HPM.out _ (List.mem_of_getElem? hx)
          simp only at hxm
          have c1 : wr.cell? ⟨g, k * 3 + 1, none⟩ = some (.int .i64 x1) := by rw [HO.out.1.cellAt _ (by omega), parsCells_at _ k _ 1 (halfP_get hx) (by omega)]; rfl
          have c2 : wr.cell? ⟨g, k * 3 + 2, none⟩ = some (.int .i64 x2) := by rw [HO.out.1.cellAt _ (by omega), parsCells_at _ k _ 2 (halfP_get hx) (by omega)]; rfl
          have z1 := HO.out.1.frozenAt (k * 3 + 1)
          have z2 := HO.out.1.frozenAt (k * 3 + 2)
          have i1 : (k : Int) < (P.length : Int) := by omega
          have HX := Lib.hid (fun (y z : Int) (hy : y = (x1 + F2 : Nat)) (hz : z = (x2 + F2 : Nat)) => owns_half HO.out.1 hx hy hz)
          have hgb : w.heap.size ≤ g := (HO.out.1.lt g rfl).1
          clear hx
          go_wp2
          go_roundw
          case rel => exact ⟨k + 1, by go_num, by omega, Lib.hid ⟨HX.out _ _ (by have := HF2.out; omega) (by have := HF2.out; omega), (HO.out.2.setCell (p := ⟨g, k * 3 + 1, none⟩) hgb _).setCell (p := ⟨g, k * 3 + 2, none⟩) hgb _⟩⟩
          case measure => simp [intOf]; omega
        · obtain rfl : k = P.length := by omega
          have HF := Lib.hid HO.out
          have hln2 := Lib.hid (shiftP_length F2 P)
          clear hlt
          go_wp2
          go_ret
          rw [HIN.out]
          refine ⟨_, rfl, ?_, HF.out.2⟩
          have h := HF.out.1
          rw [halfP_all] at h
          rw [hln2.out]
          exact h
  · have HIN := Lib.hid (show inP res l f t = [] by unfold inP; rw [if_neg (by rw [hln]; exact hm1)])
    have hcs : f < 0 ∨ (0 ≤ f ∧ t < f) ∨ (0 ≤ f ∧ f ≤ t ∧ (n : Int) < t) := by omega
    clear HR hres R hm1
    rcases hcs with h1 | ⟨h1, h2⟩ | ⟨h1, h2, h3⟩
    all_goals
      (try have q1 : decide (f < 0) = false := decide_eq_false (by omega))
      (try have q2 : decide (t < f) = false := decide_eq_false (by omega))
      go_enter Try.func34, Try.ntmps34
      go_wp2
      go_ret
      rw [HIN.out]
      exact ⟨_, rfl, World.ownsRow_nil _ _ _ _, Below.refl _ _⟩

set_option maxRecDepth 20000 in
set_option maxHeartbeats 4000000 in
theorem within_items {a : Option Addr} {n cap : Nat} {l : List Int} {w : World} (R : NRow w a n cap l) (hn : n ≤ 900) (f t : Int) (res : List Int → List PartA)
    (HR : ∀ (a' : Option Addr) (n' cap' : Nat) (l' : List Int) (w' : World), NRow w' a' n' cap' l' → n' ≤ 900 → Calls Try.prog 41 #[.slice a' n' cap'] w' (OwnD w' (res l')))
    (hres : ∀ l', (res l').length ≤ l'.length + 5 ∧ ∀ x ∈ res l', x.2.1 ≤ l'.length ∧ x.2.2 ≤ l'.length) :
    Calls Try.prog 34 #[.slice a n cap, .int .i64 f, .int .i64 t, .func (.func 41) #[] #[]] w (OwnD w (inP res l f t)) := by
  have hm := R.max
  have hc := R.le
  have hln := R.len
  unfold maxLen at hm
  by_cases hm1 : 0 ≤ f ∧ f ≤ t ∧ t ≤ n
  · obtain ⟨F, rfl⟩ : ∃ F : Nat, f = F := ⟨f.toNat, by omega⟩
    obtain ⟨T, rfl⟩ : ∃ T : Nat, t = T := ⟨t.toNat, by omega⟩
    have hFT : F ≤ T := by omega
    have hTn : T ≤ n := by omega
    obtain ⟨F2, hF2⟩ : ∃ F2, F2 = F := ⟨_, rfl⟩
    have HIN := Lib.hid (show inP res l F T = shiftP F2 (res ((l.take T).drop F)) by unfold inP; rw [if_pos (by rw [hln]; exact hm1), hF2]; rfl)
    obtain ⟨P, hP⟩ : ∃ P, res ((l.take T).drop F) = P := ⟨_, rfl⟩
    have hsl : ((l.take T).drop F).length = T - F := by simp; omega
    have hPl := (hres ((l.take T).drop F)).1
    have HPM := Lib.hid (fun (x : PartA) (hx : x ∈ P) => (hres ((l.take T).drop F)).2 x (by rw [hP]; exact hx))
    rw [hP, hsl] at hPl
    rw [hsl] at HPM
    obtain ⟨A', hA'⟩ : ∃ A' : Option Addr, A' = (match a with | some x => if cap = F then some x else some (x.add F) | none => none) := ⟨_, rfl⟩
    have q1 : decide ((F : Int) < 0) = false := decide_eq_false (by omega)
    have q2 : decide (T < F) = false := decide_eq_false (by omega)
    have q3 : decide (n < T) = false := decide_eq_false (by omega)
    have hsub : NRow w A' (T - F) (cap - F) ((l.take T).drop F) := by
      refine ⟨hsl, by omega, by have := R.max; omega, ?_⟩
      intro j u hj
      rw [List.getElem?_map, List.getElem?_drop, List.getElem?_take] at hj
      split at hj
      · obtain ⟨b, off, rfl, hcl⟩ := R.cells (F + j) u (by rw [List.getElem?_map]; exact hj)
        have hne : ¬ cap = F := by omega
        rw [hA']
        simp only [if_neg hne]
        exact ⟨b, off + F, by rw [addr_add], by rw [Nat.add_assoc]; exact hcl⟩
      · simp at hj
    have HC := Lib.hid (hP ▸ HR A' (T - F) (cap - F) _ w hsub (by omega))
    rw [hP] at HIN
    have HF2 := Lib.hid hF2
    have hcs : (a = none ∧ A' = none) ∨ (∃ x, a = some x ∧ cap = F ∧ A' = some x) ∨ (∃ x, a = some x ∧ ¬ cap = F ∧ A' = some (x.add F)) := by
      cases a with
      | none => exact .inl ⟨rfl, hA'⟩
      | some x =>
        by_cases h : cap = F
        · exact .inr (.inl ⟨x, rfl, h, by rw [hA']; simp [h]⟩)
        · exact .inr (.inr ⟨x, rfl, h, by rw [hA']; simp [h]⟩)
    clear hsub hres HR hP hsl hm1 hA' R hF2
    rcases hcs with ⟨rfl, rfl⟩ | ⟨x, rfl, rfl, rfl⟩ | ⟨x, rfl, hne, rfl⟩
    all_goals
      (try rw [Nat.sub_self] at HC)
      go_enter Try.func34, Try.ntmps34
      go_wp2_with (go_at_call 41; (with_reducible refine HC.out.mono ?_); rintro e w1 ⟨v, rfl, hown, hb1⟩; obtain ⟨va, vc, rfl, hvc⟩ := owns_slice hown)
      have hvm := owns_cap hown
      unfold maxLen at hvm
      have HB1 := Lib.hid hb1
      have HOWN := Lib.hid hown
      clear hb1 hown
      go_loopw [10, 32] (fun _s i wr => ∃ k : Nat, i = .int .i64 k ∧ k ≤ P.length ∧ Hid (wr.ownsRow w.heap.size 32 3 (.slice va P.length vc) P.length (parsCells (halfP F2 P k)) ∧ Below w.heap.size w wr)) (fun _ i _ => P.length - (intOf i).toNat)
      case atStart => exact ⟨0, rfl, Nat.zero_le _, Lib.hid ⟨by rw [halfP_zero]; exact HOWN.out, HB1.out⟩⟩
      case round =>
        obtain ⟨k, rfl, hk, HO⟩ := hrel
        by_cases hlt : k < P.length
        · obtain ⟨g, hg⟩ := owns_addr HO.out.1 (by omega)
          subst hg
          obtain ⟨⟨x0, x1, x2⟩, hx⟩ : ∃ x, P[k]? = some x := ⟨_, List.getElem?_eq_getElem hlt⟩
          have hxm := HPM.out _ (List.mem_of_getElem? hx)
          simp only at hxm
          have c1 : wr.cell? ⟨g, k * 3 + 1, none⟩ = some (.int .i64 x1) := by rw [HO.out.1.cellAt _ (by omega), parsCells_at _ k _ 1 (halfP_get hx) (by omega)]; rfl
          have c2 : wr.cell? ⟨g, k * 3 + 2, none⟩ = some (.int .i64 x2) := by rw [HO.out.1.cellAt _ (by omega), parsCells_at _ k _ 2 (halfP_get hx) (by omega)]; rfl
          have z1 := HO.out.1.frozenAt (k * 3 + 1)
          have z2 := HO.out.1.frozenAt (k * 3 + 2)
          have i1 : (k : Int) < (P.length : Int) := by omega
          have HX := Lib.hid (fun (y z : Int) (hy : y = (x1 + F2 : Nat)) (hz : z = (x2 + F2 : Nat)) => owns_half HO.out.1 hx hy hz)
          have hgb : w.heap.size ≤ g := (HO.out.1.lt g rfl).1
          clear hx
          go_wp2
          go_roundw
          case rel => exact ⟨k + 1, by go_num, by omega, Lib.hid ⟨HX.out _ _ (by have := HF2.out; omega) (by have := HF2.out; omega), (HO.out.2.setCell (p := ⟨g, k * 3 + 1, none⟩) hgb _).setCell (p := ⟨g, k * 3 + 2, none⟩) hgb _⟩⟩
          case measure => simp [intOf]; omega
        · obtain rfl : k = P.length := by omega
          have HF := Lib.hid HO.out
          have hln2 := Lib.hid (shiftP_length F2 P)
          clear hlt
          go_wp2
          go_ret
          rw [HIN.out]
          refine ⟨_, rfl, ?_, HF.out.2⟩
          have h := HF.out.1
          rw [halfP_all] at h
          rw [hln2.out]
          exact h
  · have HIN := Lib.hid (show inP res l f t = [] by unfold inP; rw [if_neg (by rw [hln]; exact hm1)])
    have hcs : f < 0 ∨ (0 ≤ f ∧ t < f) ∨ (0 ≤ f ∧ f ≤ t ∧ (n : Int) < t) := by omega
    clear HR hres R hm1
    rcases hcs with h1 | ⟨h1, h2⟩ | ⟨h1, h2, h3⟩
    all_goals
      (try have q1 : decide (f < 0) = false := decide_eq_false (by omega))
      (try have q2 : decide (t < f) = false := decide_eq_false (by omega))
      go_enter Try.func34, Try.ntmps34
      go_wp2
      go_ret
      rw [HIN.out]
      exact ⟨_, rfl, World.ownsRow_nil _ _ _ _, Below.refl _ _⟩

set_option maxRecDepth 20000 in
set_option maxHeartbeats 4000000 in
theorem within_doctype {a : Option Addr} {n cap : Nat} {l : List Int} {w : World} (R : NRow w a n cap l) (hn : n ≤ 900) (f t : Int) (res : List Int → List PartA)
    (HR : ∀ (a' : Option Addr) (n' cap' : Nat) (l' : List Int) (w' : World), NRow w' a' n' cap' l' → n' ≤ 900 → Calls Try.prog 35 #[.slice a' n' cap'] w' (OwnD w' (res l')))
    (hres : ∀ l', (res l').length ≤ l'.length + 5 ∧ ∀ x ∈ res l', x.2.1 ≤ l'.length ∧ x.2.2 ≤ l'.length) :
    Calls Try.prog 34 #[.slice a n cap, .int .i64 f, .int .i64 t, .func (.func 35) #[] #[]] w (OwnD w (inP res l f t)) := by
  have hm := R.max
  have hc := R.le
  have hln := R.len
  unfold maxLen at hm
  by_cases hm1 : 0 ≤ f ∧ f ≤ t ∧ t ≤ n
  · obtain ⟨F, rfl⟩ : ∃ F : Nat, f = F := ⟨f.toNat, by omega⟩
    obtain ⟨T, rfl⟩ : ∃ T : Nat, t = T := ⟨t.toNat, by omega⟩
    have hFT : F ≤ T := by omega
    have hTn : T ≤ n := by omega
    obtain ⟨F2, hF2⟩ : ∃ F2, F2 = F := ⟨_, rfl⟩
    have HIN := Lib.hid (show inP res l F T = shiftP F2 (res ((l.take T).drop F)) by unfold inP; rw [if_pos (by rw [hln]; exact hm1), hF2]; rfl)
    obtain ⟨P, hP⟩ : ∃ P, res ((l.take T).drop F) = P := ⟨_, rfl⟩
    have hsl : ((l.take T).drop F).length = T - F := by simp; omega
    have hPl := (hres ((l.take T).drop F)).1
    have HPM := Lib.hid (fun (x : PartA) (hx : x ∈ P) => (hres ((l.take T).drop F)).2 x (by rw [hP]; exact hx))
    rw [hP, hsl] at hPl
    rw [hsl] at HPM
    obtain ⟨A', hA'⟩ : ∃ A' : Option Addr, A' = (match a with | some x => if cap = F then some x else some (x.add F) | none => none) := ⟨_, rfl⟩
    have q1 : decide ((F : Int) < 0) = false := decide_eq_false (by omega)
    have q2 : decide (T < F) = false := decide_eq_false (by omega)
    have q3 : decide (n < T) = false := decide_eq_false (by omega)
    have hsub : NRow w A' (T - F) (cap - F) ((l.take T).drop F) := by
      refine ⟨hsl, by omega, by have := R.max; omega, ?_⟩
      intro j u hj
      rw [List.getElem?_map, List.getElem?_drop, List.getElem?_take] at hj
      split at hj
      · obtain ⟨b, off, rfl, hcl⟩ := R.cells (F + j) u (by rw [List.getElem?_map]; exact hj)
        have hne : ¬ cap = F := by omega
        rw [hA']
        simp only [if_neg hne]
        exact ⟨b, off + F, by rw [addr_add], by rw [Nat.add_assoc]; exact hcl⟩
      · simp at hj
    have HC := Lib.hid (hP ▸ HR A' (T - F) (cap - F) _ w hsub (by omega))
    rw [hP] at HIN
    have HF2 := Lib.hid hF2
    have hcs : (a = none ∧ A' = none) ∨ (∃ x, a = some x ∧ cap = F ∧ A' = some x) ∨ (∃ x, a = some x ∧ ¬ cap = F ∧ A' = some (x.add F)) := by
      cases a with
      | none => exact .inl ⟨rfl, hA'⟩
      | some x =>
        by_cases h : cap = F
        · exact .inr (.inl ⟨x, rfl, h, by rw [hA']; simp [h]⟩)
        · exact .inr (.inr ⟨x, rfl, h, by rw [hA']; simp [h]⟩)
    clear hsub hres HR hP hsl hm1 hA' R hF2
    rcases hcs with ⟨rfl, rfl⟩ | ⟨x, rfl, rfl, rfl⟩ | ⟨x, rfl, hne, rfl⟩
    all_goals
      (try rw [Nat.sub_self] at HC)
      go_enter Try.func34, Try.ntmps34
      go_wp2_with (go_at_call 35; (with_reducible refine HC.out.mono ?_); rintro e w1 ⟨v, rfl, hown, hb1⟩; obtain ⟨va, vc, rfl, hvc⟩ := owns_slice hown)
      have hvm := owns_cap hown
      unfold maxLen at hvm
      have HB1 := Lib.hid hb1
      have HOWN := Lib.hid hown
      clear hb1 hown
      go_loopw [10, 32] (fun _s i wr => ∃ k : Nat, i = .int .i64 k ∧ k ≤ P.length ∧ Hid (wr.ownsRow w.heap.size 32 3 (.slice va P.length vc) P.length (parsCells (halfP F2 P k)) ∧ Below w.heap.size w wr)) (fun _ i _ => P.length - (intOf i).toNat)
      case atStart => exact ⟨0, rfl, Nat.zero_le _, Lib.hid ⟨by rw [halfP_zero]; exact HOWN.out, HB1.out⟩⟩
      case round =>
        obtain ⟨k, rfl, hk, HO⟩ := hrel
        by_cases hlt : k < P.length
        · obtain ⟨g, hg⟩ := owns_addr HO.out.1 (by omega)
          subst hg
          obtain ⟨⟨x0, x1, x2⟩, hx⟩ : ∃ x, P[k]? = some x := ⟨_, List.getElem?_eq_getElem hlt⟩
          have hxm := HPM.out _ (List.mem_of_getElem? hx)
          simp only at hxm
          have c1 : wr.cell? ⟨g, k * 3 + 1, none⟩ = some (.int .i64 x1) := by rw [HO.out.1.cellAt _ (by omega), parsCells_at _ k _ 1 (halfP_get hx) (by omega)]; rfl
          have c2 : wr.cell? ⟨g, k * 3 + 2, none⟩ = some (.int .i64 x2) := by rw [HO.out.1.cellAt _ (by omega), parsCells_at _ k _ 2 (halfP_get hx) (by omega)]; rfl
          have z1 := HO.out.1.frozenAt (k * 3 + 1)
          have z2 := HO.out.1.frozenAt (k * 3 + 2)
          have i1 : (k : Int) < (P.length : Int) := by omega
          have HX := Lib.hid (fun (y z : Int) (hy : y = (x1 + F2 : Nat)) (hz : z = (x2 + F2 : Nat)) => owns_half HO.out.1 hx hy hz)
          have hgb : w.heap.size ≤ g := (HO.out.1.lt g rfl).1
          clear hx
          go_wp2
          go_roundw
          case rel => exact ⟨k + 1, by go_num, by omega, Lib.hid ⟨HX.out _ _ (by have := HF2.out; omega) (by have := HF2.out; omega), (HO.out.2.setCell (p := ⟨g, k * 3 + 1, none⟩) hgb _).setCell (p := ⟨g, k * 3 + 2, none⟩) hgb _⟩⟩
          case measure => simp [intOf]; omega
        · obtain rfl : k = P.length := by omega
          have HF := Lib.hid HO.out
          have hln2 := Lib.hid (shiftP_length F2 P)
          clear hlt
          go_wp2
          go_ret
          rw [HIN.out]
          refine ⟨_, rfl, ?_, HF.out.2⟩
          have h := HF.out.1
          rw [halfP_all] at h
          rw [hln2.out]
          exact h
  · have HIN := Lib.hid (show inP res l f t = [] by unfold inP; rw [if_neg (by rw [hln]; exact hm1)])
    have hcs : f < 0 ∨ (0 ≤ f ∧ t < f) ∨ (0 ≤ f ∧ f ≤ t ∧ (n : Int) < t) := by omega
    clear HR hres R hm1
    rcases hcs with h1 | ⟨h1, h2⟩ | ⟨h1, h2, h3⟩
    all_goals
      (try have q1 : decide (f < 0) = false := decide_eq_false (by omega))
      (try have q2 : decide (t < f) = false := decide_eq_false (by omega))
      go_enter Try.func34, Try.ntmps34
      go_wp2
      go_ret
      rw [HIN.out]
      exact ⟨_, rfl, World.ownsRow_nil _ _ _ _, Below.refl _ _⟩

end Go.Proofs.Ytpjcheelafegbaa
