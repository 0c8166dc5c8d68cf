/-
  Layer 14: the program's Plainly.
-/
import Derived.Test.YtbljgoieieoamaaRfK
namespace Go.Proofs.Ytbljgoieieoamaa
open Go.RowKit
set_option linter.unusedVariables false

def plF (l : List Int) : List Pc → Option (List Int)
  | [] => some []
  | x :: r => if x.1 = 1 then (plF l r).map (fun o => (l.take x.2.2.1).drop x.2.1 ++ o) else if x.1 = 2 then (plF l r).map (fun o => [x.2.2.2.1] ++ o)
      else if x.1 = 3 then (if knI (strOfNums x.2.2.2.2) < 0 then none else (plF l r).map (fun o => [knI (strOfNums x.2.2.2.2)] ++ o)) else none
def plainP (l : List Int) : Option (List Int) := plF l (pcs l)

theorem pcsF_bd : ∀ (f k : Nat) (L : List Int), ∀ x ∈ pcsF f k L, x.2.1 < x.2.2.1 ∧ x.2.2.1 ≤ k + L.length ∧ 1 ≤ x.1 ∧ x.1 ≤ 4
  | 0, _, _, x, hx => by simp [pcsF] at hx
  | f + 1, k, [], x, hx => by simp [pcsF] at hx
  | f + 1, k, r :: L, x, hx => by
    simp only [pcsF, List.mem_cons] at hx
    obtain ⟨h1, h2, h3, h4⟩ := pieceP_ok (L := r :: L) (by simp)
    rcases hx with rfl | hx
    · simp only [pcAt]; exact ⟨by omega, by omega, h3, h4⟩
    · have := pcsF_bd f _ _ x hx
      rw [List.length_drop] at this
      omega
theorem pcs_bd (l : List Int) : ∀ x ∈ pcs l, x.2.1 < x.2.2.1 ∧ x.2.2.1 ≤ l.length ∧ 1 ≤ x.1 ∧ x.1 ≤ 4 := fun x hx => by
  have := pcsF_bd _ _ _ x hx
  omega
theorem pcsF_len : ∀ (f k : Nat) (l : List Int), (pcsF f k l).length ≤ f
  | 0, _, _ => by simp [pcsF]
  | f + 1, k, [] => by simp [pcsF]
  | f + 1, k, r :: l => by
    have := pcsF_len f (k + (pieceP (r :: l)).2.1) ((r :: l).drop (pieceP (r :: l)).2.1)
    simp only [pcsF, List.length_cons]; omega

/-- What Plainly answers. -/
def PlR (w : World) (o : Option (List Int)) (e : Ending) (w' : World) : Prop :=
  (match o with | some d => ∃ v, e = .returned (.tuple #[v, .bool true]) ∧ w'.ownsRow w.heap.size 21 1 v d.length (d.map (Value.int .i32)) | none => e = .returned (.tuple #[.slice none 0 0, .bool false])) ∧ Below w.heap.size w w'
theorem PlR.some_ {w w' : World} {d : List Int} {v : Value} (h1 : w'.ownsRow w.heap.size 21 1 v d.length (d.map (Value.int .i32))) (h2 : Below w.heap.size w w') : PlR w (some d) (.returned (.tuple #[v, .bool true])) w' := ⟨⟨v, rfl, h1⟩, h2⟩
theorem PlR.none_ {w w' : World} (h2 : Below w.heap.size w w') : PlR w none (.returned (.tuple #[.slice none 0 0, .bool false])) w' := ⟨rfl, h2⟩

theorem addr_addG (b off j : Nat) : (⟨b, off, none⟩ : Addr).add j = ⟨b, off + j, none⟩ := by unfold Addr.add; split <;> simp_all

theorem own_typesG {w : World} {base base' n n' size size' : Nat} {e e' : TypeId} {v v' : Value} {xs xs' : List Value} (h : w.ownsRow base e size v n xs) (h' : w.ownsRow base' e' size' v' n' xs') (hne : e ≠ e') : v.ownBlock = none ∨ v.ownBlock ≠ v'.ownBlock := by
  obtain ⟨_, ⟨rfl, _⟩ | ⟨g, c, cur, rfl, _, hg, _⟩⟩ := h
  · exact .inl rfl
  · refine .inr fun he => ?_
    obtain ⟨_, ⟨rfl, _⟩ | ⟨g', c', cur', rfl, _, hg', _⟩⟩ := h'
    · simp [Value.ownBlock] at he
    · simp only [Value.ownBlock, Option.some.injEq] at he
      subst he
      rw [hg] at hg'
      simp at hg'
      exact hne hg'.2

/-- Runes that grow beside pieces that are gone through. -/
structure PG (w wr : World) (v vp : Value) (A : List Int) (P : List Pc) : Prop where
  o1 : wr.ownsRow w.heap.size 21 1 v A.length (A.map (Value.int .i32))
  o2 : wr.ownsRow w.heap.size 51 5 vp P.length (pcsCells P)
  below : Below w.heap.size w wr
theorem PG.next {w wr w' : World} {v vp : Value} {A : List Int} {P : List Pc} (h : PG w wr v vp A P) (hb : Below wr.heap.size wr w') : PG w w' v vp A P := ⟨owns_below h.o1 hb, owns_below h.o2 hb, Below.more h.below hb⟩
theorem PG.app {w wr w' : World} {v vp v' : Value} {A B : List Int} {P : List Pc} (h : PG w wr v vp A P) {k : Nat} (hk : k = (A ++ B).length) (hown : w'.ownsRow w.heap.size 21 1 v' k (A.map (Value.int .i32) ++ B.map (Value.int .i32))) (hg : wr.grownBy w' v.ownBlock) : PG w w' v' vp (A ++ B) P := by
  subst hk
  exact ⟨by rw [List.map_append]; exact hown, h.o2.kept hg (own_typesG h.o2 h.o1 (by decide)), h.below.grown hg h.below.size (fun k hk => (h.o1.lt k hk).1)⟩

theorem map_step {l A B : List Int} {r : List Pc} {o : Option (List Int)} (h : ((plF l r).map (fun o => B ++ o)).map (fun o => A ++ o) = o) : (plF l r).map (fun o => (A ++ B) ++ o) = o := by
  rw [← h, Option.map_map]
  congr 1
  funext x
  simp

set_option maxRecDepth 20000 in
set_option maxHeartbeats 4000000 in
theorem plainly_any {w : World} {a : Option Addr} {n cap : Nat} {l : List Int} (R : NRw w a n cap l) (hn : n ≤ 1000) : Calls Try.prog 29 #[.slice a n cap] w (PlR w (plainP l)) := by
  obtain ⟨i0, hi, hz0, hz1, hz2⟩ := info_parts Try.infoI32
  have HI := Lib.hid (And.intro hi (And.intro hz0 (And.intro hz1 hz2)))
  have HR := Lib.hid R
  have hle := R.le
  have HM0 := Lib.hid (And.intro (show i0.bytes * n ≤ 281474976710656 by rw [hz2]; omega) (show n ≤ maxLen by unfold maxLen; omega))
  obtain ⟨P, hP⟩ : ∃ P, P = pcs l := ⟨_, rfl⟩
  have HPE := Lib.hid hP
  have HBD := Lib.hid (show ∀ x ∈ P, x.2.1 < x.2.2.1 ∧ x.2.2.1 ≤ n ∧ 1 ≤ x.1 ∧ x.1 ≤ 4 from by rw [hP]; intro x hx; have := pcs_bd l x hx; rw [R.len] at this; exact this)
  obtain ⟨pn, hpn⟩ : ∃ pn, pn = P.length := ⟨_, rfl⟩
  have HPN := Lib.hid hpn
  have hpb : pn ≤ 1000 := by have h := pcsF_len l.length 0 l; rw [hpn, hP]; unfold pcs; rw [R.len] at h ⊢; omega
  obtain ⟨res, hres⟩ : ∃ res, res = plainP l := ⟨_, rfl⟩
  have HRE := Lib.hid (show plF l P = res from by rw [hres, hP]; rfl)
  rw [← hres]
  clear hi hz0 hz1 hz2 R hP hpn hres
  go_enter Try.func29, Try.ntmps29
  go_wp2_with (first
    | (at_make; refine wpList_make_own _ rfl _ _ 43 rfl w.heap.size 21 i0 (.int .i32 0) 1 Try.underlying43 HI.out.1 HI.out.2.1 HI.out.2.2.1 .i64 .i64 n n rfl rfl rfl HM0.out.1 HM0.out.2 (Nat.le_refl _) ?_; intro w1 hown1 hgrow1; have HO1 := Lib.hid (And.intro hown1 (show Below w.heap.size w w1 from (Below.refl _ _).grown hgrow1 (Nat.le_refl _) (fun k hk => by cases hk))); clear hown1 hgrow1)
    | (go_at_call 21; (with_reducible refine (pieces_any (HR.out.below HO1.out.2) hn).mono ?_); rintro e w3 ⟨v3, rfl, own3, hb3⟩; (rw [← HPE.out] at own3); have HP3 := Lib.hid (show PG w w3 (.slice (some ⟨w.heap.size, 0, none⟩) 0 n) v3 [] P from ⟨owns_below HO1.out.1 hb3, owns_lower own3 HO1.out.2.size, Below.more HO1.out.2 hb3⟩); (rw [← HPN.out] at own3); obtain ⟨a3, c3, rfl, hc3⟩ := owns_slice own3; clear own3 hb3 hc3))
  go_loopw [4, 15] (fun v iv wr => ∃ (j : Nat) (v' : Value) (A : List Int), iv = .int .i64 j ∧ v' = v ∧ j ≤ pn ∧ A.length ≤ 1000 * j ∧ Hid (PG w wr v' (.slice a3 pn c3) A P) ∧ Hid ((plF l (P.drop j)).map (fun o => A ++ o) = res)) (fun _ iv _ => pn - (intOf iv).toNat)
  case atStart => exact ⟨0, _, [], rfl, rfl, Nat.zero_le _, by simp, HP3, Lib.hid (by rw [List.drop_zero, HRE.out]; simp)⟩
  case round =>
    obtain ⟨j, v0, A, rfl, rfl, hj, hA, HO, HPL⟩ := hrel
    obtain ⟨m, hm⟩ : ∃ m, m = A.length := ⟨_, rfl⟩
    rw [← hm] at hA
    have HML := Lib.hid hm
    have HO2 := Lib.hid (show wr.ownsRow w.heap.size 21 1 v0 m (A.map (Value.int .i32)) from by rw [hm]; exact HO.out.o1)
    clear hm
    by_cases hlt : j < pn
    · obtain ⟨x, hx⟩ : ∃ x, P[j]? = some x := ⟨_, List.getElem?_eq_getElem (by rw [← HPN.out]; exact hlt)⟩
      obtain ⟨q1, q2, q3, q4⟩ := HBD.out x (List.mem_of_getElem? hx)
      obtain ⟨b3, o3, rfl, d0, d1, d2, d3, d4⟩ := pc_cells (show AtCells wr a3 (pcsCells P) from AtCells.of_owns (by have h := HO.out.o2; rw [← HPN.out] at h; exact h)) hx
      obtain ⟨hl1, hl2⟩ := List.getElem?_eq_some_iff.1 hx
      have hpl := HPL.out
      rw [List.drop_eq_getElem_cons hl1, hl2, plF] at hpl
      obtain ⟨x0, x1, x2, x3, x4⟩ := x
      simp only at q1 q2 q3 q4 d0 d1 d2 d3 d4 hpl
      obtain ⟨S, hS⟩ : ∃ S, S = strOfNums x4 := ⟨_, rfl⟩
      rw [← hS] at d4 hpl
      have hjz : (j : Int) < (pn : Int) := by omega
      have hjw : IntKind.i64.wrap ((j : Int) + 1) = (j : Int) + 1 := by rw [IntKind.wrap_i64]; omega
      obtain ⟨b, off, rfl, R'⟩ := HR.out.some_ (by omega)
      have HR2 := Lib.hid R'
      clear hx hl1 hl2 hS HPL R'
      have hcs : x0 = 1 ∨ x0 = 2 ∨ x0 = 3 ∨ x0 = 4 := by omega
      clear q3 q4
      rcases hcs with rfl | rfl | rfl | rfl
      · rw [if_pos rfl] at hpl
        have HN := Lib.hid (map_step hpl)
        have f1 : ¬ cap = x1 := by omega
        have f2 : (x1 : Int) ≤ (x2 : Int) := by omega
        have f3 : (x2 : Int) ≤ (cap : Int) := by omega
        have f4 : x1 ≤ x2 := by omega
        have f5 : x2 ≤ cap := by omega
        have HSL := Lib.hid (show ((l.take x2).drop x1).length = x2 - x1 from by rw [List.length_drop, List.length_take, HR2.out.len]; omega)
        have HAT := Lib.hid (fun (W : World) (hb : Below w.heap.size w W) => show AtCells W (some ⟨b, off + x1, none⟩) (((l.take x2).drop x1).map (.int .i32)) from by
          rw [List.map_drop, List.map_take]; exact ((HR2.out.cells.below hb).take x2).drop x1)
        have HNW := Lib.hid (fun (o : Obj) => show ∀ j u, (((l.take x2).drop x1).map (Value.int .i32))[j]? = some u → (wr.alloc o).cell? ((⟨b, off + x1, none⟩ : Addr).add j) = some u from fun j u hu => by
          obtain ⟨_, _, he, hc⟩ := HAT.out _ (Below.more HO.out.below (one_ok wr o)) j u hu
          cases he
          rw [addr_addG]; exact hc)
        have HNO := Lib.hid (show ∀ u ∈ ((l.take x2).drop x1).map (Value.int .i32), u.oneCell' = true from fun u hu => by obtain ⟨_, _, rfl⟩ := List.mem_map.1 hu; rfl)
        clear hpl
        go_wp2_with (at_builtin; refine wpList_append_own _ rfl _ _ 43 rfl w.heap.size 21 i0 _ 1 4 Try.underlying43 HI.out.1 HI.out.2.1 HI.out.2.2.1 HI.out.2.2.2 rfl (by decide) _ _ _ rfl (owns_below HO2.out (one_ok wr _)) _ _ _ (((l.take x2).drop x1).map (.int .i32)) rfl (by rw [List.length_map, HSL.out, Nat.mul_one]) (HNW.out _) (HNO.out) (by unfold maxLen; omega) (by omega) (Nat.le_trans HO.out.below.size (one_ok wr _).size) ?_; intro v' w4 hown' hg' _; have HF := Lib.hid (PG.app (HO.out.next (one_ok wr _)) (by have h1 := HSL.out; have h2 := HML.out; rw [List.length_append, h1]; omega) hown' hg'); clear hown' hg')
        go_roundw
        case rel => exact ⟨j + 1, _, _, by go_num, rfl, by omega, by have h1 := HSL.out; have h2 := HML.out; rw [List.length_append, h1]; omega, HF, HN⟩
        case measure => simp [intOf]; omega
      · rw [if_neg (by decide), if_pos rfl] at hpl
        have HN := Lib.hid (map_step hpl)
        clear hpl
        go_wp2_with (at_builtin; refine wpList_append_own _ rfl _ _ 43 rfl w.heap.size 21 i0 _ 1 4 Try.underlying43 HI.out.1 HI.out.2.1 HI.out.2.2.1 HI.out.2.2.2 rfl (by decide) _ _ _ rfl ((owns_below HO2.out (one_ok wr _)).alloc _) _ _ _ [.int .i32 x3] rfl rfl (new_cells_at _ _ _ _ (by simp)) (by simp [Value.oneCell']) (by unfold maxLen; omega) (by omega) (Nat.le_trans HO.out.below.size (two_ok wr _ _).size) ?_; intro v' w4 hown' hg' _; have HF := Lib.hid (PG.app (B := [x3]) (HO.out.next (two_ok wr _ _)) (by have h2 := HML.out; rw [List.length_append, ← h2]; rfl) hown' hg'); clear hown' hg')
        go_roundw
        case rel => exact ⟨j + 1, _, _, by go_num, rfl, by omega, by have h2 := HML.out; rw [List.length_append, ← h2, List.length_singleton]; omega, HF, HN⟩
        case measure => simp [intOf]; omega
      · rw [if_neg (by decide), if_neg (by decide), if_pos rfl] at hpl
        have HK := Lib.hid (fun (W : World) => known_any S W)
        by_cases hk : knI S < 0
        · rw [if_pos hk] at hpl
          have hv : knV (knI S) = .tuple #[.int .i32 0, .bool false] := by unfold knV; rw [if_pos hk]
          rw [hv] at HK
          have HN := Lib.hid hpl
          clear hpl hv hk
          go_wp2_with (go_at_call 26; (with_reducible refine (HK.out _).mono ?_); rintro e w5 ⟨rfl, rfl⟩)
          go_ret2
          rw [← HN.out]
          exact PlR.none_ (Below.more HO.out.below (one_ok wr _))
        · rw [if_neg hk] at hpl
          have hv : knV (knI S) = .tuple #[.int .i32 (knI S), .bool true] := by unfold knV; rw [if_neg hk]
          rw [hv] at HK
          have HN := Lib.hid (map_step hpl)
          obtain ⟨y, hy⟩ : ∃ y, y = knI S := ⟨_, rfl⟩
          rw [← hy] at HK HN
          clear hpl hv hk hy
          go_wp2_with (first
            | (at_builtin; refine wpList_append_own _ rfl _ _ 43 rfl w.heap.size 21 i0 _ 1 4 Try.underlying43 HI.out.1 HI.out.2.1 HI.out.2.2.1 HI.out.2.2.2 rfl (by decide) _ _ _ rfl ((owns_below HO2.out (one_ok wr _)).alloc _) _ _ _ [.int .i32 y] rfl rfl (new_cells_at _ _ _ _ (by simp)) (by simp [Value.oneCell']) (by unfold maxLen; omega) (by omega) (Nat.le_trans HO.out.below.size (two_ok wr _ _).size) ?_; intro v' w4 hown' hg' _; have HF := Lib.hid (PG.app (B := [y]) (HO.out.next (two_ok wr _ _)) (by have h2 := HML.out; rw [List.length_append, ← h2]; rfl) hown' hg'); clear hown' hg')
            | (go_at_call 26; (with_reducible refine (HK.out _).mono ?_); rintro e w5 ⟨rfl, rfl⟩))
          go_roundw
          case rel => exact ⟨j + 1, _, _, by go_num, rfl, by omega, by have h2 := HML.out; rw [List.length_append, ← h2, List.length_singleton]; omega, HF, HN⟩
          case measure => simp [intOf]; omega
      · rw [if_neg (by decide), if_neg (by decide), if_neg (by decide)] at hpl
        have HN := Lib.hid hpl
        clear hpl
        go_wp2
        go_ret2
        rw [← HN.out]
        exact PlR.none_ (Below.more HO.out.below (one_ok wr _))
    · obtain rfl : j = pn := by omega
      have hjf : ¬ (j : Int) < (j : Int) := by omega
      have hpl := HPL.out
      rw [List.drop_eq_nil_of_le (by rw [← HPN.out]; exact Nat.le_refl _), plF] at hpl
      simp only [Option.map_some, List.append_nil] at hpl
      have HN := Lib.hid hpl
      clear hlt hpl
      go_wp2
      go_ret2
      rw [← HN.out]
      exact PlR.some_ HO.out.o1 HO.out.below

end Go.Proofs.Ytbljgoieieoamaa
