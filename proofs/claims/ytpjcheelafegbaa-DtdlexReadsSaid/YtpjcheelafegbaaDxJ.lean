/-
  Contract of layer 9: behind: the place behind the first sign from a place on; what is gone is not looked for again.
-/
import Derived.Test.YtpjcheelafegbaaDxI
import Derived.BigQuiet
import Derived.Deep.AppendLies
namespace Go.Proofs.Ytpjcheelafegbaa
open Go.RowKit
set_option linter.unusedVariables false

/-- The place behind the first sign, from a place on; 0, if there is none. -/
def bhP (s : ByteArray) (l : List Int) (k : Nat) : Int := match fnd (sg s) (l.drop k) with | some j => (k : Int) + j + s.size | none => 0
/-- What a call that may write into a subset answers. -/
def SubSays (A0 : Nat) (p : Nat) (a : Option Addr) (n cap : Nat) (l : List Int) (k : Nat) (gv : Value) (w : World) (v : Value) (e : Ending) (w' : World) : Prop :=
  ∃ gv' G', e = .returned v ∧ Sub A0 w' p a n cap l k gv' G' ∧ Step p gv gv' w w'
theorem Sub.gvlt {A0 : Nat} {w : World} {p : Nat} {a : Option Addr} {n cap : Nat} {l : List Int} {k : Nat} {gv : Value} {G : List ByteArray} (h : Sub A0 w p a n cap l k gv G) : ∀ x, gv.ownBlock = some x → x < w.heap.size := fun x hx => (h.gone.lt x hx).2
theorem Sub.gvne {A0 : Nat} {w : World} {p : Nat} {a : Option Addr} {n cap : Nat} {l : List Int} {k : Nat} {gv : Value} {G : List ByteArray} (h : Sub A0 w p a n cap l k gv G) : gv.ownBlock ≠ some p := fun hc => by
  have := (h.gone.lt p hc).1
  have := h.lt
  omega
theorem below_drewQ (w : World) (m : Nat) : Below w.heap.size w (w.drewN m) := below_drewN (Below.refl _ _) m

theorem frozen_setCellD (w : World) (p q : Addr) (u : Value) : (w.setCell p u).frozen? q = w.frozen? q := World.frozen?_setCell _ _ _ _
theorem size_setCell' (w : World) (a : Addr) (u : Value) : (w.setCell a u).heap.size = w.heap.size := by simp [World.setCell]
theorem sub_keep_far {W w4 : World} {o : Obj} {row : Option Nat} (hg : (W.alloc o).grownBy w4 row) (x : Nat) (hx : x < W.heap.size) (hne : row ≠ some x) : w4.heap[x]? = W.heap[x]? := by
  rw [hg.block x (by simp; omega) hne.symm, Below.heap_alloc W o x hx]
theorem sub_keep {W w4 : World} {o : Obj} {v : Value} {A0 n : Nat} {xs : List Value} {e : TypeId} (hg : (W.alloc o).grownBy w4 v.ownBlock) (hA : A0 ≤ W.heap.size) (ho : W.ownsRow A0 e 1 v n xs) (x : Nat) (hx : x < A0) : w4.heap[x]? = W.heap[x]? :=
  sub_keep_far hg x (by omega) (fun hc => by have := (ho.lt x hc).1; omega)
theorem sub_keep_size {W w4 : World} {o : Obj} {row : Option Nat} (hg : (W.alloc o).grownBy w4 row) : W.heap.size ≤ w4.heap.size := by
  have := hg.size
  simp at this
  omega
/-- A subset with one more sign that is gone. -/
theorem sub_put {A0 : Nat} {W w4 : World} {p : Nat} {a : Option Addr} {n cap : Nat} {l : List Int} {k k2 : Nat} {gv gv' : Value} {G : List ByteArray} {s : ByteArray} (h : Sub A0 W p a n cap l k gv G) (hk : k ≤ k2) (hkeep : ∀ x, x < A0 → w4.heap[x]? = W.heap[x]?) (hs : W.heap.size ≤ w4.heap.size)
    (hown : w4.ownsRow A0 9 1 gv' (G ++ [s]).length ((G ++ [s]).map Value.string)) (hj : fnd (sg s) (l.drop (k2 + offS s)) = none) (hin : s ∉ G) (hsn : s = ⟨#[45, 45, 62]⟩ ∨ s = ⟨#[63, 62]⟩) (hfew : (G ++ [s]).length ≤ 2) :
    Sub A0 (w4.setCell ⟨p, 2, none⟩ gv') p a n cap l k2 gv' (G ++ [s]) := by
  have hlt := h.lt
  obtain ⟨ga, g1, g2, g3⟩ := h.ends
  have c : ∀ b i, b < A0 → w4.cell? ⟨b, i, none⟩ = W.cell? ⟨b, i, none⟩ := fun b i hb => World.cell?_of_block (hkeep b hb)
  have d : ∀ b i, b < p → (w4.setCell ⟨p, 2, none⟩ gv').cell? ⟨b, i, none⟩ = W.cell? ⟨b, i, none⟩ := fun b i hb => by
    rw [World.cell?_setCell_other _ _ _ _ (ne_blk (by omega))]; exact c b i (by omega)
  have d' : ∀ i, i ≠ 2 → (w4.setCell ⟨p, 2, none⟩ gv').cell? ⟨p, i, none⟩ = W.cell? ⟨p, i, none⟩ := fun i hi => by
    rw [World.cell?_setCell_other _ _ _ _ (fun e => hi (by cases e; rfl))]; exact c p i hlt
  refine ⟨h.len, h.le, h.max, fun j u hj => by obtain ⟨b, off, ha, hl, hc⟩ := h.cells j u hj; exact ⟨b, off, ha, hl, by rw [d _ _ hl]; exact hc⟩, hlt,
    ⟨ga, g1, by rw [d' 1 (by omega)]; exact g2, fun j hj => by rw [d _ _ g1]; exact g3 j hj⟩, by rw [d' 0 (by omega)]; exact h.c0, World.cell?_setCell_same _ _ _ ((c p 2 hlt).trans h.c2),
    fun i => by rw [frozen_setCellD]; exact (World.frozen?_of_block (hkeep p hlt)).trans (h.fz i), by rw [size_setCell']; exact Nat.le_trans h.size hs,
    ownsRow_setCell_below hown hlt _, hfew, fun t ht => ?_, ?_, fun t ht => ?_⟩
  · rcases List.mem_append.1 ht with ht | ht
    · exact fnd_mono (h.none_ t ht) (by omega) (by rcases h.signs.2 t ht with rfl | rfl <;> decide)
    · simp at ht; subst ht; exact hj
  · rw [List.nodup_append]
    exact ⟨h.signs.1, by simp, fun x hx y hy => by simp at hy; subst hy; exact fun e => hin (e ▸ hx)⟩
  · rcases List.mem_append.1 ht with ht | ht
    · exact h.signs.2 t ht
    · simp at ht; subst ht; exact hsn

section
variable {A0 : Nat} {w : World} {p : Nat} {n cap : Nat} {l : List Int} {k : Nat} {gv : Value} {G : List ByteArray} {b off : Nat}

set_option maxHeartbeats 1000000 in
theorem bh_gone (h : Sub A0 w p (some ⟨b, off, none⟩) n cap l k gv G) {s : ByteArray} (S : Sign s) (k2 f : Nat) (hk : k ≤ k2) (hfo : f = k2 + offS s) (hf : f ≤ n) (hin : s ∈ G) :
    Calls Try.prog 97 #[.pointer (some ⟨p, 0, none⟩), .int .i64 (f : Nat), .string s] w (SubSays A0 p (some ⟨b, off, none⟩) n cap l k2 gv w (.int .i64 (bhP s l f))) := by
  obtain ⟨ga, gc, hgv, hgc⟩ := owns_slice h.gone
  have hfew := h.few
  have HC := Lib.hid (containsS_at (a := ga) (m := G.length) (c := gc) (G := G) (r := s) (v := true) ⟨fun _ => hin, fun _ => rfl⟩ w rfl (by omega) (AtCells.of_owns (hgv ▸ h.gone)))
  have c2 := h.c2
  have HS := Lib.hid h
  have HN := Lib.hid (show bhP s l f = 0 by unfold bhP; rw [fnd_mono (h.none_ s hin) (by omega) (sg_pos S)])
  rw [hgv] at c2
  have HG := Lib.hid hgv
  clear h hgv hin hfo
  go_enter Try.func97, Try.ntmps97
  go_wp2_with (go_at_call 101; (with_reducible refine HC.out.mono ?_); rintro e w1 ⟨rfl, rfl⟩)
  go_ret
  exact ⟨gv, G, by rw [HN.out]; rfl, HS.out.on hk, Step.of_below (Below.refl _ _) HS.out.gvlt⟩

set_option maxHeartbeats 1000000 in
theorem bh_some (h : Sub A0 w p (some ⟨b, off, none⟩) n cap l k gv G) {s : ByteArray} (S : Sign s) (k2 f : Nat) (hk : k ≤ k2) (hfo : f = k2 + offS s) (hf : f ≤ n) (hin : s ∉ G) {j : Nat} (hj : fnd (sg s) (l.drop f) = some j) :
    Calls Try.prog 97 #[.pointer (some ⟨p, 0, none⟩), .int .i64 (f : Nat), .string s] w (SubSays A0 p (some ⟨b, off, none⟩) n cap l k2 gv w (.int .i64 (bhP s l f))) := by
  obtain ⟨ga, gc, hgv, hgc⟩ := owns_slice h.gone
  have hfew := h.few
  have HC := Lib.hid (containsS_at (a := ga) (m := G.length) (c := gc) (G := G) (r := s) (v := false) ⟨(fun h => by cases h), fun h => absurd h hin⟩ w rfl (by omega) (AtCells.of_owns (hgv ▸ h.gone)))
  have c2 := h.c2
  have c0 := h.c0
  have hm := h.max
  have hc := h.le
  unfold maxLen at hm
  have RR : RRow w b off n cap l := ⟨h.len, h.le, h.max, h.cells.at_⟩
  have HF := Lib.hid (fun q => find_any (RR.drewN q) S f hf)
  rw [hj] at HF
  simp only [fndI] at HF
  have hs2 := S.small
  have hjl := (fnd_le _ _ _ hj).1
  rw [dropl, h.len, sg_length] at hjl
  have HS := Lib.hid h
  have HN := Lib.hid (show bhP s l f = (f : Int) + j + s.size by unfold bhP; rw [hj])
  rw [hgv] at c2
  have HG := Lib.hid hgv
  clear h hgv hin RR hj hfo
  go_enter Try.func97, Try.ntmps97
  go_wp2_with (go_at_call 101; (with_reducible refine HC.out.mono ?_); rintro e w1 ⟨rfl, rfl⟩)
  go_quiet ((go_at_call 82; exact Calls.quiet_of (HF.out _)))
  go_wp2
  go_ret
  have hb := below_drewQ w1 nq
  exact ⟨gv, G, by rw [HN.out]; rfl, (HS.out.below hb).on hk, Step.of_below hb HS.out.gvlt⟩

set_option maxHeartbeats 2000000 in
theorem bh_none (h : Sub A0 w p (some ⟨b, off, none⟩) n cap l k gv G) {s : ByteArray} (S : Sign s) (hsn : s = ⟨#[45, 45, 62]⟩ ∨ s = ⟨#[63, 62]⟩) (k2 f : Nat) (hk : k ≤ k2) (hfo : f = k2 + offS s) (hf : f ≤ n) (hin : s ∉ G) (hj : fnd (sg s) (l.drop f) = none) :
    Calls Try.prog 97 #[.pointer (some ⟨p, 0, none⟩), .int .i64 (f : Nat), .string s] w (SubSays A0 p (some ⟨b, off, none⟩) n cap l k2 gv w (.int .i64 (bhP s l f))) := by
  obtain ⟨i0, hi, hz0, hz1, hz2⟩ := info_parts Try.infoStrD
  obtain ⟨ga, gc, hgv, hgc⟩ := owns_slice h.gone
  have hfew := h.few
  -- two signs may be gone, and this one is not: so one at most is
  have hfew1 : G.length ≤ 1 := by
    rcases Nat.lt_or_ge 1 G.length with hl | hl
    · exfalso
      obtain ⟨x, y, rfl⟩ : ∃ x y, G = [x, y] := by
        match G, hl, hfew with
        | [x, y], _, _ => exact ⟨x, y, rfl⟩
      have hnd := h.signs.1
      have hx := h.signs.2 x (by simp)
      have hy := h.signs.2 y (by simp)
      simp at hnd hin
      rcases hx with rfl | rfl <;> rcases hy with rfl | rfl <;> rcases hsn with rfl | rfl <;> simp_all
    · exact hl
  have HC := Lib.hid (containsS_at (a := ga) (m := G.length) (c := gc) (G := G) (r := s) (v := false) ⟨(fun h => by cases h), fun h => absurd h hin⟩ w rfl (by omega) (AtCells.of_owns (hgv ▸ h.gone)))
  have c2 := h.c2
  have c0 := h.c0
  have fz := h.fz
  have hm := h.max
  have hc := h.le
  unfold maxLen at hm
  have RR : RRow w b off n cap l := ⟨h.len, h.le, h.max, h.cells.at_⟩
  have HF := Lib.hid (fun q => find_any (RR.drewN q) S f hf)
  rw [hj] at HF
  simp only [fndI] at HF
  have hs2 := S.small
  have hplt := cell_lt c2
  have HS := Lib.hid h
  have HN := Lib.hid (show bhP s l f = 0 by unfold bhP; rw [hj])
  have HJ := Lib.hid (And.intro (show fnd (sg s) (l.drop (k2 + offS s)) = none by rw [← hfo]; exact hj) (And.intro hin hsn))
  have HI := Lib.hid (And.intro hi (And.intro hz0 (And.intro hz1 hz2)))
  have HM := Lib.hid (And.intro (show G.length + 1 ≤ maxLen by unfold maxLen; omega) (show (G.length + 1) * 16 ≤ 140737488355328 by omega))
  have HNE := Lib.hid h.gvne
  have hown := h.gone
  rw [hgv] at c2
  have HOWN := Lib.hid (fun q => owns_below hown (below_drewQ w q))
  have HG := Lib.hid hgv
  clear h hgv hin RR hj hi hz0 hz1 hz2 hown hfo
  go_enter Try.func97, Try.ntmps97
  go_wp2_with (go_at_call 101; (with_reducible refine HC.out.mono ?_); rintro e w1 ⟨rfl, rfl⟩)
  go_quiet ((go_at_call 82; exact Calls.quiet_of (HF.out _)))
  have hbq := below_drewQ w1 nq
  obtain ⟨W, hW⟩ : ∃ W, W = w1.drewN nq := ⟨_, rfl⟩
  rw [← hW] at hbq ⊢
  obtain ⟨k1, k2⟩ := bcell hbq
  have d2 : W.cell? ⟨p, 2, none⟩ = some (.slice ga G.length gc) := (k1 _ _ hplt).trans c2
  have dz : ∀ i, W.frozen? ⟨p, i, none⟩ = false := fun i => (k2 _ _ hplt).trans (fz i)
  have HO := Lib.hid (show W.ownsRow A0 9 1 (.slice ga G.length gc) G.length (G.map Value.string) by rw [hW, ← HG.out]; exact HOWN.out nq)
  have HB := Lib.hid hbq
  have HA := Lib.hid (show A0 ≤ W.heap.size from Nat.le_trans HS.out.size hbq.size)
  clear hW k1 k2 hbq c2 c0 fz
  have hpA := HS.out.lt
  go_wp2_with (at_builtin; refine wpList_append_lies _ rfl _ _ 111 rfl A0 9 i0 _ 1 16 Try.underlying111 HI.out.1 HI.out.2.1 HI.out.2.2.1 HI.out.2.2.2 rfl (by decide) _ _ _ rfl (HO.out.alloc _) _ _ _ [.string s] rfl rfl (new_cells_at _ [.string s] _ _ (by simp)) (by simp [Value.oneCell']) (by decide) HM.out.1 HM.out.2 (by have := HA.out; simp; omega) _ rfl ?_; intro g tc w4 hown' hg' hat' hlt'; have hpb : w4.heap[p]? = W.heap[p]? := sub_keep hg' HA.out HO.out p hpA; have E2 : w4.cell? ⟨p, 2, none⟩ = some (.slice ga G.length gc) := (World.cell?_of_block hpb).trans d2; have E3 : w4.frozen? ⟨p, 2, none⟩ = false := (World.frozen?_of_block hpb).trans (dz 2); have HF := Lib.hid (And.intro hown' (And.intro hg' (And.intro hat' hlt'))); clear hown' hg' hat' hlt' hpb)
  go_ret
  obtain ⟨o1, o2, o3, o4⟩ := HF.out
  have hkeep : ∀ x, x < A0 → w4.heap[x]? = W.heap[x]? := fun x hx => sub_keep o2 HA.out HO.out x hx
  refine ⟨.slice (some ⟨g, 0, none⟩) (G.length + 1) tc, G ++ [s], by rw [HN.out]; rfl, ?_, ?_⟩
  · have hW := HS.out.below HB.out
    exact sub_put hW hk hkeep (sub_keep_size o2) (by rw [List.length_append, List.map_append]; exact o1) HJ.out.1 HJ.out.2.1 HJ.out.2.2 (by rw [List.length_append]; simp; omega)
  · refine ⟨o2.os.trans HB.out.os, o2.tape.trans HB.out.tape, o2.output.trans HB.out.output, ?_, fun x h1 h2 h3 => ?_, ?_, fun x hx => ?_⟩
    · have := HB.out.size
      have := sub_keep_size o2
      simp only [size_setCell']
      omega
    · rw [heap_setCell_other _ _ _ _ (fun e => h2 e), sub_keep_far o2 x (Nat.lt_of_lt_of_le h1 HB.out.size) (by rw [← HG.out]; exact h3)]
      exact HB.out.block x h1
    · rcases hat' : o3 with e | e
      · exact .inl (by rw [HG.out]; exact e.symm)
      · refine .inr (fun x hx => ?_)
        simp only [Value.ownBlock, Option.some.injEq] at hx
        have := HB.out.size
        simp at e
        omega
    · simp only [Value.ownBlock, Option.some.injEq] at hx
      subst hx
      simp only [size_setCell']
      exact o4

/-- **behind, for any sign that is looked for.** -/
theorem behind_sub (h : Sub A0 w p (some ⟨b, off, none⟩) n cap l k gv G) {s : ByteArray} (S : Sign s) (hsn : s = ⟨#[45, 45, 62]⟩ ∨ s = ⟨#[63, 62]⟩) (k2 f : Nat) (hk : k ≤ k2) (hfo : f = k2 + offS s) (hf : f ≤ n) :
    Calls Try.prog 97 #[.pointer (some ⟨p, 0, none⟩), .int .i64 (f : Nat), .string s] w (SubSays A0 p (some ⟨b, off, none⟩) n cap l k2 gv w (.int .i64 (bhP s l f))) := by
  by_cases hin : s ∈ G
  · exact bh_gone h S k2 f hk hfo hf hin
  · cases hj : fnd (sg s) (l.drop f) with
    | some j => exact bh_some h S k2 f hk hfo hf hin hj
    | none => exact bh_none h S hsn k2 f hk hfo hf hin hj

end

end Go.Proofs.Ytpjcheelafegbaa
