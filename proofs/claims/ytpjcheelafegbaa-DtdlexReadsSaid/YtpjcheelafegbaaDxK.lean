/-
  Contract of layer 9: markup.
-/
import Derived.Test.YtpjcheelafegbaaDxJ
namespace Go.Proofs.Ytpjcheelafegbaa
open Go.RowKit
set_option linter.unusedVariables false

/-- What begins with a < at a place: its kind, and up to where it goes; 0: it does not end. -/
def mkK (l : List Int) (k : Nat) : Nat := if sw sCo (l.drop k) then 12 else if sw sPo (l.drop k) then 13 else 11
def mkT (l : List Int) (k : Nat) : Int := if sw sCo (l.drop k) then bhP ⟨#[45, 45, 62]⟩ l (k + 4) else if sw sPo (l.drop k) then bhP ⟨#[63, 62]⟩ l (k + 2) else nd 0 l k

def setP (w : World) (g : Nat) (x y z : Value) : World := ((w.setCell ⟨g, 0, none⟩ x).setCell ⟨g, 1, none⟩ y).setCell ⟨g, 2, none⟩ z
theorem setP_size (w : World) (g : Nat) (x y z : Value) : (setP w g x y z).heap.size = w.heap.size := by unfold setP; rw [size_setCell', size_setCell', size_setCell']
theorem setP_block (w : World) (g : Nat) (x y z : Value) (i : Nat) (hi : i ≠ g) : (setP w g x y z).heap[i]? = w.heap[i]? := by
  unfold setP
  rw [heap_setCell_other _ _ _ _ (fun e => hi e), heap_setCell_other _ _ _ _ (fun e => hi e), heap_setCell_other _ _ _ _ (fun e => hi e)]

section
variable {A0 : Nat} {w w1 w2 : World} {p : Nat} {a : Option Addr} {n cap : Nat} {l : List Int} {k : Nat} {gv gv' : Value} {G : List ByteArray}
/-- The result's box, written at the end. -/
theorem sub_fin (h2 : Sub A0 w2 p a n cap l k gv' G) (st : Step p gv gv' w1 w2) (hb : Below w.heap.size w w1) (hlt : w.heap.size < w1.heap.size) (hA : A0 ≤ w.heap.size) (hgv : ∀ x, gv.ownBlock = some x → x < w.heap.size) (x y z : Value) :
    Sub A0 (setP w2 w.heap.size x y z) p a n cap l k gv' G ∧ Step p gv gv' w (setP w2 w.heap.size x y z) := by
  have hs := st.size
  have hz := hb.size
  have ho : ∀ y, gv'.ownBlock = some y → y ≠ w.heap.size := fun y hy => by
    rcases st.own with e | e
    · rw [e] at hy; have := hgv y hy; omega
    · have := e y hy; omega
  refine ⟨h2.same (by rw [setP_size]; exact Nat.le_refl _) (fun b hb => setP_block _ _ _ _ _ _ (by omega)) (fun y hy => setP_block _ _ _ _ _ _ (ho y hy)), st.os.trans hb.os, st.tape.trans hb.tape, st.output.trans hb.output, by rw [setP_size]; omega, fun i h1 h2 h3 => ?_, ?_, fun y hy => by rw [setP_size]; exact st.lt y hy⟩
  · rw [setP_block _ _ _ _ _ _ (by omega), st.block i (by omega) h2 h3, hb.block i h1]
  · rcases st.own with e | e
    · exact .inl e
    · exact .inr fun y hy => by have := e y hy; omega
theorem step_cells (st : Step p gv gv' w1 w2) (g : Nat) (hg : g < w1.heap.size) (hp : g ≠ p) (hgv : gv.ownBlock ≠ some g) : (∀ i, w2.cell? ⟨g, i, none⟩ = w1.cell? ⟨g, i, none⟩) ∧ (∀ i, w2.frozen? ⟨g, i, none⟩ = w1.frozen? ⟨g, i, none⟩) :=
  ⟨fun i => World.cell?_of_block (st.block g hg hp hgv), fun i => World.frozen?_of_block (st.block g hg hp hgv)⟩
end

section
variable {A0 : Nat} {w : World} {p : Nat} {n cap : Nat} {l : List Int} {k : Nat} {gv : Value} {G : List ByteArray} {b off : Nat}

set_option maxHeartbeats 2000000 in
theorem mk_c (h : Sub A0 w p (some ⟨b, off, none⟩) n cap l k gv G) (k2 : Nat) (hk : k ≤ k2) (hk2 : k2 < n) (hC : sw sCo (l.drop k2) = true) :
    Calls Try.prog 86 #[.pointer (some ⟨p, 0, none⟩), .int .i64 (k2 : Nat)] w (SubSays A0 p (some ⟨b, off, none⟩) n cap l k2 gv w (parI (mkK l k2) k2 (mkT l k2))) := by
  have hm := h.max
  have hc := h.le
  have hin : k2 + 4 ≤ n := by have := sw_length hC; rw [dropl, h.len] at this; simp [sCo] at this; omega
  unfold maxLen at hm
  have hpl := h.lt
  have hsz := h.size
  have c0 := h.c0
  have RR : RRow w b off n cap l := ⟨h.len, h.le, h.max, h.cells.at_⟩
  have hb0 := one_ok w dparB
  have HSC := Lib.hid (startsB (RR.below hb0) sCoS k2 (by omega) hC _ (Below.refl _ _))
  have HBH := Lib.hid (fun (w' : World) (hb : Below w.heap.size w w') => behind_sub (h.below hb) sCcS (.inl rfl) k2 (k2 + 4) hk rfl hin)
  simp only [Int.natCast_add, Int.cast_ofNat_Int] at HBH
  have HS := Lib.hid h
  have HN := Lib.hid (show mkK l k2 = 12 ∧ mkT l k2 = bhP ⟨#[45, 45, 62]⟩ l (k2 + 4) by unfold mkK mkT; rw [if_pos hC, if_pos hC]; exact ⟨rfl, rfl⟩)
  have hplt := cell_lt c0
  have hpn : ¬ p = w.heap.size := by omega
  clear h RR hC hb0
  go_enter Try.func86, Try.ntmps86
  go_wp2_with (first
    | (go_at_call 59; (with_reducible refine HSC.out.mono ?_); rintro e w1 ⟨rfl, hb1⟩; have hbw := Below.more (one_ok w dparB) hb1; have hlt1 : w.heap.size < w1.heap.size := (by have := hb1.size; simp at this; omega))
    | (go_at_call 97; (with_reducible refine (HBH.out _ hbw).mono ?_); rintro e w2 ⟨gv', G', rfl, hsub, hst⟩; obtain ⟨c1, c2⟩ := bcell hb1; obtain ⟨d1, d2⟩ := step_cells hst w.heap.size hlt1 (fun e => hpn e.symm) (fun hx => by have := HS.out.gvlt _ hx; omega); have e0 : w2.cell? ⟨w.heap.size, 0, none⟩ = some (.int .i64 0) := (by rw [d1, c1 _ _ (by simp)]; simp); have e1 : w2.cell? ⟨w.heap.size, 1, none⟩ = some (.int .i64 0) := (by rw [d1, c1 _ _ (by simp)]; simp); have e2 : w2.cell? ⟨w.heap.size, 2, none⟩ = some (.int .i64 0) := (by rw [d1, c1 _ _ (by simp)]; simp); have z0 : ∀ i, w2.frozen? ⟨w.heap.size, i, none⟩ = false := (fun i => by rw [d2, c2 _ _ (by simp)]; simp [go_sem]); have HX := Lib.hid (And.intro hsub hst); clear hsub hst c1 c2 d1 d2))
  have HFN := sub_fin HX.out.1 HX.out.2 hbw hlt1 HS.out.size HS.out.gvlt (.int .i64 12) (.int .i64 k2) (.int .i64 (bhP ⟨#[45, 45, 62]⟩ l (k2 + 4)))
  refine bodyPost_ret (v := parI 12 k2 (bhP ⟨#[45, 45, 62]⟩ l (k2 + 4))) ?_ rfl (by rw [HN.out.1, HN.out.2]; exact ⟨gv', G', rfl, HFN.1, HFN.2⟩)
  simp [results, Try.results86, go_sem, e0, e1, e2, parI]

set_option maxHeartbeats 2000000 in
theorem mk_p (h : Sub A0 w p (some ⟨b, off, none⟩) n cap l k gv G) (k2 : Nat) (hk : k ≤ k2) (hk2 : k2 < n) (hC0 : sw sCo (l.drop k2) = false) (hC : sw sPo (l.drop k2) = true) :
    Calls Try.prog 86 #[.pointer (some ⟨p, 0, none⟩), .int .i64 (k2 : Nat)] w (SubSays A0 p (some ⟨b, off, none⟩) n cap l k2 gv w (parI (mkK l k2) k2 (mkT l k2))) := by
  have hm := h.max
  have hc := h.le
  have hin : k2 + 2 ≤ n := by have := sw_length hC; rw [dropl, h.len] at this; simp [sPo] at this; omega
  unfold maxLen at hm
  have hpl := h.lt
  have hsz := h.size
  have c0 := h.c0
  have RR : RRow w b off n cap l := ⟨h.len, h.le, h.max, h.cells.at_⟩
  have hb0 := one_ok w dparB
  have HSC0 := Lib.hid (startsB (RR.below hb0) sCoS k2 (by omega) hC0 _ (Below.refl _ _))
  have HSC := Lib.hid (fun (w' : World) hb => startsB (RR.below hb0) sPoS k2 (by omega) hC w' hb)
  have tok1 : True := trivial
  have HBH := Lib.hid (fun (w' : World) (hb : Below w.heap.size w w') => behind_sub (h.below hb) sPcS (.inr rfl) k2 (k2 + 2) hk rfl hin)
  simp only [Int.natCast_add, Int.cast_ofNat_Int] at HBH
  have HS := Lib.hid h
  have HN := Lib.hid (show mkK l k2 = 13 ∧ mkT l k2 = bhP ⟨#[63, 62]⟩ l (k2 + 2) by unfold mkK mkT; rw [if_neg (by rw [hC0]; decide), if_pos hC, if_neg (by rw [hC0]; decide), if_pos hC]; exact ⟨rfl, rfl⟩)
  have hplt := cell_lt c0
  have hpn : ¬ p = w.heap.size := by omega
  clear h RR hC hC0 hb0
  go_enter Try.func86, Try.ntmps86
  go_wp2_with (first
    | (go_at_call 59; (have _t := tok1); (with_reducible refine HSC0.out.mono ?_); rintro e w0 ⟨rfl, hb0⟩; have q0 : w0.cell? ⟨p, 0, none⟩ = some (.slice (some ⟨b, off, none⟩) n cap) := kp_bel (Below.more (one_ok w dparB) hb0) c0; clear tok1 _t)
    | (go_at_call 59; (with_reducible refine (HSC.out _ hb0).mono ?_); rintro e w1 ⟨rfl, hb1⟩; have hbw := Below.more (one_ok w dparB) hb1; have hlt1 : w.heap.size < w1.heap.size := (by have := hb1.size; simp at this; omega))
    | (go_at_call 97; (with_reducible refine (HBH.out _ hbw).mono ?_); rintro e w2 ⟨gv', G', rfl, hsub, hst⟩; obtain ⟨c1, c2⟩ := bcell hb1; obtain ⟨d1, d2⟩ := step_cells hst w.heap.size hlt1 (fun e => hpn e.symm) (fun hx => by have := HS.out.gvlt _ hx; omega); have e0 : w2.cell? ⟨w.heap.size, 0, none⟩ = some (.int .i64 0) := (by rw [d1, c1 _ _ (by simp)]; simp); have e1 : w2.cell? ⟨w.heap.size, 1, none⟩ = some (.int .i64 0) := (by rw [d1, c1 _ _ (by simp)]; simp); have e2 : w2.cell? ⟨w.heap.size, 2, none⟩ = some (.int .i64 0) := (by rw [d1, c1 _ _ (by simp)]; simp); have z0 : ∀ i, w2.frozen? ⟨w.heap.size, i, none⟩ = false := (fun i => by rw [d2, c2 _ _ (by simp)]; simp [go_sem]); have HX := Lib.hid (And.intro hsub hst); clear hsub hst c1 c2 d1 d2))
  have HFN := sub_fin HX.out.1 HX.out.2 hbw hlt1 HS.out.size HS.out.gvlt (.int .i64 13) (.int .i64 k2) (.int .i64 (bhP ⟨#[63, 62]⟩ l (k2 + 2)))
  refine bodyPost_ret (v := parI 13 k2 (bhP ⟨#[63, 62]⟩ l (k2 + 2))) ?_ rfl (by rw [HN.out.1, HN.out.2]; exact ⟨gv', G', rfl, HFN.1, HFN.2⟩)
  simp [results, Try.results86, go_sem, e0, e1, e2, parI]

set_option maxHeartbeats 2000000 in
theorem mk_d (h : Sub A0 w p (some ⟨b, off, none⟩) n cap l k gv G) (k2 : Nat) (hk : k ≤ k2) (hk2 : k2 < n) (hC0 : sw sCo (l.drop k2) = false) (hC : sw sPo (l.drop k2) = false) :
    Calls Try.prog 86 #[.pointer (some ⟨p, 0, none⟩), .int .i64 (k2 : Nat)] w (SubSays A0 p (some ⟨b, off, none⟩) n cap l k2 gv w (parI (mkK l k2) k2 (mkT l k2))) := by
  have hm := h.max
  have hc := h.le
  unfold maxLen at hm
  have hpl := h.lt
  have hsz := h.size
  have c0 := h.c0
  obtain ⟨ga, g1, g2, g3⟩ := h.ends
  have g3' := g3 k2 (by omega)
  have RR : RRow w b off n cap l := ⟨h.len, h.le, h.max, h.cells.at_⟩
  have hb0 := one_ok w dparB
  have HSC0 := Lib.hid (startsB (RR.below hb0) sCoS k2 (by omega) hC0 _ (Below.refl _ _))
  have HSC := Lib.hid (fun (w' : World) hb => startsB (RR.below hb0) sPoS k2 (by omega) hC w' hb)
  have tok1 : True := trivial
  have HS := Lib.hid h
  have HN := Lib.hid (show mkK l k2 = 11 ∧ mkT l k2 = nd 0 l k2 by unfold mkK mkT; rw [if_neg (by rw [hC0]; decide), if_neg (by rw [hC]; decide), if_neg (by rw [hC0]; decide), if_neg (by rw [hC]; decide)]; exact ⟨rfl, rfl⟩)
  have hplt := cell_lt c0
  have hpn : ¬ p = w.heap.size := by omega
  have i1 : (k2 : Int) < (n : Int) + 1 := by omega
  obtain ⟨v, hv⟩ : ∃ v, nd 0 l k2 = v := ⟨_, rfl⟩
  rw [hv] at g3' HN
  clear h RR hC hC0 hb0 g3 hv
  go_enter Try.func86, Try.ntmps86
  go_wp2_with (first
    | (go_at_call 59; (have _t := tok1); (with_reducible refine HSC0.out.mono ?_); rintro e w0 ⟨rfl, hb0⟩; have q0 : w0.cell? ⟨p, 0, none⟩ = some (.slice (some ⟨b, off, none⟩) n cap) := kp_bel (Below.more (one_ok w dparB) hb0) c0; clear tok1 _t)
    | (go_at_call 59; (with_reducible refine (HSC.out _ hb0).mono ?_); rintro e w1 ⟨rfl, hb1⟩; have hbw := Below.more (one_ok w dparB) hb1; have hlt1 : w.heap.size < w1.heap.size := (by have := hb1.size; simp at this; omega); obtain ⟨c1, c2⟩ := bcell hb1; have e0 : w1.cell? ⟨w.heap.size, 0, none⟩ = some (.int .i64 0) := (by rw [c1 _ _ (by simp)]; simp); have e1 : w1.cell? ⟨w.heap.size, 1, none⟩ = some (.int .i64 0) := (by rw [c1 _ _ (by simp)]; simp); have e2 : w1.cell? ⟨w.heap.size, 2, none⟩ = some (.int .i64 0) := (by rw [c1 _ _ (by simp)]; simp); have z0 : ∀ i, w1.frozen? ⟨w.heap.size, i, none⟩ = false := (fun i => by rw [c2 _ _ (by simp)]; simp [go_sem]); have q1 := kp_bel hbw g2; have q3 := kp_bel hbw g3'; clear c1 c2))
  have HFN := sub_fin ((HS.out.below hbw).on hk) (Step.of_below (Below.refl _ _) (fun x hx => Nat.lt_of_lt_of_le (HS.out.gvlt x hx) hbw.size)) hbw hlt1 HS.out.size HS.out.gvlt (.int .i64 11) (.int .i64 k2) (.int .i64 v)
  refine bodyPost_ret (v := parI 11 k2 v) ?_ rfl (by rw [HN.out.1, HN.out.2]; exact ⟨gv, G, rfl, HFN.1, HFN.2⟩)
  simp [results, Try.results86, go_sem, e0, e1, e2, parI]

/-- **markup, at any place.** -/
theorem markup_sub (h : Sub A0 w p (some ⟨b, off, none⟩) n cap l k gv G) (k2 : Nat) (hk : k ≤ k2) (hk2 : k2 < n) :
    Calls Try.prog 86 #[.pointer (some ⟨p, 0, none⟩), .int .i64 (k2 : Nat)] w (SubSays A0 p (some ⟨b, off, none⟩) n cap l k2 gv w (parI (mkK l k2) k2 (mkT l k2))) := by
  cases hC : sw sCo (l.drop k2) with
  | true => exact mk_c h k2 hk hk2 hC
  | false =>
    cases hP : sw sPo (l.drop k2) with
    | true => exact mk_p h k2 hk hk2 hC hP
    | false => exact mk_d h k2 hk hk2 hC hP

end

end Go.Proofs.Ytpjcheelafegbaa
