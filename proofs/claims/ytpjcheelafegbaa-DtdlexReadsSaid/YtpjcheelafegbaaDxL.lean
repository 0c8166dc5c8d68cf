/-
  Contract of layer 9: item, its ways.
-/
import Derived.Test.YtpjcheelafegbaaDxK
namespace Go.Proofs.Ytpjcheelafegbaa
open Go.RowKit
set_option linter.unusedVariables false

def sDe : List Int := [60, 33]
def sPe : List Int := [37]
theorem sDeS : Sign ⟨#[60, 33]⟩ := Sign.of (by decide)
theorem sPeS : Sign ⟨#[37]⟩ := Sign.of (by decide)

/-- What begins with a < goes over so many; none: it does not end. -/
def mtP (s : List Int) : Option Nat := if sw sCo s then (fnd sCc (s.drop 4)).map (· + 7) else if sw sPo s then (fnd sPc (s.drop 2)).map (· + 4) else dcl 0 s
def mkP (s : List Int) : Nat := if sw sCo s then 12 else if sw sPo s then 13 else 11
/-- The item with which runes begin: its kind, how many runes it has. -/
def itP (s : List Int) : Nat × Nat :=
  if spaceB (s.getD 0 0) then (3, runP spaceB s)
  else if sw sDe s || sw sPo s then (match mtP s with | some m => (mkP s, m) | none => (8, 1))
  else if sw sPe s && (decide (0 < leadP (s.drop 1)) && sw sSc (s.drop (1 + leadP (s.drop 1)))) then (14, leadP (s.drop 1) + 2)
  else (8, 1)
theorem mtP_le {s : List Int} {m : Nat} (h : mtP s = some m) : 0 < m ∧ m ≤ s.length := by
  unfold mtP at h
  split at h
  · rename_i hc
    have := sw_length hc
    cases hf : fnd sCc (s.drop 4) with
    | none => rw [hf] at h; cases h
    | some j =>
      rw [hf] at h
      simp at h
      have := (fnd_le _ _ _ hf).1
      rw [dropl] at this
      simp [sCc] at this
      omega
  · split at h
    · rename_i hc
      have := sw_length hc
      cases hf : fnd sPc (s.drop 2) with
      | none => rw [hf] at h; cases h
      | some j =>
        rw [hf] at h
        simp at h
        have := (fnd_le _ _ _ hf).1
        rw [dropl] at this
        simp [sPc] at this
        omega
    · exact dcl_le h
theorem mkT_eq (l : List Int) (k : Nat) : mkT l k = match mtP (l.drop k) with | some m => (k : Int) + m | none => 0 := by
  unfold mkT mtP
  split
  · unfold bhP
    rw [dd]
    show (match fnd sCc _ with | some j => _ | none => _) = _
    cases fnd sCc (l.drop (k + 4)) with
    | none => rfl
    | some j => simp; show (k : Int) + 4 + j + 3 = k + (j + 7); omega
  · split
    · unfold bhP
      rw [dd]
      show (match fnd sPc _ with | some j => _ | none => _) = _
      cases fnd sPc (l.drop (k + 2)) with
      | none => rfl
      | some j => simp; show (k : Int) + 2 + j + 2 = k + (j + 4); omega
    · rfl
theorem mkK_eq (l : List Int) (k : Nat) : mkK l k = mkP (l.drop k) := rfl
theorem itP_ok (s : List Int) (h0 : 0 < s.length) : 0 < (itP s).2 ∧ (itP s).2 ≤ s.length := by
  unfold itP
  split
  · rename_i h
    cases s with
    | nil => simp at h0
    | cons r s =>
      refine ⟨?_, runP_le spaceB (r :: s)⟩
      show 0 < runP spaceB (r :: s)
      unfold runP
      simp only [List.getD_cons_zero] at h
      rw [List.takeWhile_cons, if_pos h]
      simp
  split
  · cases hm : mtP s with
    | none => exact ⟨Nat.one_pos, h0⟩
    | some m => exact mtP_le hm
  split
  · rename_i h
    simp only [Bool.and_eq_true, decide_eq_true_eq] at h
    have h1 := sw_length h.2.2
    rw [dropl] at h1
    have h3 : sSc.length = 1 := rfl
    rw [h3] at h1
    exact ⟨by simp only []; omega, by simp only []; omega⟩
  · exact ⟨by decide, h0⟩
theorem itP_reads : Reads itP := itP_ok

/-- What a call does to blocks of its own alone: those from B on up to C. -/
structure Mid (B C : Nat) (w w' : World) : Prop where
  os : w'.os = w.os
  tape : w'.tape = w.tape
  output : w'.output = w.output
  size : w.heap.size ≤ w'.heap.size
  block : ∀ x, x < w.heap.size → (x < B ∨ C ≤ x) → w'.heap[x]? = w.heap[x]?
theorem Mid.refl (B C : Nat) (w : World) : Mid B C w w := ⟨rfl, rfl, rfl, Nat.le_refl _, fun _ _ _ => rfl⟩
theorem Mid.set {B C g j : Nat} {w w' : World} (h : Mid B C w w') (h1 : B ≤ g) (h2 : g < C) (u : Value) : Mid B C w (w'.setCell ⟨g, j, none⟩ u) :=
  ⟨h.os, h.tape, h.output, by rw [size_setCell']; exact h.size, fun x hx hb => by rw [heap_setCell_other _ _ _ _ (fun e => by have e' : x = g := e; omega)]; exact h.block x hx hb⟩
theorem Mid.alloc {B C : Nat} {w w' : World} (h : Mid B C w w') (o : Obj) : Mid B C w (w'.alloc o) :=
  ⟨h.os, h.tape, h.output, by have := h.size; simp; omega, fun x hx hb => by rw [Below.heap_alloc w' o x (by have := h.size; omega)]; exact h.block x hx hb⟩
theorem Mid.next {B C : Nat} {w w' w'' : World} (h : Mid B C w w') (hb : Below w'.heap.size w' w'') : Mid B C w w'' :=
  ⟨hb.os.trans h.os, hb.tape.trans h.tape, hb.output.trans h.output, Nat.le_trans h.size hb.size, fun x hx hc => (hb.block x (Nat.lt_of_lt_of_le hx h.size)).trans (h.block x hx hc)⟩

section
variable {A0 : Nat} {w w1 w2 w3 : World} {p : Nat} {a : Option Addr} {n cap : Nat} {l : List Int} {k : Nat} {gv gv' : Value} {G : List ByteArray}
theorem sub_mid (h2 : Sub A0 w2 p a n cap l k gv' G) (st : Step p gv gv' w1 w2) (hb : Below w.heap.size w w1) (hA : A0 ≤ w.heap.size) (hgv : ∀ x, gv.ownBlock = some x → x < w.heap.size) (hm : Mid w.heap.size w1.heap.size w2 w3) :
    Sub A0 w3 p a n cap l k gv' G ∧ Step p gv gv' w w3 := by
  have hs := st.size
  have hz := hb.size
  have hms := hm.size
  have ho : ∀ y, gv'.ownBlock = some y → y < w.heap.size ∨ w1.heap.size ≤ y := fun y hy => by
    rcases st.own with e | e
    · rw [e] at hy; exact .inl (hgv y hy)
    · exact .inr (e y hy)
  refine ⟨h2.same hm.size (fun b hb => hm.block b (by omega) (.inl (by omega))) (fun y hy => hm.block y (st.lt y hy) (ho y hy)), (hm.os.trans st.os).trans hb.os, (hm.tape.trans st.tape).trans hb.tape, (hm.output.trans st.output).trans hb.output, by omega, fun i h1 h2 h3 => ?_, ?_, fun y hy => by have := st.lt y hy; omega⟩
  · rw [hm.block i (by omega) (.inl h1), st.block i (by omega) h2 h3, hb.block i h1]
  · rcases st.own with e | e
    · exact .inl e
    · exact .inr fun y hy => by have := e y hy; omega
end

/-- What an item is, and what becomes of the subset. -/
def ItemSays (A0 : Nat) (p : Nat) (a : Option Addr) (n cap : Nat) (l : List Int) (k : Nat) (gv : Value) (w : World) (t : Nat × Nat) (e : Ending) (w' : World) : Prop :=
  ∃ gv' G', e = .returned (parI t.1 k ((k : Int) + t.2)) ∧ Sub A0 w' p a n cap l (k + t.2) gv' G' ∧ Step p gv gv' w w'

section
variable {A0 : Nat} {w : World} {p : Nat} {n cap : Nat} {l : List Int} {k : Nat} {gv : Value} {G : List ByteArray} {b off : Nat}

set_option maxHeartbeats 2000000 in
theorem item_sp (h : Sub A0 w p (some ⟨b, off, none⟩) n cap l k gv G) (hk : k < n) (z : Int) (hz : l.getD k 0 = z) (hs : spaceB z = true) (q : Nat) (hq : runP spaceB (l.drop k) = q) (hqn : k + q ≤ n) :
    Calls Try.prog 68 #[.pointer (some ⟨p, 0, none⟩), .int .i64 (k : Nat)] w (ItemSays A0 p (some ⟨b, off, none⟩) n cap l k gv w (3, q)) := by
  have hm := h.max
  have hc := h.le
  unfold maxLen at hm
  have hpl := h.lt
  have hsz := h.size
  have c0 := h.c0
  have RR : RRow w b off n cap l := ⟨h.len, h.le, h.max, h.cells.at_⟩
  obtain ⟨b', off', hy, hcl⟩ := RR.cells.int (k := k) (by rw [RR.len]; exact hk)
  simp only [Option.some.injEq, Addr.mk.injEq] at hy
  obtain ⟨rfl, rfl, _⟩ := hy
  rw [hz] at hcl
  have hblt := cell_lt hcl
  have hn1 : ¬ b = w.heap.size + 1 := by omega
  have hn2 : ¬ b = w.heap.size := by omega
  have hblt2 : b < w.heap.size + 1 := by omega
  have hplt := cell_lt c0
  have hp1 : ¬ p = w.heap.size + 1 := by omega
  have hp2 : ¬ p = w.heap.size := by omega
  have hplt2 : p < w.heap.size + 1 := by omega
  have R0 := RR.below (two_ok w dparB (dparK k))
  have HSP := Lib.hid (spaceAB (W := ((w.alloc dparB).alloc (dparK k))) (r := z) hs)
  have HS := Lib.hid h
  have HRN := Lib.hid (runSpaceB R0 k (by omega) hq)
  have hb : Below ((w.alloc dparB).alloc (dparK k)).heap.size ((w.alloc dparB).alloc (dparK k)) ((w.alloc dparB).alloc (dparK k)) := Below.refl _ _
  clear h RR R0 hz hs hq
  go_enter Try.func68, Try.ntmps68
  go_wp2_with (first
    | (go_at_call 78; (with_reducible refine (HSP.out _ hb).mono ?_); rintro e w1 ⟨rfl, hb1⟩; replace hb := hb1; clear hb1; obtain ⟨c1, c2⟩ := bcell hb; have hz1 : w.heap.size + 1 < w1.heap.size := (by have := hb.size; simp at this; omega); have hz0 : w.heap.size < w1.heap.size := (by omega))
    | (go_at_call 79; (with_reducible refine (HRN.out _ hb).mono ?_); rintro e w1 ⟨rfl, hb1⟩; replace hb := hb1; clear hb1; obtain ⟨c1, c2⟩ := bcell hb; have hz1 : w.heap.size + 1 < w1.heap.size := (by have := hb.size; simp at this; omega); have hz0 : w.heap.size < w1.heap.size := (by omega)))
  have e0 : w1.cell? ⟨w.heap.size, 0, none⟩ = some (.int .i64 0) := by simp [go_sem, c1]
  have e1 : w1.cell? ⟨w.heap.size, 1, none⟩ = some (.int .i64 0) := by simp [go_sem, c1]
  have e2 : w1.cell? ⟨w.heap.size, 2, none⟩ = some (.int .i64 0) := by simp [go_sem, c1]
  have x0 : w1.cell? ⟨w.heap.size + 1, 0, none⟩ = some (.int .i64 8) := by simp [go_sem, c1]
  have x1 : w1.cell? ⟨w.heap.size + 1, 1, none⟩ = some (.int .i64 k) := by simp [go_sem, c1]
  have x2 : w1.cell? ⟨w.heap.size + 1, 2, none⟩ = some (.int .i64 ((k : Int) + 1)) := by simp [go_sem, c1]
  have HB2 := Below.more (two_ok w dparB (dparK k)) hb
  refine bodyPost_ret (v := parI 3 k ((k : Int) + q)) ?_ rfl ⟨gv, G, ret_par rfl rfl (by first | rfl | omega | (simp only []; omega)), sub_mid ((HS.out.below HB2).on (k' := k + q) (by omega)) (Step.of_below (Below.refl _ _) (fun x hx => Nat.lt_of_lt_of_le (HS.out.gvlt x hx) HB2.size)) HB2 HS.out.size HS.out.gvlt ((((((Mid.refl _ _ _).set (g := w.heap.size + 1) (by omega) (by omega) _).set (g := w.heap.size + 1) (by omega) (by omega) _).set (g := w.heap.size) (by omega) (by omega) _).set (g := w.heap.size) (by omega) (by omega) _).set (g := w.heap.size) (by omega) (by omega) _)⟩
  simp [results, Try.results68, go_sem, e0, e1, e2, x0, x1, x2, parI]

set_option maxHeartbeats 2000000 in
theorem item_j (h : Sub A0 w p (some ⟨b, off, none⟩) n cap l k gv G) (hk : k < n) (z : Int) (hz : l.getD k 0 = z) (hs : spaceB z = false) (hD : sw sDe (l.drop k) = false) (hP : sw sPo (l.drop k) = false) (hE : sw sPe (l.drop k) = false) :
    Calls Try.prog 68 #[.pointer (some ⟨p, 0, none⟩), .int .i64 (k : Nat)] w (ItemSays A0 p (some ⟨b, off, none⟩) n cap l k gv w (8, 1)) := by
  have hm := h.max
  have hc := h.le
  unfold maxLen at hm
  have hpl := h.lt
  have hsz := h.size
  have c0 := h.c0
  have RR : RRow w b off n cap l := ⟨h.len, h.le, h.max, h.cells.at_⟩
  obtain ⟨b', off', hy, hcl⟩ := RR.cells.int (k := k) (by rw [RR.len]; exact hk)
  simp only [Option.some.injEq, Addr.mk.injEq] at hy
  obtain ⟨rfl, rfl, _⟩ := hy
  rw [hz] at hcl
  have hblt := cell_lt hcl
  have hn1 : ¬ b = w.heap.size + 1 := by omega
  have hn2 : ¬ b = w.heap.size := by omega
  have hblt2 : b < w.heap.size + 1 := by omega
  have hplt := cell_lt c0
  have hp1 : ¬ p = w.heap.size + 1 := by omega
  have hp2 : ¬ p = w.heap.size := by omega
  have hplt2 : p < w.heap.size + 1 := by omega
  have R0 := RR.below (two_ok w dparB (dparK k))
  have HSP := Lib.hid (spaceAB (W := ((w.alloc dparB).alloc (dparK k))) (r := z) hs)
  have HS := Lib.hid h
  have HD := Lib.hid (startsB R0 sDeS k (by omega) hD)
  have HP := Lib.hid (startsB R0 sPoS k (by omega) hP)
  have HE := Lib.hid (startsB R0 sPeS k (by omega) hE)
  have hb : Below ((w.alloc dparB).alloc (dparK k)).heap.size ((w.alloc dparB).alloc (dparK k)) ((w.alloc dparB).alloc (dparK k)) := Below.refl _ _
  clear h RR R0 hz hs hD hP hE
  go_enter Try.func68, Try.ntmps68
  go_wp2_with (first
    | (go_at_call 78; (with_reducible refine (HSP.out _ hb).mono ?_); rintro e w1 ⟨rfl, hb1⟩; replace hb := hb1; clear hb1; obtain ⟨c1, c2⟩ := bcell hb; have hz1 : w.heap.size + 1 < w1.heap.size := (by have := hb.size; simp at this; omega); have hz0 : w.heap.size < w1.heap.size := (by omega))
    | (go_at_call 59; (with_reducible refine (HD.out _ hb).mono ?_); rintro e w1 ⟨rfl, hb1⟩; replace hb := hb1; clear hb1; obtain ⟨c1, c2⟩ := bcell hb; have hz1 : w.heap.size + 1 < w1.heap.size := (by have := hb.size; simp at this; omega); have hz0 : w.heap.size < w1.heap.size := (by omega))
    | (go_at_call 59; (with_reducible refine (HP.out _ hb).mono ?_); rintro e w1 ⟨rfl, hb1⟩; replace hb := hb1; clear hb1; obtain ⟨c1, c2⟩ := bcell hb; have hz1 : w.heap.size + 1 < w1.heap.size := (by have := hb.size; simp at this; omega); have hz0 : w.heap.size < w1.heap.size := (by omega))
    | (go_at_call 59; (with_reducible refine (HE.out _ hb).mono ?_); rintro e w1 ⟨rfl, hb1⟩; replace hb := hb1; clear hb1; obtain ⟨c1, c2⟩ := bcell hb; have hz1 : w.heap.size + 1 < w1.heap.size := (by have := hb.size; simp at this; omega); have hz0 : w.heap.size < w1.heap.size := (by omega)))
  have e0 : w1.cell? ⟨w.heap.size, 0, none⟩ = some (.int .i64 0) := by simp [go_sem, c1]
  have e1 : w1.cell? ⟨w.heap.size, 1, none⟩ = some (.int .i64 0) := by simp [go_sem, c1]
  have e2 : w1.cell? ⟨w.heap.size, 2, none⟩ = some (.int .i64 0) := by simp [go_sem, c1]
  have x0 : w1.cell? ⟨w.heap.size + 1, 0, none⟩ = some (.int .i64 8) := by simp [go_sem, c1]
  have x1 : w1.cell? ⟨w.heap.size + 1, 1, none⟩ = some (.int .i64 k) := by simp [go_sem, c1]
  have x2 : w1.cell? ⟨w.heap.size + 1, 2, none⟩ = some (.int .i64 ((k : Int) + 1)) := by simp [go_sem, c1]
  have HB2 := Below.more (two_ok w dparB (dparK k)) hb
  refine bodyPost_ret (v := parI 8 k ((k : Int) + 1)) ?_ rfl ⟨gv, G, ret_par rfl rfl (by first | rfl | omega | (simp only []; omega)), sub_mid ((HS.out.below HB2).on (k' := k + 1) (by omega)) (Step.of_below (Below.refl _ _) (fun x hx => Nat.lt_of_lt_of_le (HS.out.gvlt x hx) HB2.size)) HB2 HS.out.size HS.out.gvlt ((((Mid.refl _ _ _).set (g := w.heap.size) (by omega) (by omega) _).set (g := w.heap.size) (by omega) (by omega) _).set (g := w.heap.size) (by omega) (by omega) _)⟩
  simp [results, Try.results68, go_sem, e0, e1, e2, x0, x1, x2, parI]

set_option maxHeartbeats 2000000 in
theorem item_pe0 (h : Sub A0 w p (some ⟨b, off, none⟩) n cap l k gv G) (hk : k < n) (z : Int) (hz : l.getD k 0 = z) (hs : spaceB z = false) (hD : sw sDe (l.drop k) = false) (hP : sw sPo (l.drop k) = false) (hE : sw sPe (l.drop k) = true) (hq0 : leadP (l.drop (k + 1)) = 0) :
    Calls Try.prog 68 #[.pointer (some ⟨p, 0, none⟩), .int .i64 (k : Nat)] w (ItemSays A0 p (some ⟨b, off, none⟩) n cap l k gv w (8, 1)) := by
  have hm := h.max
  have hc := h.le
  unfold maxLen at hm
  have hpl := h.lt
  have hsz := h.size
  have c0 := h.c0
  have RR : RRow w b off n cap l := ⟨h.len, h.le, h.max, h.cells.at_⟩
  obtain ⟨b', off', hy, hcl⟩ := RR.cells.int (k := k) (by rw [RR.len]; exact hk)
  simp only [Option.some.injEq, Addr.mk.injEq] at hy
  obtain ⟨rfl, rfl, _⟩ := hy
  rw [hz] at hcl
  have hblt := cell_lt hcl
  have hn1 : ¬ b = w.heap.size + 1 := by omega
  have hn2 : ¬ b = w.heap.size := by omega
  have hblt2 : b < w.heap.size + 1 := by omega
  have hplt := cell_lt c0
  have hp1 : ¬ p = w.heap.size + 1 := by omega
  have hp2 : ¬ p = w.heap.size := by omega
  have hplt2 : p < w.heap.size + 1 := by omega
  have R0 := RR.below (two_ok w dparB (dparK k))
  have HSP := Lib.hid (spaceAB (W := ((w.alloc dparB).alloc (dparK k))) (r := z) hs)
  have HS := Lib.hid h
  have HD := Lib.hid (startsB R0 sDeS k (by omega) hD)
  have HP := Lib.hid (startsB R0 sPoS k (by omega) hP)
  have hk1 : k + 1 ≤ n := by omega
  have HE := Lib.hid (startsB R0 sPeS k (by omega) hE)
  have HLD := Lib.hid (leadB R0 (k + 1) hq0)
  have hqn : k + 1 + 0 ≤ n := by have := leadP_le (l.drop (k + 1)); rw [hq0, dropl, RR.len] at this; omega
  simp only [Int.natCast_add, Int.cast_ofNat_Int] at HLD
  have hb : Below ((w.alloc dparB).alloc (dparK k)).heap.size ((w.alloc dparB).alloc (dparK k)) ((w.alloc dparB).alloc (dparK k)) := Below.refl _ _
  clear h RR R0 hz hs hD hP hE hq0
  go_enter Try.func68, Try.ntmps68
  go_wp2_with (first
    | (go_at_call 78; (with_reducible refine (HSP.out _ hb).mono ?_); rintro e w1 ⟨rfl, hb1⟩; replace hb := hb1; clear hb1; obtain ⟨c1, c2⟩ := bcell hb; have hz1 : w.heap.size + 1 < w1.heap.size := (by have := hb.size; simp at this; omega); have hz0 : w.heap.size < w1.heap.size := (by omega))
    | (go_at_call 59; (with_reducible refine (HD.out _ hb).mono ?_); rintro e w1 ⟨rfl, hb1⟩; replace hb := hb1; clear hb1; obtain ⟨c1, c2⟩ := bcell hb; have hz1 : w.heap.size + 1 < w1.heap.size := (by have := hb.size; simp at this; omega); have hz0 : w.heap.size < w1.heap.size := (by omega))
    | (go_at_call 59; (with_reducible refine (HP.out _ hb).mono ?_); rintro e w1 ⟨rfl, hb1⟩; replace hb := hb1; clear hb1; obtain ⟨c1, c2⟩ := bcell hb; have hz1 : w.heap.size + 1 < w1.heap.size := (by have := hb.size; simp at this; omega); have hz0 : w.heap.size < w1.heap.size := (by omega))
    | (go_at_call 59; (with_reducible refine (HE.out _ hb).mono ?_); rintro e w1 ⟨rfl, hb1⟩; replace hb := hb1; clear hb1; obtain ⟨c1, c2⟩ := bcell hb; have hz1 : w.heap.size + 1 < w1.heap.size := (by have := hb.size; simp at this; omega); have hz0 : w.heap.size < w1.heap.size := (by omega))
    | (go_at_call 81; (with_reducible refine (HLD.out _ hb).mono ?_); rintro e w1 ⟨rfl, hb1⟩; replace hb := hb1; clear hb1; obtain ⟨c1, c2⟩ := bcell hb; have hz1 : w.heap.size + 1 < w1.heap.size := (by have := hb.size; simp at this; omega); have hz0 : w.heap.size < w1.heap.size := (by omega)))
  have e0 : w1.cell? ⟨w.heap.size, 0, none⟩ = some (.int .i64 0) := by simp [go_sem, c1]
  have e1 : w1.cell? ⟨w.heap.size, 1, none⟩ = some (.int .i64 0) := by simp [go_sem, c1]
  have e2 : w1.cell? ⟨w.heap.size, 2, none⟩ = some (.int .i64 0) := by simp [go_sem, c1]
  have x0 : w1.cell? ⟨w.heap.size + 1, 0, none⟩ = some (.int .i64 8) := by simp [go_sem, c1]
  have x1 : w1.cell? ⟨w.heap.size + 1, 1, none⟩ = some (.int .i64 k) := by simp [go_sem, c1]
  have x2 : w1.cell? ⟨w.heap.size + 1, 2, none⟩ = some (.int .i64 ((k : Int) + 1)) := by simp [go_sem, c1]
  have HB2 := Below.more (two_ok w dparB (dparK k)) hb
  refine bodyPost_ret (v := parI 8 k ((k : Int) + 1)) ?_ rfl ⟨gv, G, ret_par rfl rfl (by first | rfl | omega | (simp only []; omega)), sub_mid ((HS.out.below HB2).on (k' := k + 1) (by omega)) (Step.of_below (Below.refl _ _) (fun x hx => Nat.lt_of_lt_of_le (HS.out.gvlt x hx) HB2.size)) HB2 HS.out.size HS.out.gvlt ((((Mid.refl _ _ _).set (g := w.heap.size) (by omega) (by omega) _).set (g := w.heap.size) (by omega) (by omega) _).set (g := w.heap.size) (by omega) (by omega) _)⟩
  simp [results, Try.results68, go_sem, e0, e1, e2, x0, x1, x2, parI]

set_option maxHeartbeats 2000000 in
theorem item_pe1 (h : Sub A0 w p (some ⟨b, off, none⟩) n cap l k gv G) (hk : k < n) (z : Int) (hz : l.getD k 0 = z) (hs : spaceB z = false) (hD : sw sDe (l.drop k) = false) (hP : sw sPo (l.drop k) = false) (hE : sw sPe (l.drop k) = true) (q : Nat) (hq : leadP (l.drop (k + 1)) = q) (hq0 : 0 < q) (hS : sw sSc (l.drop (k + 1 + q)) = false) :
    Calls Try.prog 68 #[.pointer (some ⟨p, 0, none⟩), .int .i64 (k : Nat)] w (ItemSays A0 p (some ⟨b, off, none⟩) n cap l k gv w (8, 1)) := by
  have hm := h.max
  have hc := h.le
  unfold maxLen at hm
  have hpl := h.lt
  have hsz := h.size
  have c0 := h.c0
  have RR : RRow w b off n cap l := ⟨h.len, h.le, h.max, h.cells.at_⟩
  obtain ⟨b', off', hy, hcl⟩ := RR.cells.int (k := k) (by rw [RR.len]; exact hk)
  simp only [Option.some.injEq, Addr.mk.injEq] at hy
  obtain ⟨rfl, rfl, _⟩ := hy
  rw [hz] at hcl
  have hblt := cell_lt hcl
  have hn1 : ¬ b = w.heap.size + 1 := by omega
  have hn2 : ¬ b = w.heap.size := by omega
  have hblt2 : b < w.heap.size + 1 := by omega
  have hplt := cell_lt c0
  have hp1 : ¬ p = w.heap.size + 1 := by omega
  have hp2 : ¬ p = w.heap.size := by omega
  have hplt2 : p < w.heap.size + 1 := by omega
  have R0 := RR.below (two_ok w dparB (dparK k))
  have HSP := Lib.hid (spaceAB (W := ((w.alloc dparB).alloc (dparK k))) (r := z) hs)
  have HS := Lib.hid h
  have HD := Lib.hid (startsB R0 sDeS k (by omega) hD)
  have HP := Lib.hid (startsB R0 sPoS k (by omega) hP)
  have hk1 : k + 1 ≤ n := by omega
  have HE := Lib.hid (startsB R0 sPeS k (by omega) hE)
  have HLD := Lib.hid (leadB R0 (k + 1) hq)
  have hqn : k + 1 + q ≤ n := by have := leadP_le (l.drop (k + 1)); rw [hq, dropl, RR.len] at this; omega
  simp only [Int.natCast_add, Int.cast_ofNat_Int] at HLD
  have HSC := Lib.hid (startsB R0 sScS (k + 1 + q) (by omega) hS)
  simp only [Int.natCast_add, Int.cast_ofNat_Int] at HSC
  have hq1 : (0 : Int) < (q : Int) := by omega
  have hb : Below ((w.alloc dparB).alloc (dparK k)).heap.size ((w.alloc dparB).alloc (dparK k)) ((w.alloc dparB).alloc (dparK k)) := Below.refl _ _
  clear h RR R0 hz hs hD hP hE hq hS
  go_enter Try.func68, Try.ntmps68
  go_wp2_with (first
    | (go_at_call 78; (with_reducible refine (HSP.out _ hb).mono ?_); rintro e w1 ⟨rfl, hb1⟩; replace hb := hb1; clear hb1; obtain ⟨c1, c2⟩ := bcell hb; have hz1 : w.heap.size + 1 < w1.heap.size := (by have := hb.size; simp at this; omega); have hz0 : w.heap.size < w1.heap.size := (by omega))
    | (go_at_call 59; (with_reducible refine (HD.out _ hb).mono ?_); rintro e w1 ⟨rfl, hb1⟩; replace hb := hb1; clear hb1; obtain ⟨c1, c2⟩ := bcell hb; have hz1 : w.heap.size + 1 < w1.heap.size := (by have := hb.size; simp at this; omega); have hz0 : w.heap.size < w1.heap.size := (by omega))
    | (go_at_call 59; (with_reducible refine (HP.out _ hb).mono ?_); rintro e w1 ⟨rfl, hb1⟩; replace hb := hb1; clear hb1; obtain ⟨c1, c2⟩ := bcell hb; have hz1 : w.heap.size + 1 < w1.heap.size := (by have := hb.size; simp at this; omega); have hz0 : w.heap.size < w1.heap.size := (by omega))
    | (go_at_call 59; (with_reducible refine (HE.out _ hb).mono ?_); rintro e w1 ⟨rfl, hb1⟩; replace hb := hb1; clear hb1; obtain ⟨c1, c2⟩ := bcell hb; have hz1 : w.heap.size + 1 < w1.heap.size := (by have := hb.size; simp at this; omega); have hz0 : w.heap.size < w1.heap.size := (by omega))
    | (go_at_call 81; (with_reducible refine (HLD.out _ hb).mono ?_); rintro e w1 ⟨rfl, hb1⟩; replace hb := hb1; clear hb1; obtain ⟨c1, c2⟩ := bcell hb; have hz1 : w.heap.size + 1 < w1.heap.size := (by have := hb.size; simp at this; omega); have hz0 : w.heap.size < w1.heap.size := (by omega))
    | (go_at_call 59; (with_reducible refine (HSC.out _ hb).mono ?_); rintro e w1 ⟨rfl, hb1⟩; replace hb := hb1; clear hb1; obtain ⟨c1, c2⟩ := bcell hb; have hz1 : w.heap.size + 1 < w1.heap.size := (by have := hb.size; simp at this; omega); have hz0 : w.heap.size < w1.heap.size := (by omega)))
  have e0 : w1.cell? ⟨w.heap.size, 0, none⟩ = some (.int .i64 0) := by simp [go_sem, c1]
  have e1 : w1.cell? ⟨w.heap.size, 1, none⟩ = some (.int .i64 0) := by simp [go_sem, c1]
  have e2 : w1.cell? ⟨w.heap.size, 2, none⟩ = some (.int .i64 0) := by simp [go_sem, c1]
  have x0 : w1.cell? ⟨w.heap.size + 1, 0, none⟩ = some (.int .i64 8) := by simp [go_sem, c1]
  have x1 : w1.cell? ⟨w.heap.size + 1, 1, none⟩ = some (.int .i64 k) := by simp [go_sem, c1]
  have x2 : w1.cell? ⟨w.heap.size + 1, 2, none⟩ = some (.int .i64 ((k : Int) + 1)) := by simp [go_sem, c1]
  have HB2 := Below.more (two_ok w dparB (dparK k)) hb
  refine bodyPost_ret (v := parI 8 k ((k : Int) + 1)) ?_ rfl ⟨gv, G, ret_par rfl rfl (by first | rfl | omega | (simp only []; omega)), sub_mid ((HS.out.below HB2).on (k' := k + 1) (by omega)) (Step.of_below (Below.refl _ _) (fun x hx => Nat.lt_of_lt_of_le (HS.out.gvlt x hx) HB2.size)) HB2 HS.out.size HS.out.gvlt ((((Mid.refl _ _ _).set (g := w.heap.size) (by omega) (by omega) _).set (g := w.heap.size) (by omega) (by omega) _).set (g := w.heap.size) (by omega) (by omega) _)⟩
  simp [results, Try.results68, go_sem, e0, e1, e2, x0, x1, x2, parI]

set_option maxHeartbeats 2000000 in
theorem item_pe2 (h : Sub A0 w p (some ⟨b, off, none⟩) n cap l k gv G) (hk : k < n) (z : Int) (hz : l.getD k 0 = z) (hs : spaceB z = false) (hD : sw sDe (l.drop k) = false) (hP : sw sPo (l.drop k) = false) (hE : sw sPe (l.drop k) = true) (q : Nat) (hq : leadP (l.drop (k + 1)) = q) (hq0 : 0 < q) (hS : sw sSc (l.drop (k + 1 + q)) = true) :
    Calls Try.prog 68 #[.pointer (some ⟨p, 0, none⟩), .int .i64 (k : Nat)] w (ItemSays A0 p (some ⟨b, off, none⟩) n cap l k gv w (14, q + 2)) := by
  have hm := h.max
  have hc := h.le
  unfold maxLen at hm
  have hpl := h.lt
  have hsz := h.size
  have c0 := h.c0
  have RR : RRow w b off n cap l := ⟨h.len, h.le, h.max, h.cells.at_⟩
  obtain ⟨b', off', hy, hcl⟩ := RR.cells.int (k := k) (by rw [RR.len]; exact hk)
  simp only [Option.some.injEq, Addr.mk.injEq] at hy
  obtain ⟨rfl, rfl, _⟩ := hy
  rw [hz] at hcl
  have hblt := cell_lt hcl
  have hn1 : ¬ b = w.heap.size + 1 := by omega
  have hn2 : ¬ b = w.heap.size := by omega
  have hblt2 : b < w.heap.size + 1 := by omega
  have hplt := cell_lt c0
  have hp1 : ¬ p = w.heap.size + 1 := by omega
  have hp2 : ¬ p = w.heap.size := by omega
  have hplt2 : p < w.heap.size + 1 := by omega
  have R0 := RR.below (two_ok w dparB (dparK k))
  have HSP := Lib.hid (spaceAB (W := ((w.alloc dparB).alloc (dparK k))) (r := z) hs)
  have HS := Lib.hid h
  have HD := Lib.hid (startsB R0 sDeS k (by omega) hD)
  have HP := Lib.hid (startsB R0 sPoS k (by omega) hP)
  have hk1 : k + 1 ≤ n := by omega
  have HE := Lib.hid (startsB R0 sPeS k (by omega) hE)
  have HLD := Lib.hid (leadB R0 (k + 1) hq)
  have hqn : k + 1 + q ≤ n := by have := leadP_le (l.drop (k + 1)); rw [hq, dropl, RR.len] at this; omega
  simp only [Int.natCast_add, Int.cast_ofNat_Int] at HLD
  have HSC := Lib.hid (startsB R0 sScS (k + 1 + q) (by omega) hS)
  simp only [Int.natCast_add, Int.cast_ofNat_Int] at HSC
  have hq1 : (0 : Int) < (q : Int) := by omega
  have hqn2 : k + 1 + q + 1 ≤ n := by have := sw_length hS; rw [dropl, RR.len] at this; simp [sSc] at this; omega
  have hb : Below ((w.alloc dparB).alloc (dparK k)).heap.size ((w.alloc dparB).alloc (dparK k)) ((w.alloc dparB).alloc (dparK k)) := Below.refl _ _
  clear h RR R0 hz hs hD hP hE hq hS
  go_enter Try.func68, Try.ntmps68
  go_wp2_with (first
    | (go_at_call 78; (with_reducible refine (HSP.out _ hb).mono ?_); rintro e w1 ⟨rfl, hb1⟩; replace hb := hb1; clear hb1; obtain ⟨c1, c2⟩ := bcell hb; have hz1 : w.heap.size + 1 < w1.heap.size := (by have := hb.size; simp at this; omega); have hz0 : w.heap.size < w1.heap.size := (by omega))
    | (go_at_call 59; (with_reducible refine (HD.out _ hb).mono ?_); rintro e w1 ⟨rfl, hb1⟩; replace hb := hb1; clear hb1; obtain ⟨c1, c2⟩ := bcell hb; have hz1 : w.heap.size + 1 < w1.heap.size := (by have := hb.size; simp at this; omega); have hz0 : w.heap.size < w1.heap.size := (by omega))
    | (go_at_call 59; (with_reducible refine (HP.out _ hb).mono ?_); rintro e w1 ⟨rfl, hb1⟩; replace hb := hb1; clear hb1; obtain ⟨c1, c2⟩ := bcell hb; have hz1 : w.heap.size + 1 < w1.heap.size := (by have := hb.size; simp at this; omega); have hz0 : w.heap.size < w1.heap.size := (by omega))
    | (go_at_call 59; (with_reducible refine (HE.out _ hb).mono ?_); rintro e w1 ⟨rfl, hb1⟩; replace hb := hb1; clear hb1; obtain ⟨c1, c2⟩ := bcell hb; have hz1 : w.heap.size + 1 < w1.heap.size := (by have := hb.size; simp at this; omega); have hz0 : w.heap.size < w1.heap.size := (by omega))
    | (go_at_call 81; (with_reducible refine (HLD.out _ hb).mono ?_); rintro e w1 ⟨rfl, hb1⟩; replace hb := hb1; clear hb1; obtain ⟨c1, c2⟩ := bcell hb; have hz1 : w.heap.size + 1 < w1.heap.size := (by have := hb.size; simp at this; omega); have hz0 : w.heap.size < w1.heap.size := (by omega))
    | (go_at_call 59; (with_reducible refine (HSC.out _ hb).mono ?_); rintro e w1 ⟨rfl, hb1⟩; replace hb := hb1; clear hb1; obtain ⟨c1, c2⟩ := bcell hb; have hz1 : w.heap.size + 1 < w1.heap.size := (by have := hb.size; simp at this; omega); have hz0 : w.heap.size < w1.heap.size := (by omega)))
  have e0 : w1.cell? ⟨w.heap.size, 0, none⟩ = some (.int .i64 0) := by simp [go_sem, c1]
  have e1 : w1.cell? ⟨w.heap.size, 1, none⟩ = some (.int .i64 0) := by simp [go_sem, c1]
  have e2 : w1.cell? ⟨w.heap.size, 2, none⟩ = some (.int .i64 0) := by simp [go_sem, c1]
  have x0 : w1.cell? ⟨w.heap.size + 1, 0, none⟩ = some (.int .i64 8) := by simp [go_sem, c1]
  have x1 : w1.cell? ⟨w.heap.size + 1, 1, none⟩ = some (.int .i64 k) := by simp [go_sem, c1]
  have x2 : w1.cell? ⟨w.heap.size + 1, 2, none⟩ = some (.int .i64 ((k : Int) + 1)) := by simp [go_sem, c1]
  have HB2 := Below.more (two_ok w dparB (dparK k)) hb
  refine bodyPost_ret (v := parI 14 k ((k : Int) + 1 + q + 1)) ?_ rfl ⟨gv, G, ret_par rfl rfl (by first | rfl | omega | (simp only []; omega)), sub_mid ((HS.out.below HB2).on (k' := k + (q + 2)) (by omega)) (Step.of_below (Below.refl _ _) (fun x hx => Nat.lt_of_lt_of_le (HS.out.gvlt x hx) HB2.size)) HB2 HS.out.size HS.out.gvlt ((((((Mid.refl _ _ _).set (g := w.heap.size + 1) (by omega) (by omega) _).set (g := w.heap.size + 1) (by omega) (by omega) _).set (g := w.heap.size) (by omega) (by omega) _).set (g := w.heap.size) (by omega) (by omega) _).set (g := w.heap.size) (by omega) (by omega) _)⟩
  simp [results, Try.results68, go_sem, e0, e1, e2, x0, x1, x2, parI]

set_option maxHeartbeats 2000000 in
theorem item_mD1 (h : Sub A0 w p (some ⟨b, off, none⟩) n cap l k gv G) (hk : k < n) (z : Int) (hz : l.getD k 0 = z) (hs : spaceB z = false) (hD : sw sDe (l.drop k) = true) (m : Nat) (hm2 : mtP (l.drop k) = some m) :
    Calls Try.prog 68 #[.pointer (some ⟨p, 0, none⟩), .int .i64 (k : Nat)] w (ItemSays A0 p (some ⟨b, off, none⟩) n cap l k gv w (mkP (l.drop k), m)) := by
  have hm := h.max
  have hc := h.le
  unfold maxLen at hm
  have hpl := h.lt
  have hsz := h.size
  have c0 := h.c0
  have RR : RRow w b off n cap l := ⟨h.len, h.le, h.max, h.cells.at_⟩
  obtain ⟨b', off', hy, hcl⟩ := RR.cells.int (k := k) (by rw [RR.len]; exact hk)
  simp only [Option.some.injEq, Addr.mk.injEq] at hy
  obtain ⟨rfl, rfl, _⟩ := hy
  rw [hz] at hcl
  have hblt := cell_lt hcl
  have hn1 : ¬ b = w.heap.size + 1 := by omega
  have hn2 : ¬ b = w.heap.size := by omega
  have hblt2 : b < w.heap.size + 1 := by omega
  have hplt := cell_lt c0
  have hp1 : ¬ p = w.heap.size + 1 := by omega
  have hp2 : ¬ p = w.heap.size := by omega
  have hplt2 : p < w.heap.size + 1 := by omega
  have R0 := RR.below (two_ok w dparB (dparK k))
  have HSP := Lib.hid (spaceAB (W := ((w.alloc dparB).alloc (dparK k))) (r := z) hs)
  have HS := Lib.hid h
  have HD := Lib.hid (startsB R0 sDeS k (by omega) hD)
  have HMK := Lib.hid (fun (w' : World) (hb : Below w.heap.size w w') => markup_sub (h.below hb) k (Nat.le_refl _) hk)
  rw [show mkT l k = (k : Int) + m by rw [mkT_eq, hm2]] at HMK
  rw [mkK_eq] at HMK
  obtain ⟨kd, hkd⟩ : ∃ kd, mkP (l.drop k) = kd := ⟨_, rfl⟩
  rw [hkd] at HMK ⊢
  have hmm := mtP_le hm2
  have hm3 : (0 : Int) < (k : Int) + m := by omega
  have hb : Below ((w.alloc dparB).alloc (dparK k)).heap.size ((w.alloc dparB).alloc (dparK k)) ((w.alloc dparB).alloc (dparK k)) := Below.refl _ _
  clear h RR R0 hz hs hD hm2 hkd hmm
  go_enter Try.func68, Try.ntmps68
  go_wp2_with (first
    | (go_at_call 78; (with_reducible refine (HSP.out _ hb).mono ?_); rintro e w1 ⟨rfl, hb1⟩; replace hb := hb1; clear hb1; obtain ⟨c1, c2⟩ := bcell hb; have hz1 : w.heap.size + 1 < w1.heap.size := (by have := hb.size; simp at this; omega); have hz0 : w.heap.size < w1.heap.size := (by omega))
    | (go_at_call 59; (with_reducible refine (HD.out _ hb).mono ?_); rintro e w1 ⟨rfl, hb1⟩; replace hb := hb1; clear hb1; obtain ⟨c1, c2⟩ := bcell hb; have hz1 : w.heap.size + 1 < w1.heap.size := (by have := hb.size; simp at this; omega); have hz0 : w.heap.size < w1.heap.size := (by omega))
    | (go_at_call 86; (with_reducible refine (HMK.out _ (Below.more (two_ok w dparB (dparK k)) hb)).mono ?_); rintro e w2 ⟨gv', G', rfl, hsub, hst⟩; obtain ⟨d1, d2⟩ := step_cells hst w.heap.size hz0 (fun e => hp2 e.symm) (fun hx => by have := HS.out.gvlt _ hx; omega); obtain ⟨d3, d4⟩ := step_cells hst (w.heap.size + 1) hz1 (fun e => hp1 e.symm) (fun hx => by have := HS.out.gvlt _ hx; omega); have e0 : w2.cell? ⟨w.heap.size, 0, none⟩ = some (.int .i64 0) := (by rw [d1]; simp [go_sem, c1]); have e1 : w2.cell? ⟨w.heap.size, 1, none⟩ = some (.int .i64 0) := (by rw [d1]; simp [go_sem, c1]); have e2 : w2.cell? ⟨w.heap.size, 2, none⟩ = some (.int .i64 0) := (by rw [d1]; simp [go_sem, c1]); have x0 : w2.cell? ⟨w.heap.size + 1, 0, none⟩ = some (.int .i64 8) := (by rw [d3]; simp [go_sem, c1]); have x1 : w2.cell? ⟨w.heap.size + 1, 1, none⟩ = some (.int .i64 k) := (by rw [d3]; simp [go_sem, c1]); have x2 : w2.cell? ⟨w.heap.size + 1, 2, none⟩ = some (.int .i64 ((k : Int) + 1)) := (by rw [d3]; simp [go_sem, c1]); have z0 : ∀ i, w2.frozen? ⟨w.heap.size, i, none⟩ = false := (fun i => by rw [d2]; simp [go_sem, c2]); have hs2 : w.heap.size + 1 < w2.heap.size := (by have := hst.size; omega); have hs3 : w.heap.size < w2.heap.size := (by omega); have hs4 : ¬ w.heap.size = w2.heap.size := (by omega); have hs5 : ¬ w.heap.size + 1 = w2.heap.size := (by omega); have HX := Lib.hid (And.intro hsub (And.intro hst hb)); clear hsub hst c1 c2 d1 d2 d3 d4 hb))
  refine bodyPost_ret (v := parI (kd) k ((k : Int) + m)) ?_ rfl ⟨gv', G', rfl, sub_mid (HX.out.1.on (k' := k + m) (by omega)) HX.out.2.1 (Below.more (two_ok w dparB (dparK k)) HX.out.2.2) HS.out.size HS.out.gvlt (((((Mid.refl w.heap.size w1.heap.size w2).set (g := w.heap.size) (Nat.le_refl _) hz0 _).set (g := w.heap.size) (Nat.le_refl _) hz0 _).set (g := w.heap.size) (Nat.le_refl _) hz0 _).alloc _)⟩
  simp [results, Try.results68, go_sem, e0, e1, e2, x0, x1, x2, parI, hs3, hs4, hs5]

set_option maxHeartbeats 2000000 in
theorem item_mD0 (h : Sub A0 w p (some ⟨b, off, none⟩) n cap l k gv G) (hk : k < n) (z : Int) (hz : l.getD k 0 = z) (hs : spaceB z = false) (hD : sw sDe (l.drop k) = true) (hm2 : mtP (l.drop k) = none) :
    Calls Try.prog 68 #[.pointer (some ⟨p, 0, none⟩), .int .i64 (k : Nat)] w (ItemSays A0 p (some ⟨b, off, none⟩) n cap l k gv w (8, 1)) := by
  have hm := h.max
  have hc := h.le
  unfold maxLen at hm
  have hpl := h.lt
  have hsz := h.size
  have c0 := h.c0
  have RR : RRow w b off n cap l := ⟨h.len, h.le, h.max, h.cells.at_⟩
  obtain ⟨b', off', hy, hcl⟩ := RR.cells.int (k := k) (by rw [RR.len]; exact hk)
  simp only [Option.some.injEq, Addr.mk.injEq] at hy
  obtain ⟨rfl, rfl, _⟩ := hy
  rw [hz] at hcl
  have hblt := cell_lt hcl
  have hn1 : ¬ b = w.heap.size + 1 := by omega
  have hn2 : ¬ b = w.heap.size := by omega
  have hblt2 : b < w.heap.size + 1 := by omega
  have hplt := cell_lt c0
  have hp1 : ¬ p = w.heap.size + 1 := by omega
  have hp2 : ¬ p = w.heap.size := by omega
  have hplt2 : p < w.heap.size + 1 := by omega
  have R0 := RR.below (two_ok w dparB (dparK k))
  have HSP := Lib.hid (spaceAB (W := ((w.alloc dparB).alloc (dparK k))) (r := z) hs)
  have HS := Lib.hid h
  have HD := Lib.hid (startsB R0 sDeS k (by omega) hD)
  have HMK := Lib.hid (fun (w' : World) (hb : Below w.heap.size w w') => markup_sub (h.below hb) k (Nat.le_refl _) hk)
  rw [show mkT l k = 0 by rw [mkT_eq, hm2]] at HMK
  rw [mkK_eq] at HMK
  obtain ⟨kd, hkd⟩ : ∃ kd, mkP (l.drop k) = kd := ⟨_, rfl⟩
  rw [hkd] at HMK
  have hb : Below ((w.alloc dparB).alloc (dparK k)).heap.size ((w.alloc dparB).alloc (dparK k)) ((w.alloc dparB).alloc (dparK k)) := Below.refl _ _
  clear h RR R0 hz hs hD hm2 hkd
  go_enter Try.func68, Try.ntmps68
  go_wp2_with (first
    | (go_at_call 78; (with_reducible refine (HSP.out _ hb).mono ?_); rintro e w1 ⟨rfl, hb1⟩; replace hb := hb1; clear hb1; obtain ⟨c1, c2⟩ := bcell hb; have hz1 : w.heap.size + 1 < w1.heap.size := (by have := hb.size; simp at this; omega); have hz0 : w.heap.size < w1.heap.size := (by omega))
    | (go_at_call 59; (with_reducible refine (HD.out _ hb).mono ?_); rintro e w1 ⟨rfl, hb1⟩; replace hb := hb1; clear hb1; obtain ⟨c1, c2⟩ := bcell hb; have hz1 : w.heap.size + 1 < w1.heap.size := (by have := hb.size; simp at this; omega); have hz0 : w.heap.size < w1.heap.size := (by omega))
    | (go_at_call 86; (with_reducible refine (HMK.out _ (Below.more (two_ok w dparB (dparK k)) hb)).mono ?_); rintro e w2 ⟨gv', G', rfl, hsub, hst⟩; obtain ⟨d1, d2⟩ := step_cells hst w.heap.size hz0 (fun e => hp2 e.symm) (fun hx => by have := HS.out.gvlt _ hx; omega); obtain ⟨d3, d4⟩ := step_cells hst (w.heap.size + 1) hz1 (fun e => hp1 e.symm) (fun hx => by have := HS.out.gvlt _ hx; omega); have e0 : w2.cell? ⟨w.heap.size, 0, none⟩ = some (.int .i64 0) := (by rw [d1]; simp [go_sem, c1]); have e1 : w2.cell? ⟨w.heap.size, 1, none⟩ = some (.int .i64 0) := (by rw [d1]; simp [go_sem, c1]); have e2 : w2.cell? ⟨w.heap.size, 2, none⟩ = some (.int .i64 0) := (by rw [d1]; simp [go_sem, c1]); have x0 : w2.cell? ⟨w.heap.size + 1, 0, none⟩ = some (.int .i64 8) := (by rw [d3]; simp [go_sem, c1]); have x1 : w2.cell? ⟨w.heap.size + 1, 1, none⟩ = some (.int .i64 k) := (by rw [d3]; simp [go_sem, c1]); have x2 : w2.cell? ⟨w.heap.size + 1, 2, none⟩ = some (.int .i64 ((k : Int) + 1)) := (by rw [d3]; simp [go_sem, c1]); have z0 : ∀ i, w2.frozen? ⟨w.heap.size, i, none⟩ = false := (fun i => by rw [d2]; simp [go_sem, c2]); have hs2 : w.heap.size + 1 < w2.heap.size := (by have := hst.size; omega); have hs3 : w.heap.size < w2.heap.size := (by omega); have hs4 : ¬ w.heap.size = w2.heap.size := (by omega); have hs5 : ¬ w.heap.size + 1 = w2.heap.size := (by omega); have HX := Lib.hid (And.intro hsub (And.intro hst hb)); clear hsub hst c1 c2 d1 d2 d3 d4 hb))
  refine bodyPost_ret (v := parI (8) k ((k : Int) + 1)) ?_ rfl ⟨gv', G', rfl, sub_mid (HX.out.1.on (k' := k + 1) (by omega)) HX.out.2.1 (Below.more (two_ok w dparB (dparK k)) HX.out.2.2) HS.out.size HS.out.gvlt (((((Mid.refl w.heap.size w1.heap.size w2).set (g := w.heap.size) (Nat.le_refl _) hz0 _).set (g := w.heap.size) (Nat.le_refl _) hz0 _).set (g := w.heap.size) (Nat.le_refl _) hz0 _).alloc _)⟩
  simp [results, Try.results68, go_sem, e0, e1, e2, x0, x1, x2, parI, hs3, hs4, hs5]

set_option maxHeartbeats 2000000 in
theorem item_mP1 (h : Sub A0 w p (some ⟨b, off, none⟩) n cap l k gv G) (hk : k < n) (z : Int) (hz : l.getD k 0 = z) (hs : spaceB z = false) (hD : sw sDe (l.drop k) = false) (hP : sw sPo (l.drop k) = true) (m : Nat) (hm2 : mtP (l.drop k) = some m) :
    Calls Try.prog 68 #[.pointer (some ⟨p, 0, none⟩), .int .i64 (k : Nat)] w (ItemSays A0 p (some ⟨b, off, none⟩) n cap l k gv w (mkP (l.drop k), m)) := by
  have hm := h.max
  have hc := h.le
  unfold maxLen at hm
  have hpl := h.lt
  have hsz := h.size
  have c0 := h.c0
  have RR : RRow w b off n cap l := ⟨h.len, h.le, h.max, h.cells.at_⟩
  obtain ⟨b', off', hy, hcl⟩ := RR.cells.int (k := k) (by rw [RR.len]; exact hk)
  simp only [Option.some.injEq, Addr.mk.injEq] at hy
  obtain ⟨rfl, rfl, _⟩ := hy
  rw [hz] at hcl
  have hblt := cell_lt hcl
  have hn1 : ¬ b = w.heap.size + 1 := by omega
  have hn2 : ¬ b = w.heap.size := by omega
  have hblt2 : b < w.heap.size + 1 := by omega
  have hplt := cell_lt c0
  have hp1 : ¬ p = w.heap.size + 1 := by omega
  have hp2 : ¬ p = w.heap.size := by omega
  have hplt2 : p < w.heap.size + 1 := by omega
  have R0 := RR.below (two_ok w dparB (dparK k))
  have HSP := Lib.hid (spaceAB (W := ((w.alloc dparB).alloc (dparK k))) (r := z) hs)
  have HS := Lib.hid h
  have HD := Lib.hid (startsB R0 sDeS k (by omega) hD)
  have HP := Lib.hid (startsB R0 sPoS k (by omega) hP)
  have HMK := Lib.hid (fun (w' : World) (hb : Below w.heap.size w w') => markup_sub (h.below hb) k (Nat.le_refl _) hk)
  rw [show mkT l k = (k : Int) + m by rw [mkT_eq, hm2]] at HMK
  rw [mkK_eq] at HMK
  obtain ⟨kd, hkd⟩ : ∃ kd, mkP (l.drop k) = kd := ⟨_, rfl⟩
  rw [hkd] at HMK ⊢
  have hmm := mtP_le hm2
  have hm3 : (0 : Int) < (k : Int) + m := by omega
  have hb : Below ((w.alloc dparB).alloc (dparK k)).heap.size ((w.alloc dparB).alloc (dparK k)) ((w.alloc dparB).alloc (dparK k)) := Below.refl _ _
  clear h RR R0 hz hs hD hP hm2 hkd hmm
  go_enter Try.func68, Try.ntmps68
  go_wp2_with (first
    | (go_at_call 78; (with_reducible refine (HSP.out _ hb).mono ?_); rintro e w1 ⟨rfl, hb1⟩; replace hb := hb1; clear hb1; obtain ⟨c1, c2⟩ := bcell hb; have hz1 : w.heap.size + 1 < w1.heap.size := (by have := hb.size; simp at this; omega); have hz0 : w.heap.size < w1.heap.size := (by omega))
    | (go_at_call 59; (with_reducible refine (HD.out _ hb).mono ?_); rintro e w1 ⟨rfl, hb1⟩; replace hb := hb1; clear hb1; obtain ⟨c1, c2⟩ := bcell hb; have hz1 : w.heap.size + 1 < w1.heap.size := (by have := hb.size; simp at this; omega); have hz0 : w.heap.size < w1.heap.size := (by omega))
    | (go_at_call 59; (with_reducible refine (HP.out _ hb).mono ?_); rintro e w1 ⟨rfl, hb1⟩; replace hb := hb1; clear hb1; obtain ⟨c1, c2⟩ := bcell hb; have hz1 : w.heap.size + 1 < w1.heap.size := (by have := hb.size; simp at this; omega); have hz0 : w.heap.size < w1.heap.size := (by omega))
    | (go_at_call 86; (with_reducible refine (HMK.out _ (Below.more (two_ok w dparB (dparK k)) hb)).mono ?_); rintro e w2 ⟨gv', G', rfl, hsub, hst⟩; obtain ⟨d1, d2⟩ := step_cells hst w.heap.size hz0 (fun e => hp2 e.symm) (fun hx => by have := HS.out.gvlt _ hx; omega); obtain ⟨d3, d4⟩ := step_cells hst (w.heap.size + 1) hz1 (fun e => hp1 e.symm) (fun hx => by have := HS.out.gvlt _ hx; omega); have e0 : w2.cell? ⟨w.heap.size, 0, none⟩ = some (.int .i64 0) := (by rw [d1]; simp [go_sem, c1]); have e1 : w2.cell? ⟨w.heap.size, 1, none⟩ = some (.int .i64 0) := (by rw [d1]; simp [go_sem, c1]); have e2 : w2.cell? ⟨w.heap.size, 2, none⟩ = some (.int .i64 0) := (by rw [d1]; simp [go_sem, c1]); have x0 : w2.cell? ⟨w.heap.size + 1, 0, none⟩ = some (.int .i64 8) := (by rw [d3]; simp [go_sem, c1]); have x1 : w2.cell? ⟨w.heap.size + 1, 1, none⟩ = some (.int .i64 k) := (by rw [d3]; simp [go_sem, c1]); have x2 : w2.cell? ⟨w.heap.size + 1, 2, none⟩ = some (.int .i64 ((k : Int) + 1)) := (by rw [d3]; simp [go_sem, c1]); have z0 : ∀ i, w2.frozen? ⟨w.heap.size, i, none⟩ = false := (fun i => by rw [d2]; simp [go_sem, c2]); have hs2 : w.heap.size + 1 < w2.heap.size := (by have := hst.size; omega); have hs3 : w.heap.size < w2.heap.size := (by omega); have hs4 : ¬ w.heap.size = w2.heap.size := (by omega); have hs5 : ¬ w.heap.size + 1 = w2.heap.size := (by omega); have HX := Lib.hid (And.intro hsub (And.intro hst hb)); clear hsub hst c1 c2 d1 d2 d3 d4 hb))
  refine bodyPost_ret (v := parI (kd) k ((k : Int) + m)) ?_ rfl ⟨gv', G', rfl, sub_mid (HX.out.1.on (k' := k + m) (by omega)) HX.out.2.1 (Below.more (two_ok w dparB (dparK k)) HX.out.2.2) HS.out.size HS.out.gvlt (((((Mid.refl w.heap.size w1.heap.size w2).set (g := w.heap.size) (Nat.le_refl _) hz0 _).set (g := w.heap.size) (Nat.le_refl _) hz0 _).set (g := w.heap.size) (Nat.le_refl _) hz0 _).alloc _)⟩
  simp [results, Try.results68, go_sem, e0, e1, e2, x0, x1, x2, parI, hs3, hs4, hs5]

set_option maxHeartbeats 2000000 in
theorem item_mP0 (h : Sub A0 w p (some ⟨b, off, none⟩) n cap l k gv G) (hk : k < n) (z : Int) (hz : l.getD k 0 = z) (hs : spaceB z = false) (hD : sw sDe (l.drop k) = false) (hP : sw sPo (l.drop k) = true) (hm2 : mtP (l.drop k) = none) :
    Calls Try.prog 68 #[.pointer (some ⟨p, 0, none⟩), .int .i64 (k : Nat)] w (ItemSays A0 p (some ⟨b, off, none⟩) n cap l k gv w (8, 1)) := by
  have hm := h.max
  have hc := h.le
  unfold maxLen at hm
  have hpl := h.lt
  have hsz := h.size
  have c0 := h.c0
  have RR : RRow w b off n cap l := ⟨h.len, h.le, h.max, h.cells.at_⟩
  obtain ⟨b', off', hy, hcl⟩ := RR.cells.int (k := k) (by rw [RR.len]; exact hk)
  simp only [Option.some.injEq, Addr.mk.injEq] at hy
  obtain ⟨rfl, rfl, _⟩ := hy
  rw [hz] at hcl
  have hblt := cell_lt hcl
  have hn1 : ¬ b = w.heap.size + 1 := by omega
  have hn2 : ¬ b = w.heap.size := by omega
  have hblt2 : b < w.heap.size + 1 := by omega
  have hplt := cell_lt c0
  have hp1 : ¬ p = w.heap.size + 1 := by omega
  have hp2 : ¬ p = w.heap.size := by omega
  have hplt2 : p < w.heap.size + 1 := by omega
  have R0 := RR.below (two_ok w dparB (dparK k))
  have HSP := Lib.hid (spaceAB (W := ((w.alloc dparB).alloc (dparK k))) (r := z) hs)
  have HS := Lib.hid h
  have HD := Lib.hid (startsB R0 sDeS k (by omega) hD)
  have HP := Lib.hid (startsB R0 sPoS k (by omega) hP)
  have HMK := Lib.hid (fun (w' : World) (hb : Below w.heap.size w w') => markup_sub (h.below hb) k (Nat.le_refl _) hk)
  rw [show mkT l k = 0 by rw [mkT_eq, hm2]] at HMK
  rw [mkK_eq] at HMK
  obtain ⟨kd, hkd⟩ : ∃ kd, mkP (l.drop k) = kd := ⟨_, rfl⟩
  rw [hkd] at HMK
  have hb : Below ((w.alloc dparB).alloc (dparK k)).heap.size ((w.alloc dparB).alloc (dparK k)) ((w.alloc dparB).alloc (dparK k)) := Below.refl _ _
  clear h RR R0 hz hs hD hP hm2 hkd
  go_enter Try.func68, Try.ntmps68
  go_wp2_with (first
    | (go_at_call 78; (with_reducible refine (HSP.out _ hb).mono ?_); rintro e w1 ⟨rfl, hb1⟩; replace hb := hb1; clear hb1; obtain ⟨c1, c2⟩ := bcell hb; have hz1 : w.heap.size + 1 < w1.heap.size := (by have := hb.size; simp at this; omega); have hz0 : w.heap.size < w1.heap.size := (by omega))
    | (go_at_call 59; (with_reducible refine (HD.out _ hb).mono ?_); rintro e w1 ⟨rfl, hb1⟩; replace hb := hb1; clear hb1; obtain ⟨c1, c2⟩ := bcell hb; have hz1 : w.heap.size + 1 < w1.heap.size := (by have := hb.size; simp at this; omega); have hz0 : w.heap.size < w1.heap.size := (by omega))
    | (go_at_call 59; (with_reducible refine (HP.out _ hb).mono ?_); rintro e w1 ⟨rfl, hb1⟩; replace hb := hb1; clear hb1; obtain ⟨c1, c2⟩ := bcell hb; have hz1 : w.heap.size + 1 < w1.heap.size := (by have := hb.size; simp at this; omega); have hz0 : w.heap.size < w1.heap.size := (by omega))
    | (go_at_call 86; (with_reducible refine (HMK.out _ (Below.more (two_ok w dparB (dparK k)) hb)).mono ?_); rintro e w2 ⟨gv', G', rfl, hsub, hst⟩; obtain ⟨d1, d2⟩ := step_cells hst w.heap.size hz0 (fun e => hp2 e.symm) (fun hx => by have := HS.out.gvlt _ hx; omega); obtain ⟨d3, d4⟩ := step_cells hst (w.heap.size + 1) hz1 (fun e => hp1 e.symm) (fun hx => by have := HS.out.gvlt _ hx; omega); have e0 : w2.cell? ⟨w.heap.size, 0, none⟩ = some (.int .i64 0) := (by rw [d1]; simp [go_sem, c1]); have e1 : w2.cell? ⟨w.heap.size, 1, none⟩ = some (.int .i64 0) := (by rw [d1]; simp [go_sem, c1]); have e2 : w2.cell? ⟨w.heap.size, 2, none⟩ = some (.int .i64 0) := (by rw [d1]; simp [go_sem, c1]); have x0 : w2.cell? ⟨w.heap.size + 1, 0, none⟩ = some (.int .i64 8) := (by rw [d3]; simp [go_sem, c1]); have x1 : w2.cell? ⟨w.heap.size + 1, 1, none⟩ = some (.int .i64 k) := (by rw [d3]; simp [go_sem, c1]); have x2 : w2.cell? ⟨w.heap.size + 1, 2, none⟩ = some (.int .i64 ((k : Int) + 1)) := (by rw [d3]; simp [go_sem, c1]); have z0 : ∀ i, w2.frozen? ⟨w.heap.size, i, none⟩ = false := (fun i => by rw [d2]; simp [go_sem, c2]); have hs2 : w.heap.size + 1 < w2.heap.size := (by have := hst.size; omega); have hs3 : w.heap.size < w2.heap.size := (by omega); have hs4 : ¬ w.heap.size = w2.heap.size := (by omega); have hs5 : ¬ w.heap.size + 1 = w2.heap.size := (by omega); have HX := Lib.hid (And.intro hsub (And.intro hst hb)); clear hsub hst c1 c2 d1 d2 d3 d4 hb))
  refine bodyPost_ret (v := parI (8) k ((k : Int) + 1)) ?_ rfl ⟨gv', G', rfl, sub_mid (HX.out.1.on (k' := k + 1) (by omega)) HX.out.2.1 (Below.more (two_ok w dparB (dparK k)) HX.out.2.2) HS.out.size HS.out.gvlt (((((Mid.refl w.heap.size w1.heap.size w2).set (g := w.heap.size) (Nat.le_refl _) hz0 _).set (g := w.heap.size) (Nat.le_refl _) hz0 _).set (g := w.heap.size) (Nat.le_refl _) hz0 _).alloc _)⟩
  simp [results, Try.results68, go_sem, e0, e1, e2, x0, x1, x2, parI, hs3, hs4, hs5]

end

end Go.Proofs.Ytpjcheelafegbaa
