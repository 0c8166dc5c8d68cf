/-
  Contract of layer 12: Sorted.
-/
import Derived.Test.YtbljgoieieoamaaSqC
import Derived.Laws.OwnMore
namespace Go.Proofs.Ytbljgoieieoamaa
open Go.Shelf Go.RowKit Go.Lib Go.Sort
set_option linter.unusedVariables false

/-- A change, without where its bytes lie. -/
abbrev PC : Type := Int × Int × List Int
def img (x : Chg) : PC := (x.1, x.2.1, x.2.2.2.2)
def badC (x : Chg) : Prop := x.1 < 0 ∨ x.2.1 < x.1
/-- Does one begin within one ahead of it? -/
def takenC : Int → List Chg → Bool
  | _, [] => false
  | e, x :: r => decide (x.1 < e) || takenC x.2.1 r

theorem chg_cells {w : World} {a : Option Addr} {l : List Chg} (hat : AtCells w a (cellsC l)) {k : Nat} {x : Chg} (h : l[k]? = some x) :
    ∃ b off, a = some ⟨b, off, none⟩ ∧ w.cell? ⟨b, off + k * 3, none⟩ = some (.int .i64 x.1) ∧ w.cell? ⟨b, off + k * 3 + 1, none⟩ = some (.int .i64 x.2.1) ∧ w.cell? ⟨b, off + k * 3 + 2, none⟩ = some (.slice x.2.2.1 x.2.2.2.2.length x.2.2.2.1) := by
  have hk := (List.getElem?_eq_some_iff.1 h).1
  have hx : l.getD k default = x := by rw [List.getD_eq_getElem?_getD, h]; rfl
  have g : ∀ i, i < 3 → (cellsC l)[k * 3 + i]? = some ((encC x)[i]!) := fun i hi => by
    have := cellsC_get l (k * 3 + i) (by omega)
    rwa [show (k * 3 + i) / 3 = k by omega, show (k * 3 + i) % 3 = i by omega, hx] at this
  obtain ⟨b, off, rfl, c0⟩ := hat _ _ (g 0 (by omega))
  obtain ⟨b1, off1, e1, c1⟩ := hat _ _ (g 1 (by omega))
  obtain ⟨b2, off2, e2, c2⟩ := hat _ _ (g 2 (by omega))
  simp only [Option.some.injEq, Addr.mk.injEq] at e1 e2
  obtain ⟨rfl, rfl, _⟩ := e1
  obtain ⟨rfl, rfl, _⟩ := e2
  exact ⟨b, off, rfl, c0, by rw [Nat.add_assoc]; exact c1, by rw [Nat.add_assoc]; exact c2⟩
theorem cellsC_at {l : List Chg} {k : Nat} {x : Chg} (h : l[k]? = some x) (i : Nat) (hi : i < 3) : (cellsC l)[k * 3 + i]? = some ((encC x)[i]!) := by
  have hk := (List.getElem?_eq_some_iff.1 h).1
  have hx : l.getD k default = x := by rw [List.getD_eq_getElem?_getD, h]; rfl
  have := cellsC_get l (k * 3 + i) (by omega)
  rwa [show (k * 3 + i) / 3 = k by omega, show (k * 3 + i) % 3 = i by omega, hx] at this
theorem cellsC_cons (x : Chg) (r : List Chg) : cellsC (x :: r) = [.int .i64 x.1, .int .i64 x.2.1, .slice x.2.2.1 x.2.2.2.2.length x.2.2.2.1] ++ cellsC r := rfl
/-- One change's bytes are put elsewhere. -/
theorem cellsC_set (D R : List Chg) (x : Chg) (a : Option Addr) (c : Nat) : (cellsC (D ++ x :: R)).set (D.length * 3 + 2) (.slice a x.2.2.2.2.length c) = cellsC ((D ++ [(x.1, x.2.1, a, c, x.2.2.2.2)]) ++ R) := by
  have hl := cellsC_length D
  rw [cellsC_append, cellsC_cons, cellsC_append, cellsC_append, List.set_append_right _ _ (by omega), hl, Nat.add_sub_cancel_left]
  simp [cellsC, encC]

theorem owns_nil {w : World} {base n cap : Nat} {e : TypeId} {size : Nat} {a : Option Addr} {xs : List Value} (h : w.ownsRow base e size (.slice a n cap) n xs) (ha : a = none) : cap = 0 := by
  obtain ⟨_, ⟨h1, _⟩ | ⟨g, c, cur, hv, _⟩⟩ := h
  · simp at h1; exact h1.2.2
  · subst ha; simp at hv

/-- Bytes that lie somewhere, but not in a block. -/
structure BytesAt (w : World) (g : Nat) (x : Chg) : Prop where
  cells : ∀ j u, (x.2.2.2.2.map (Value.int .u8))[j]? = some u → ∃ b off, x.2.2.1 = some ⟨b, off, none⟩ ∧ b ≠ g ∧ w.cell? ⟨b, off + j, none⟩ = some u
  le : x.2.2.2.2.length ≤ x.2.2.2.1
  max : x.2.2.2.1 ≤ maxLen
  few : x.2.2.2.2.length ≤ 10000
  nil : x.2.2.1 = none → x.2.2.2.1 = 0
theorem BytesAt.below {w w' : World} {g : Nat} {x : Chg} (h : BytesAt w g x) (hb : Below w.heap.size w w') : BytesAt w' g x :=
  ⟨fun j u hj => by obtain ⟨b, off, ha, hn, hc⟩ := h.cells j u hj; exact ⟨b, off, ha, hn, by rw [hb.cell (p := ⟨b, off + j, none⟩) (cell_lt hc)]; exact hc⟩, h.le, h.max, h.few, h.nil⟩
theorem BytesAt.put {w : World} {g : Nat} {x : Chg} (h : BytesAt w g x) (i : Nat) (v : Value) : BytesAt (w.setCell ⟨g, i, none⟩ v) g x :=
  ⟨fun j u hj => by obtain ⟨b, off, ha, hn, hc⟩ := h.cells j u hj; exact ⟨b, off, ha, hn, by rw [World.cell?_setCell_other _ _ _ _ (ne_blk (Ne.symm hn))]; exact hc⟩, h.le, h.max, h.few, h.nil⟩
theorem BytesAt.at_ {w : World} {g : Nat} {x : Chg} (h : BytesAt w g x) : AtCells w x.2.2.1 (x.2.2.2.2.map (Value.int .u8)) := fun j u hj => by
  obtain ⟨b, off, ha, _, hc⟩ := h.cells j u hj
  exact ⟨b, off, ha, hc⟩
theorem BytesAt.far {w : World} {g g' : Nat} {x : Chg} (h : BytesAt w g x) (hg : w.heap.size ≤ g') : BytesAt w g' x :=
  ⟨fun j u hj => by obtain ⟨b, off, ha, hn, hc⟩ := h.cells j u hj; exact ⟨b, off, ha, by have := cell_lt hc; omega, hc⟩, h.le, h.max, h.few, h.nil⟩
theorem BytesAt.none_ {w : World} {g : Nat} {x : Chg} (h : BytesAt w g x) (ha : x.2.2.1 = none) : x.2.2.2.2.length = 0 ∧ x.2.2.2.1 = 0 := by
  refine ⟨?_, h.nil ha⟩
  rcases he : x.2.2.2.2 with _ | ⟨y, r⟩
  · rfl
  · obtain ⟨b, off, hb, _⟩ := h.cells 0 (.int .u8 y) (by rw [he]; rfl)
    rw [ha] at hb; cases hb
/-- All changes' bytes lie somewhere. -/
def Held (w : World) (g : Nat) (L : List Chg) : Prop := ∀ x ∈ L, BytesAt w g x
theorem Held.below {w w' : World} {g : Nat} {L : List Chg} (h : Held w g L) (hb : Below w.heap.size w w') : Held w' g L := fun x hx => (h x hx).below hb
theorem Held.put {w : World} {g : Nat} {L : List Chg} (h : Held w g L) (i : Nat) (v : Value) : Held (w.setCell ⟨g, i, none⟩ v) g L := fun x hx => (h x hx).put i v
theorem Held.far {w : World} {g g' : Nat} {L : List Chg} (h : Held w g L) (hg : w.heap.size ≤ g') : Held w g' L := fun x hx => (h x hx).far hg

theorem size_setC (w : World) (a : Addr) (u : Value) : (w.setCell a u).heap.size = w.heap.size := by simp [World.setCell]
theorem retC {v v' : Value} {k k' : Int} (h : v = v') (h2 : k = k') : Ending.returned (.tuple #[v, .int .i64 k]) = .returned (.tuple #[v', .int .i64 k']) := by rw [h, h2]

set_option maxHeartbeats 2000000 in
theorem psC_bad (a : Option Addr) (n cap : Nat) (L : List Chg) (w : World) (hl : L.length = n) (hn : n < 20) (hat : AtCells w a (cellsC L)) (hbad : ∃ x ∈ L, badC x) :
    Calls Try.prog 35 #[.slice a n cap] w fun e w' => e = .returned (.tuple #[.slice none 0 0, .int .i64 3]) ∧ Below w.heap.size w w' := by
  obtain ⟨m, y, hm, hy, hpre⟩ : ∃ (m : Nat) (y : Chg), L[m]? = some y ∧ badC y ∧ ∀ (j : Nat) (x : Chg), j < m → L[j]? = some x → ¬ badC x := by
    clear hl hat
    induction L with
    | nil => obtain ⟨x, hx, _⟩ := hbad; simp at hx
    | cons z L ih =>
      by_cases hz : badC z
      · exact ⟨0, z, rfl, hz, fun j x hj => by omega⟩
      · obtain ⟨x, hx, hb⟩ := hbad
        rcases List.mem_cons.1 hx with rfl | hx
        · exact absurd hb hz
        · obtain ⟨m, y, h1, h2, h3⟩ := ih ⟨x, hx, hb⟩
          refine ⟨m + 1, y, by simpa using h1, h2, fun j x hj hx => ?_⟩
          cases j with
          | zero => simp at hx; subst hx; exact hz
          | succ j => exact h3 j x (by omega) (by simpa using hx)
  have hmn : m < n := by rw [← hl]; exact (List.getElem?_eq_some_iff.1 hm).1
  have HAT := Lib.hid hat
  have HL := Lib.hid hl
  have HM := Lib.hid (And.intro hm (And.intro hy hpre))
  clear hat hl hm hy hpre hbad
  go_enter Try.func35, Try.ntmps35
  go_wp2
  go_loopw [5, 12] (fun _p i wr => ∃ k : Nat, i = .int .i64 k ∧ k ≤ m ∧ Hid (Below w.heap.size w wr)) (fun _ i _ => n - (intOf i).toNat)
  case atStart => exact ⟨0, rfl, Nat.zero_le _, Lib.hid (Below.refl _ _)⟩
  case round =>
    obtain ⟨k, rfl, hk, HB⟩ := hrel
    obtain ⟨⟨f, t, ba, bc, bs⟩, hx⟩ : ∃ x, L[k]? = some x := ⟨_, List.getElem?_eq_getElem (by rw [HL.out]; omega)⟩
    obtain ⟨b, off, rfl, c0, c1, c2⟩ := chg_cells (HAT.out.below HB.out) hx
    simp only at c0 c1 c2
    have hkn : k < n := by omega
    have hkn2 : (k : Int) < (n : Int) := by omega
    obtain ⟨bl, hbl⟩ : ∃ bl, bl = bs.length := ⟨_, rfl⟩
    rw [← hbl] at c2
    by_cases hkm : k = m
    · have hb : badC (f, t, ba, bc, bs) := by
        have h1 := HM.out.1
        rw [← hkm, hx] at h1
        have := HM.out.2.1
        rw [← Option.some.inj h1] at this
        exact this
      have hb' : f < 0 ∨ t < f := hb
      have hcs : f < 0 ∨ (¬ f < 0 ∧ t < f) := by omega
      clear hb hb' hx hbl hkm
      rcases hcs with h1 | ⟨h1, h2⟩
      all_goals
        go_wp2
        go_ret2
        exact ⟨rfl, HB.out.alloc HB.out.size _⟩
    · have hk1 : k < m := by omega
      have hb : ¬ badC (f, t, ba, bc, bs) := HM.out.2.2 k _ hk1 hx
      have hb' : ¬ (f < 0 ∨ t < f) := hb
      have h1 : ¬ f < 0 := by omega
      have h2 : ¬ t < f := by omega
      have HB2 := Lib.hid (fun o => HB.out.alloc HB.out.size o)
      clear hb hb' hx hbl
      go_wp2
      go_roundw
      case rel => exact ⟨k + 1, by go_num, by omega, Lib.hid (HB2.out _)⟩
      case measure => simp [intOf]; omega

/-- What Sorted answers where no place is wrong. -/
def SortD (w : World) (L : List Chg) (n : Nat) (e : Ending) (w' : World) : Prop :=
  ((takenC 0 (isort ltC L) = true ∧ e = .returned (.tuple #[.slice none 0 0, .int .i64 9])) ∨ (takenC 0 (isort ltC L) = false ∧ ∃ v L' g, e = .returned (.tuple #[v, .int .i64 0]) ∧ w'.ownsRow w.heap.size 39 3 v n (cellsC L') ∧ L'.map img = (isort ltC L).map img ∧ Held w' g L')) ∧ Below w.heap.size w w'

set_option maxRecDepth 20000 in
set_option maxHeartbeats 2000000 in
theorem psC_nil (cap : Nat) (w : World) :
    Calls Try.prog 35 #[.slice none 0 cap] w (SortD w [] 0) := by
  go_enter Try.func35, Try.ntmps35
  go_wp2
  refine wp_loop_rounds 1 ?_
  rw [rounds_succ]
  go_wp2_with (first
    | (go_at_call 52; (with_reducible refine (clone_none _ _ _).mono ?_); rintro e w1 ⟨rfl, rfl⟩)
    | (go_at_call 53; (with_reducible refine (sortStable_none _ _ _ _).mono ?_); rintro e w1 ⟨rfl, rfl⟩))
  refine wp_loop_rounds 1 ?_
  rw [rounds_succ]
  go_wp2
  go_ret2
  exact ⟨.inr ⟨rfl, _, [], 0, rfl, World.ownsRow_nil _ _ _ _, rfl, fun x hx => by simp at hx⟩, Below.refl _ _⟩

set_option maxRecDepth 20000 in
set_option maxHeartbeats 4000000 in
theorem psC_main (b off n cap : Nat) (L : List Chg) (w : World) (hl : L.length = n) (hn : n < 20) (hat : AtCells w (some ⟨b, off, none⟩) (cellsC L)) (hb : b < w.heap.size) (hok : ∀ x ∈ L, ¬ badC x) (hH : Held w w.heap.size L) :
    Calls Try.prog 35 #[.slice (some ⟨b, off, none⟩) n cap] w (SortD w L n) := by
  have HAT := Lib.hid hat
  have HL := Lib.hid hl
  have HOK := Lib.hid hok
  have HH := Lib.hid hH
  obtain ⟨S, hS⟩ : ∃ S, S = isort ltC L := ⟨_, rfl⟩
  have HSL := Lib.hid (show S.length = n by rw [hS, isort_length, hl])
  have HSM := Lib.hid (show ∀ x ∈ S, x ∈ L from fun x hx => by rw [hS] at hx; exact mem_isort.1 hx)
  have HCL := Lib.hid (fun (wr : World) (hbl : Below w.heap.size w wr) => clone_any b off n cap L wr hl (by omega) (fun j u hj => by
    obtain ⟨b', o', he, hc⟩ := hat j u hj
    cases he
    rw [hbl.cell (p := ⟨b, off + j, none⟩) (cell_lt hc)]; exact hc))
  have HS := Lib.hid hS
  clear hat hl hok hH hS
  go_enter Try.func35, Try.ntmps35
  go_wp2
  go_loopw [5, 12] (fun _p i wr => ∃ k : Nat, i = .int .i64 k ∧ k ≤ n ∧ Hid (Below w.heap.size w wr)) (fun _ i _ => n - (intOf i).toNat)
  case atStart => exact ⟨0, rfl, Nat.zero_le _, Lib.hid (Below.refl _ _)⟩
  case round =>
    obtain ⟨k, rfl, hk, HB⟩ := hrel
    by_cases hkn : k < n
    · obtain ⟨⟨f, t, ba, bc, bs⟩, hx⟩ : ∃ x, L[k]? = some x := ⟨_, List.getElem?_eq_getElem (by rw [HL.out]; omega)⟩
      obtain ⟨b', off', he, c0, c1, c2⟩ := chg_cells (HAT.out.below HB.out) hx
      simp only [Option.some.injEq, Addr.mk.injEq] at he
      obtain ⟨rfl, rfl, _⟩ := he
      simp only at c0 c1 c2
      have hkn2 : (k : Int) < (n : Int) := by omega
      obtain ⟨bl, hbl⟩ : ∃ bl, bl = bs.length := ⟨_, rfl⟩
      rw [← hbl] at c2
      have hb' : ¬ (f < 0 ∨ t < f) := HOK.out _ (List.mem_of_getElem? hx)
      have h1 : ¬ f < 0 := by omega
      have h2 : ¬ t < f := by omega
      have HB2 := Lib.hid (fun o => HB.out.alloc HB.out.size o)
      clear hb' hx hbl
      go_wp2
      go_roundw
      case rel => exact ⟨k + 1, by go_num, by omega, Lib.hid (HB2.out _)⟩
      case measure => simp [intOf]; omega
    · obtain rfl : k = n := by omega
      have hknf : ¬ (k : Int) < (k : Int) := by omega
      clear hkn
      go_wp2_with (go_at_call 52; (with_reducible refine (HCL.out _ HB.out).mono ?_); rintro e w1 ⟨v1, rfl, hown, hne, hb1⟩)
      have hown2 := hown.2
      rcases hown2 with ⟨hnil, _⟩ | ⟨g, gc, cur, rfl, hbase, hcur, g1, g2, g3, g4⟩
      · exact absurd hnil hne
      have hwb := Below.more HB.out hb1
      have hbase0 : w.heap.size ≤ g := Nat.le_trans HB.out.size hbase
      have HSO := Lib.hid (sortC_own w.heap.size g gc k cur L w1 HL.out (by omega) hbase0 hcur g1 g2 g3 g4)
      have HW1 := Lib.hid (And.intro hwb hbase0)
      have hglt : g < w1.heap.size := (Array.getElem?_eq_some_iff.1 hcur).1
      clear hown hne hb1 hbase hcur g1 g2 g3 g4 hwb
      go_wp2_with (go_at_call 53; (with_reducible refine HSO.out.mono ?_); rintro e w2 ⟨rfl, hown, hgr⟩; have HG := Lib.hid (HW1.out.1.grown hgr HW1.out.1.size (by intro k hk; cases hk; exact HW1.out.2)); have hz2 : w1.heap.size ≤ w2.heap.size := hgr.size; clear hgr)
      have HOWN := Lib.hid (show w2.ownsRow w.heap.size 39 3 (.slice (some ⟨g, 0, none⟩) k gc) k (cellsC S) by rw [HS.out]; exact hown)
      clear hown
      go_loopw [7, 8, 9, 36] (fun ev _i _p iv wr => ∃ (j : Nat) (e : Int) (D : List Chg), iv = .int .i64 j ∧ ev = .int .i64 e ∧ j ≤ k ∧ g < wr.heap.size ∧ Hid (D.length = j ∧ D.map img = (S.take j).map img) ∧ Hid (takenC e (S.drop j) = takenC 0 S) ∧ Hid (wr.ownsRow w.heap.size 39 3 (.slice (some ⟨g, 0, none⟩) k gc) k (cellsC (D ++ S.drop j)) ∧ Held wr g D ∧ Below w.heap.size w wr)) (fun _ _ _ iv _ => k - (intOf iv).toNat)
      case atStart => exact ⟨0, 0, [], rfl, rfl, Nat.zero_le _, by omega, Lib.hid ⟨rfl, rfl⟩, Lib.hid rfl, Lib.hid ⟨HOWN.out, fun x hx => by simp at hx, HG.out⟩⟩
      case round =>
        obtain ⟨j, e, D, rfl, rfl, hj, hgw, HD, HT, HO⟩ := hrel
        by_cases hjk : j < k
        · obtain ⟨⟨f, t, ba, bc, bs⟩, hx⟩ : ∃ x, S[j]? = some x := ⟨_, List.getElem?_eq_getElem (by rw [HSL.out]; omega)⟩
          have hdr : S.drop j = (f, t, ba, bc, bs) :: S.drop (j + 1) := by
            rw [List.drop_eq_getElem_cons (by rw [HSL.out]; exact hjk), (List.getElem?_eq_some_iff.1 hx).2]
          have hxx : (D ++ S.drop j)[j]? = some (f, t, ba, bc, bs) := by
            rw [List.getElem?_append_right (by rw [HD.out.1]; exact Nat.le_refl _), HD.out.1, Nat.sub_self, hdr]; rfl
          have c0 := (HO.out.1.cellAt (j * 3 + 0) (by omega)).trans (cellsC_at hxx 0 (by omega))
          have c1 := (HO.out.1.cellAt (j * 3 + 1) (by omega)).trans (cellsC_at hxx 1 (by omega))
          have c2 := (HO.out.1.cellAt (j * 3 + 2) (by omega)).trans (cellsC_at hxx 2 (by omega))
          have z2 := HO.out.1.frozenAt (j * 3 + 2)
          rw [Nat.add_zero] at c0
          have hBx : BytesAt w w.heap.size (f, t, ba, bc, bs) := HH.out _ (HSM.out _ (List.mem_of_getElem? hx))
          obtain ⟨bl, hbl⟩ : ∃ bl, bl = bs.length := ⟨_, rfl⟩
          simp only [encC] at c0 c1 c2
          rw [← hbl] at c2
          have HCB := Lib.hid (fun (wz : World) (hb : Below w.heap.size w wz) => cloneB_any ba bl bc bs wz hbl.symm (by have := hBx.few; simp only at this; omega) (hBx.at_.below hb))
          have HBX := Lib.hid hBx
          have HBL := Lib.hid hbl
          have HDR := Lib.hid hdr
          have HTK := HT.out
          rw [hdr, takenC] at HTK
          have hjk2 : (j : Int) < (k : Int) := by omega
          clear hx hxx hdr hBx hbl
          by_cases hfe : f < e
          · have HTT := Lib.hid (show takenC 0 (isort ltC L) = true by rw [← HS.out, ← HTK, decide_eq_true hfe]; rfl)
            clear HTK
            go_wp2
            go_ret2
            exact ⟨.inl ⟨HTT.out, rfl⟩, HO.out.2.2.alloc HO.out.2.2.size _⟩
          · rw [decide_eq_false hfe, Bool.false_or] at HTK
            have HTN := Lib.hid HTK
            clear HTK
            go_wp2_with (go_at_call 36; (with_reducible refine (HCB.out _ (HO.out.2.2.alloc HO.out.2.2.size _)).mono ?_); rintro e3 w3 ⟨v3, rfl, own3, hb3⟩; obtain ⟨a3, c3, rfl, hc3⟩ := owns_slice own3; have hc3m := owns_cap own3; have hz3 : g < w3.heap.size := (by have := hb3.size; simp at this; omega); have hb3' := Below.more (one_ok _ (.cells #[.int .i64 f, .int .i64 t, .slice ba bl bc] 39)) hb3; have d2 := (hb3'.cell (p := ⟨g, j * 3 + 2, none⟩) hgw).trans c2; have y2 := (hb3'.frozen (p := ⟨g, j * 3 + 2, none⟩) hgw).trans z2; have HN := Lib.hid (And.intro own3 (And.intro hc3 (And.intro hc3m hb3'))); clear own3 hb3 hb3' c0 c1 c2 z2)
            have own' := owns_below HO.out.1 HN.out.2.2.2
            have hset := (own'.stored (j * 3 + 2) (.slice a3 bl c3)).1
            have hD' : (cellsC (D ++ S.drop j)).set (j * 3 + 2) (.slice a3 bl c3) = cellsC ((D ++ [(f, t, a3, c3, bs)]) ++ S.drop (j + 1)) := by
              have := cellsC_set D (S.drop (j + 1)) (f, t, ba, bc, bs) a3 c3
              rw [HD.out.1] at this
              rw [HDR.out, HBL.out]
              exact this
            rw [hD'] at hset
            have hnew : BytesAt w3 g (f, t, a3, c3, bs) := ⟨fun i u hi => by
                have h3 := HN.out.1
                rcases a3 with _ | a3
                · obtain ⟨hlen, h1 | ⟨g', c', cur', hv, _⟩⟩ := h3
                  · simp at h1
                    have : bs = [] := List.length_eq_zero_iff.1 (by rw [← HBL.out]; exact h1.1.1)
                    rw [this] at hi; simp at hi
                  · simp at hv
                · obtain ⟨b', o', ha, hc⟩ := AtCells.of_owns h3 i u hi
                  refine ⟨b', o', ha, ?_, hc⟩
                  have hlt := h3.lt a3.block (by simp [Value.ownBlock])
                  have : b' = a3.block := by cases ha; rfl
                  simp at hlt
                  omega, by rw [← HBL.out]; exact HN.out.2.1, HN.out.2.2.1, HBX.out.few, fun h0 => owns_nil HN.out.1 h0⟩
            have HFIN := Lib.hid (show (w3.setCell ⟨g, j * 3 + 2, none⟩ (.slice a3 bl c3)).ownsRow w.heap.size 39 3 (.slice (some ⟨g, 0, none⟩) k gc) k (cellsC ((D ++ [(f, t, a3, c3, bs)]) ++ S.drop (j + 1))) ∧ Held (w3.setCell ⟨g, j * 3 + 2, none⟩ (.slice a3 bl c3)) g (D ++ [(f, t, a3, c3, bs)]) ∧ Below w.heap.size w (w3.setCell ⟨g, j * 3 + 2, none⟩ (.slice a3 bl c3)) from ⟨hset, fun x hx => by
              rcases List.mem_append.1 hx with hx | hx
              · exact ((HO.out.2.1 x hx).below HN.out.2.2.2).put _ _
              · simp at hx; subst hx; exact hnew.put _ _, (Below.more HO.out.2.2 HN.out.2.2.2).setCell (p := ⟨g, j * 3 + 2, none⟩) HW1.out.2 _⟩)
            have HD2 := Lib.hid (show (D ++ [(f, t, a3, c3, bs)]).length = j + 1 ∧ (D ++ [(f, t, a3, c3, bs)]).map img = (S.take (j + 1)).map img by
              refine ⟨by rw [List.length_append, HD.out.1]; rfl, ?_⟩
              have hS1 : S.take (j + 1) = S.take j ++ [(f, t, ba, bc, bs)] := by
                have h0 := HDR.out
                have hlt : j < S.length := by rw [HSL.out]; exact hjk
                rw [List.drop_eq_getElem_cons hlt] at h0
                rw [List.take_succ_eq_append_getElem hlt, (List.cons.inj h0).1]
              rw [hS1, List.map_append, List.map_append, HD.out.2]
              rfl)
            clear own' hset hD' hnew
            go_wp2
            go_roundw
            case rel => exact ⟨j + 1, t, D ++ [(f, t, a3, c3, bs)], by go_num, rfl, by omega, by rw [size_setC]; exact hz3, HD2, HTN, HFIN⟩
            case measure => simp [intOf]; omega
        · obtain rfl : j = k := by omega
          have hnil : S.drop j = [] := List.drop_eq_nil_of_le (by rw [HSL.out]; exact Nat.le_refl _)
          have HTT := Lib.hid (show takenC 0 (isort ltC L) = false by rw [← HS.out, ← HT.out, hnil]; rfl)
          have HF := HO.out
          have HDD := HD.out
          rw [hnil, List.append_nil] at HF
          rw [List.take_of_length_le (by rw [HSL.out]; exact Nat.le_refl _), HS.out] at HDD
          have HFF := Lib.hid (And.intro HF HDD)
          clear hjk hnil HF HDD
          go_wp2
          go_ret2
          exact ⟨.inr ⟨HTT.out, _, D, g, rfl, HFF.out.1.1, HFF.out.2.2, HFF.out.1.2.1⟩, HFF.out.1.2.2⟩

end Go.Proofs.Ytbljgoieieoamaa
