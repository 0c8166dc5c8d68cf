/-
  For SniffSlices: the runes of a text are runes; Slice of any bytes.
-/
import Derived.Test.YtmibajofbagphaaDoorSnH
import Derived.Test.YtmibajofbagphaaDoorSniffEncodes
namespace Go.Proofs.YtmibajofbagphaaDoor
open Go.RowKit

theorem piece_rune {zs : List Int} (hb : U16.Byte zs) (big : Bool) (n i : Nat) : -2147483648 ≤ (U16.piece zs big n i).1 ∧ (U16.piece zs big n i).1 ≤ 2147483647 := by
  have h1 : 0 ≤ U16.unitAt zs big i ∧ U16.unitAt zs big i ≤ 65535 := U16.unit_bd (hb.at i) (hb.at (i + 1))
  have h2 : 0 ≤ U16.unitAt zs big (i + 2) ∧ U16.unitAt zs big (i + 2) ≤ 65535 := U16.unit_bd (hb.at (i + 2)) (hb.at (i + 2 + 1))
  unfold U16.piece
  repeat' split
  all_goals simp only
  all_goals omega

theorem wfrom_runes {zs : List Int} (hb : U16.Byte zs) (big : Bool) (n : Nat) : ∀ fuel pos x, x ∈ U16.itemsFrom zs big n fuel pos → -2147483648 ≤ x.1 ∧ x.1 ≤ 2147483647 := by
  intro fuel
  induction fuel with
  | zero => intro pos x h; simp [U16.itemsFrom] at h
  | succ f ih =>
    intro pos x h
    unfold U16.itemsFrom at h
    split at h
    · rcases List.mem_cons.1 h with rfl | h
      · exact piece_rune hb big n pos
      · exact ih _ _ h
    · simp at h

theorem items_runes (s : ByteArray) {x : Int × Int × Int} (h : x ∈ itemsOf s) : -2147483648 ≤ x.1 ∧ x.1 ≤ 2147483647 := by
  obtain ⟨k, hk, hx⟩ := List.getElem_of_mem h
  have hg := ((itemsOf_spec s).2 k x (by rw [List.getElem?_eq_getElem hk, hx])).1
  by_cases hr : x.1 = -1
  · rw [hr]; omega
  · have hwd := hg.wide hr
    have h1 := hg.one
    have := U8.width_range (r := x.1) (by omega)
    omega

theorem runes_runes (zs : List Int) (hb : Bys zs) : Runes (runesOf zs) := by
  obtain ⟨hk, _⟩ := kindOf_cases zs
  have hB : U16.Byte (zs.drop (kindOf zs).2.toNat) := fun z hz => by have := hb z (List.mem_of_mem_drop hz); omega
  unfold runesOf
  intro z hz
  obtain ⟨x, hx, rfl⟩ := List.mem_map.1 hz
  rcases hk with h | h | h <;> rw [h] at hx
  · exact items_runes _ hx
  · exact wfrom_runes hB true _ _ _ x hx
  · exact wfrom_runes hB false _ _ _ x hx

/-! Slice -/
/-- Bytes that were just answered. -/
def SomeBytes (w : World) (xs : List Int) (e : Ending) (w' : World) : Prop :=
  ∃ g c, e = .returned (.slice g xs.length c) ∧ AtCells w' g (xs.map (Value.int .u8)) ∧ Below w.heap.size w w'

theorem clone_any (a : Option Addr) (n c : Nat) (xs : List Int) (w : World) (hx : xs.length = n) (hbig : n ≤ 1099511627776) (hat : AtCells w a (xs.map (Value.int .u8))) :
    Calls Tryd.prog 38 #[.slice a n c] w (SomeBytes w xs) := by
  by_cases h0 : n = 0
  · subst h0
    obtain rfl : xs = [] := List.eq_nil_of_length_eq_zero hx
    cases a with
    | none => refine (Tryd.bytes_Clone_nil 0 c w).mono ?_; rintro e w' ⟨rfl, rfl⟩; exact ⟨none, 0, rfl, AtCells.nil _ _, Below.refl _ _⟩
    | some ad =>
      refine (Tryd.bytes_Clone_at ad 0 c [] w rfl (by omega) (fun i hi => absurd hi (by omega))).mono ?_
      rintro e w' ⟨v, rfl, hown, _, hb⟩
      obtain ⟨g, c', rfl, _⟩ := owns_slice hown
      exact ⟨g, c', rfl, AtCells.nil _ _, hb⟩
  · obtain ⟨b, off, rfl, _⟩ := hat.int (k := 0) (by omega)
    refine (clone_at b off n c xs w hx hbig hat).mono ?_
    rintro e w' ⟨g, c', rfl, hown, hb⟩
    exact ⟨_, c', rfl, AtCells.of_owns hown, hb⟩

set_option maxRecDepth 100000 in
set_option maxHeartbeats 2000000 in
theorem slice_any (kd bom : Int) (vr : Value) (ar ao a : Option Addr) (q cr co : Nat) (os : List Int) (n cap : Nat) (zs : List Int) (f t : Nat) (w : World)
    (hvr : vr = .slice ar q cr) (hqb : q ≤ 1099511627776) (hR : Rises os q n bom) (hf : f ≤ t) (ht : t ≤ q) (hn : zs.length = n) (hc : n ≤ cap) (hm : cap ≤ maxLen) (hbig : n ≤ 1099511627776)
    (ho : AtCells w ao (os.map (Value.int .i64))) (hat : AtCells w a (zs.map (Value.int .u8))) :
    Calls Tryd.prog 22 #[.agg #[.int .i64 kd, .int .i64 bom, vr, .slice ao (q + 1) co], .slice a n cap, .int .i64 (f : Int), .int .i64 (t : Int)] w
      (SomeBytes w ((zs.drop (os.getD f 0).toNat).take ((os.getD t 0).toNat - (os.getD f 0).toNat))) := by
  have hl := hR.len
  obtain ⟨B, O, rfl, _⟩ := ho.int (k := 0) (by omega)
  have hcell : ∀ k, k ≤ q → ∀ wx, Below w.heap.size w wx → wx.cell? ⟨B, O + k, none⟩ = some (.int .i64 (os.getD k 0)) := fun k hk wx hx => by
    obtain ⟨_, _, he, hcc⟩ := (ho.below hx).int (k := k) (by omega)
    simp only [Option.some.injEq, Addr.mk.injEq] at he
    obtain ⟨rfl, rfl, _⟩ := he
    exact hcc
  obtain ⟨x, hx⟩ : ∃ x : Nat, os.getD f 0 = (x : Int) := ⟨(os.getD f 0).toNat, by have := hR.bd f (by omega); omega⟩
  obtain ⟨y, hy⟩ : ∃ y : Nat, os.getD t 0 = (y : Int) := ⟨(os.getD t 0).toNat, by have := hR.bd t (by omega); omega⟩
  have hxy : x ≤ y := by have := hR.mono t f hf ht; omega
  have hyn : y ≤ n := by have := hR.bd t ht; omega
  have hz := hR.last
  rw [hx, hy, Int.toNat_natCast, Int.toNat_natCast]
  have HC := Lib.hid (show ∀ wx, Below w.heap.size w wx → wx.cell? ⟨B, O + q, none⟩ = some (.int .i64 (n : Int)) ∧ wx.cell? ⟨B, O + f, none⟩ = some (.int .i64 (x : Int)) ∧ wx.cell? ⟨B, O + t, none⟩ = some (.int .i64 (y : Int)) from fun wx hw =>
    ⟨hz ▸ hcell q (Nat.le_refl _) wx hw, hx ▸ hcell f (by omega) wx hw, hy ▸ hcell t ht wx hw⟩)
  have HCL := Lib.hid (show ∀ wx a', Below w.heap.size w wx → a' = (if cap = x then a else Option.map (fun z => z.add x) a) → Calls Tryd.prog 38 #[.slice a' (y - x) (cap - x)] wx (SomeBytes wx ((zs.drop x).take (y - x))) from fun wx a' hw h1 => by
    subst h1
    refine clone_any _ (y - x) (cap - x) _ wx (by simp; omega) (by omega) ?_
    rw [List.map_take]
    exact (at_sliced (kd := .u8) (hat.below hw) x cap (by omega)).take _)
  obtain ⟨xs, hxs⟩ : ∃ xs, xs = (zs.drop x).take (y - x) := ⟨_, rfl⟩
  rw [← hxs] at HCL ⊢
  clear hxs
  have HHAS := Lib.hid (fun wx => has_yes kd bom vr (.slice (some ⟨B, O, none⟩) (q + 1) co) ar q cr f t wx hvr (by omega) (by omega) (by omega) ⟨_, _, _, rfl⟩)
  subst hvr
  have hq1 : (q : Int) < (q : Int) + 1 := by omega
  have hfq : (f : Int) < (q : Int) + 1 := by omega
  have htq : (t : Int) < (q : Int) + 1 := by omega
  have hfq' : f < q + 1 := by omega
  have htq' : t < q + 1 := by omega
  have hqq' : q < q + 1 := by omega
  unfold maxLen at hm
  clear hcell hx hy hz hat hn hR hl ho
  have hb0 : Below w.heap.size w (w.alloc (.cells #[.int .i64 kd, .int .i64 bom, .slice ar q cr, .slice (some ⟨B, O, none⟩) (q + 1) co] 27)) := (Below.refl _ _).alloc (Nat.le_refl _) _
  go_enter Tryd.func22, Tryd.ntmps22
  go_wp2_with fail
  refine (HHAS.out _).mono ?_
  rintro e w1 ⟨rfl, hb1⟩
  have HB1 := Lib.hid (hb0.trans (hb1.mono (by simp)))
  have p2 := (hb1.cell (p := ⟨w.heap.size, 2, none⟩) (by simp)).trans (show _ = some (.slice ar q cr) by simp)
  have p3 := (hb1.cell (p := ⟨w.heap.size, 3, none⟩) (by simp)).trans (show _ = some (.slice (some ⟨B, O, none⟩) (q + 1) co) by simp)
  obtain ⟨c0, c1, c2⟩ := HC.out w1 HB1.out
  clear hb1
  go_wp2_with fail
  go_quiet (fail)
  have HBQ := Lib.hid (bdr HB1.out nq)
  have hfin : ∀ (xs : List Int) (e : Ending) (w' : World), SomeBytes (w1.drewN nq) xs e w' → SomeBytes w xs e w' := by
    rintro xs e w' ⟨g, c, rfl, hown, hb⟩
    exact ⟨g, c, rfl, hown, HBQ.out.trans (hb.mono HBQ.out.size)⟩
  have HFIN := Lib.hid hfin
  clear hfin p2 p3 c0 c1 c2
  by_cases hcx : cap = x
  · obtain rfl : y = x := by omega
    obtain rfl : n = y := by omega
    have HCL0 := Lib.hid (show ∀ wx, Below w.heap.size w wx → Calls Tryd.prog 38 #[.slice a 0 0] wx (SomeBytes wx xs) from fun wx hw => by
      have := HCL.out wx a hw (by rw [if_pos hcx])
      rw [Nat.sub_self, show cap - n = 0 by omega] at this
      exact this)
    subst hcx
    clear HCL
    go_wp2_with fail
    refine (HCL0.out _ HBQ.out).mono ?_
    intro e w2 h2
    have H2 := Lib.hid (HFIN.out _ _ _ h2)
    obtain ⟨g, c, rfl, _, _⟩ := h2
    go_wp2
    go_ret
    exact H2.out
  · have HCL1 := Lib.hid (show ∀ wx, Below w.heap.size w wx → Calls Tryd.prog 38 #[.slice (Option.map (fun z => z.add x) a) (y - x) (cap - x)] wx (SomeBytes wx xs) from fun wx hw =>
      HCL.out wx _ hw (by rw [if_neg hcx]))
    clear HCL
    go_wp2_with fail
    refine (HCL1.out _ HBQ.out).mono ?_
    intro e w2 h2
    have H2 := Lib.hid (HFIN.out _ _ _ h2)
    obtain ⟨g, c, rfl, _, _⟩ := h2
    go_wp2
    go_ret
    exact H2.out

theorem someBytes_str {w0 w w' : World} {xs : List Int} {e : Ending} (hw : Below w0.heap.size w0 w) (h : SomeBytes w xs e w') : OwnStr w0 w (strOfNums xs) e w' := by
  obtain ⟨g, c, rfl, hat, hb⟩ := h
  exact ⟨g, _, c, rfl, fun wx hx => run_str wx _ _ _ Tryd.underlying22 Tryd.underlying5 Tryd.underlying9 g _ c _ rfl (hat.below hx), hw.trans (hb.mono hw.size), hb⟩

end Go.Proofs.YtmibajofbagphaaDoor
