/-
  Contracts of layer 3: has, Slice, String, At of a text.
-/
import Derived.Test.YtmibajofbagphaaDoorSnF
namespace Go.Proofs.YtmibajofbagphaaDoor
open Go.RowKit

/-! Where the runes of a decoded text begin. -/
theorem offs_atOff (zs : List Int) (k : Nat) (hk : k ≤ (runesOf zs).length) : (offsOf zs).getD k 0 = (kindOf zs).2 + atOff (piecesOf (kindOf zs).1 (zs.drop (kindOf zs).2.toNat)) ((zs.length : Int) - (kindOf zs).2) k := by
  unfold offsOf
  have hl : (runesOf zs).length = (piecesOf (kindOf zs).1 (zs.drop (kindOf zs).2.toNat)).length := by unfold runesOf; simp
  rw [hl] at hk
  generalize piecesOf (kindOf zs).1 (zs.drop (kindOf zs).2.toNat) = L at hk ⊢
  by_cases h : k < L.length
  · rw [List.getD_eq_getElem?_getD, List.getElem?_append_left (by simpa using h), List.getElem?_map, List.getElem?_eq_getElem h, atOff_some (List.getElem?_eq_getElem h)]
    rfl
  · obtain rfl : k = L.length := by omega
    rw [atOff_end, List.getD_eq_getElem?_getD, List.getElem?_append_right (by simp)]
    simp
    omega

/-- The places of a text: they rise, from behind the mark to the end. -/
structure Rises (os : List Int) (q n : Nat) (bom : Int) : Prop where
  len : os.length = q + 1
  first : os.getD 0 0 = bom
  last : os.getD q 0 = (n : Int)
  step : ∀ k, k < q → os.getD k 0 ≤ os.getD (k + 1) 0
  bom0 : 0 ≤ bom
  bomn : bom ≤ n

theorem offs_rises (zs : List Int) : Rises (offsOf zs) (runesOf zs).length zs.length (kindOf zs).2 := by
  obtain ⟨hk, h0, h3, hn⟩ := kindOf_cases zs
  have hsp := pieces_spec hk (zs.drop (kindOf zs).2.toNat)
  have hlen : ((zs.drop (kindOf zs).2.toNat).length : Int) = (zs.length : Int) - (kindOf zs).2 := by rw [List.length_drop]; omega
  rw [hlen] at hsp
  have hl : (runesOf zs).length = (piecesOf (kindOf zs).1 (zs.drop (kindOf zs).2.toNat)).length := by unfold runesOf; simp
  refine ⟨by unfold offsOf runesOf; simp, ?_, ?_, fun k hk' => ?_, h0, hn⟩
  · rw [offs_atOff zs 0 (Nat.zero_le _), hsp.2.1]; omega
  · rw [offs_atOff zs _ (Nat.le_refl _), hl, atOff_end]; omega
  · rw [offs_atOff zs k (by omega), offs_atOff zs (k + 1) (by omega)]
    obtain ⟨⟨g1, _, _⟩, g2, g3⟩ := hsp.2.2 k _ (List.getElem?_eq_getElem (by omega))
    rw [g2, g3]; omega

theorem Rises.mono {os : List Int} {q n : Nat} {bom : Int} (h : Rises os q n bom) : ∀ (j i : Nat), i ≤ j → j ≤ q → os.getD i 0 ≤ os.getD j 0 := by
  intro j
  induction j with
  | zero =>
    intro i hi _
    obtain rfl : i = 0 := by omega
    exact Int.le_refl _
  | succ j ih =>
    intro i hi hj
    by_cases he : i = j + 1
    · subst he; exact Int.le_refl _
    · exact Int.le_trans (ih i (by omega) (by omega)) (h.step j (by omega))
theorem Rises.bd {os : List Int} {q n : Nat} {bom : Int} (h : Rises os q n bom) (k : Nat) (hk : k ≤ q) : 0 ≤ os.getD k 0 ∧ bom ≤ os.getD k 0 ∧ os.getD k 0 ≤ n := by
  have h1 := h.mono k 0 (Nat.zero_le _) hk
  have h2 := h.mono q k hk (Nat.le_refl _)
  rw [h.first] at h1
  rw [h.last] at h2
  have := h.bom0
  omega
theorem Rises.sorted {os : List Int} {q n : Nat} {bom : Int} (h : Rises os q n bom) : (os.take q).Pairwise (· ≤ ·) := by
  rw [List.pairwise_iff_getElem]
  intro i j hi hj hij
  have hl := h.len
  simp at hi hj
  have := h.mono j i (by omega) (by omega)
  simpa [show i < os.length by omega, show j < os.length by omega] using this

/-- How many begin ahead of a place, where they rise. -/
theorem count_rises {os : List Int} {q n : Nat} {bom x : Int} (h : Rises os q n bom) {k : Nat} (hk : k ≤ q) (h1 : ∀ j, j < k → os.getD j 0 < x) (h2 : k < q → x ≤ os.getD k 0) : (os.take q).countP (· < x) = k := by
  have hl := h.len
  have e : os.take q = os.take k ++ (os.take q).drop k := by
    conv => lhs; rw [← List.take_append_drop k (os.take q)]
    rw [List.take_take, Nat.min_eq_left hk]
  rw [e, List.countP_append]
  have e1 : (os.take k).countP (· < x) = k := by
    have hlk : (os.take k).length = k := by simp; omega
    conv => rhs; rw [← hlk]
    rw [List.countP_eq_length]
    intro z hz
    obtain ⟨j, hj, rfl⟩ := List.getElem_of_mem hz
    have hj' : j < k := by omega
    have := h1 j hj'
    simpa [show j < os.length by omega] using this
  have e2 : ((os.take q).drop k).countP (· < x) = 0 := by
    rw [List.countP_eq_zero]
    intro z hz
    obtain ⟨j, hj, rfl⟩ := List.getElem_of_mem hz
    simp at hj
    have hm := h.mono (k + j) k (by omega) (by omega)
    have h3 := h2 (by omega)
    simp [show k + j < os.length by omega] at hm h3 ⊢
    simp [show k < os.length by omega] at hm h3
    omega
  rw [e1, e2]; rfl

/-! has -/
set_option maxRecDepth 100000 in
set_option maxHeartbeats 1000000 in
theorem has_yes (kd bom : Int) (r o : Value) (ar : Option Addr) (q cr : Nat) (f t : Int) (w : World) (hr : r = .slice ar q cr) (h0 : 0 ≤ f) (h1 : f ≤ t) (h2 : t ≤ q) (ho : ∃ ao no co, o = .slice ao no co) :
    Calls Tryd.prog 37 #[.agg #[.int .i64 kd, .int .i64 bom, r, o], .int .i64 f, .int .i64 t] w fun e w' => e = .returned (.bool true) ∧ Below w.heap.size w w' := by
  subst hr
  obtain ⟨ao, no, co, rfl⟩ := ho
  go_enter Tryd.func37, Tryd.ntmps37
  go_wp2
  go_ret
  exact ⟨by first | rfl | (simp; done) | (simp; omega), (Below.refl _ _).alloc (Nat.le_refl _) _⟩

set_option maxRecDepth 100000 in
set_option maxHeartbeats 1000000 in
theorem has_no (kd bom : Int) (r o : Value) (ar : Option Addr) (q cr : Nat) (f t : Int) (w : World) (hr : r = .slice ar q cr) (h : f < 0 ∨ t < f ∨ (q : Int) < t) (ho : ∃ ao no co, o = .slice ao no co) :
    Calls Tryd.prog 37 #[.agg #[.int .i64 kd, .int .i64 bom, r, o], .int .i64 f, .int .i64 t] w fun e w' => e = .returned (.bool false) ∧ Below w.heap.size w w' := by
  subst hr
  obtain ⟨ao, no, co, rfl⟩ := ho
  by_cases h0 : 0 ≤ f
  · by_cases h1 : f ≤ t
    · have h2 : (q : Int) < t := by omega
      clear h
      go_enter Tryd.func37, Tryd.ntmps37
      go_wp2
      go_ret
      exact ⟨by first | rfl | (simp; done) | (simp; omega), (Below.refl _ _).alloc (Nat.le_refl _) _⟩
    · have h2 : t < f := by omega
      clear h h1
      go_enter Tryd.func37, Tryd.ntmps37
      go_wp2
      go_ret
      exact ⟨by first | rfl | (simp; done) | (simp; omega), (Below.refl _ _).alloc (Nat.le_refl _) _⟩
  · have h2 : f < 0 := by omega
    clear h h0
    go_enter Tryd.func37, Tryd.ntmps37
    go_wp2
    go_ret
    exact ⟨by first | rfl | (simp; done) | (simp; omega), (Below.refl _ _).alloc (Nat.le_refl _) _⟩

/-! Slice -/
/-- Bytes that were just answered, behind an address. -/
def OwnAt (w : World) (xs : List Int) (e : Ending) (w' : World) : Prop :=
  ∃ g c, e = .returned (.slice (some ⟨g, 0, none⟩) xs.length c) ∧ w'.ownsRow w.heap.size 5 1 (.slice (some ⟨g, 0, none⟩) xs.length c) xs.length (xs.map (Value.int .u8)) ∧ Below w.heap.size w w'

theorem clone_at (b off n c : Nat) (xs : List Int) (w : World) (hx : xs.length = n) (hbig : n ≤ 1099511627776) (hat : AtCells w (some ⟨b, off, none⟩) (xs.map (Value.int .u8))) :
    Calls Tryd.prog 38 #[.slice (some ⟨b, off, none⟩) n c] w (OwnAt w xs) := by
  refine (Tryd.bytes_Clone_at ⟨b, off, none⟩ n c xs w hx (by omega) (fun i hi => ?_)).mono ?_
  · obtain ⟨b', off', he, hc⟩ := hat.int (k := i) (by omega)
    simp only [Option.some.injEq, Addr.mk.injEq] at he
    obtain ⟨rfl, rfl, _⟩ := he
    by_cases h0 : i = 0
    · subst h0; simpa [Addr.add] using hc
    · simpa [Addr.add, h0] using hc
  · rintro e w' ⟨v, rfl, hown, hne, hb⟩
    subst hx
    have hown' := hown
    obtain ⟨_, ⟨rfl, _⟩ | ⟨g, c', cur, rfl, _⟩⟩ := hown
    · exact absurd rfl hne
    · exact ⟨g, c', rfl, hown', hb⟩

set_option maxRecDepth 100000 in
set_option maxHeartbeats 2000000 in
theorem slice_yes (kd bom : Int) (vr : Value) (ar ao : Option Addr) (q cr co : Nat) (os : List Int) (b off n cap : Nat) (zs : List Int) (f t : Nat) (w : World)
    (hvr : vr = .slice ar q cr) (hqb : q ≤ 1099511627776) (hR : Rises os q n bom) (hf : f ≤ t) (ht : t ≤ q) (hn : zs.length = n) (hc : n ≤ cap) (hm : cap ≤ maxLen) (hbig : n ≤ 1099511627776)
    (ho : AtCells w ao (os.map (Value.int .i64))) (hat : AtCells w (some ⟨b, off, none⟩) (zs.map (Value.int .u8))) :
    Calls Tryd.prog 22 #[.agg #[.int .i64 kd, .int .i64 bom, vr, .slice ao (q + 1) co], .slice (some ⟨b, off, none⟩) n cap, .int .i64 (f : Int), .int .i64 (t : Int)] w
      (OwnAt w ((zs.drop (os.getD f 0).toNat).take ((os.getD t 0).toNat - (os.getD f 0).toNat))) := by
  have hl := hR.len
  obtain ⟨B, O, rfl, _⟩ := ho.int (k := 0) (by omega)
  have hcell : ∀ k, k ≤ q → ∀ wx, Below w.heap.size w wx → wx.cell? ⟨B, O + k, none⟩ = some (.int .i64 (os.getD k 0)) := fun k hk wx hx => by
    obtain ⟨_, _, he, hcc⟩ := (ho.below hx).int (k := k) (by omega)
    simp only [Option.some.injEq, Addr.mk.injEq] at he
    obtain ⟨rfl, rfl, _⟩ := he
    exact hcc
  obtain ⟨x, hx⟩ : ∃ x : Nat, os.getD f 0 = (x : Int) := ⟨(os.getD f 0).toNat, by have := hR.bd f (by omega); omega⟩
  obtain ⟨y, hy⟩ : ∃ y : Nat, os.getD t 0 = (y : Int) := ⟨(os.getD t 0).toNat, by have := hR.bd t (by omega); omega⟩
  have hxy : x ≤ y := by have := hR.mono t f hf ht; omega
  have hyn : y ≤ n := by have := hR.bd t ht; omega
  have hz := hR.last
  rw [hx, hy, Int.toNat_natCast, Int.toNat_natCast]
  have HC := Lib.hid (show ∀ wx, Below w.heap.size w wx → wx.cell? ⟨B, O + q, none⟩ = some (.int .i64 (n : Int)) ∧ wx.cell? ⟨B, O + f, none⟩ = some (.int .i64 (x : Int)) ∧ wx.cell? ⟨B, O + t, none⟩ = some (.int .i64 (y : Int)) from fun wx hw =>
    ⟨hz ▸ hcell q (Nat.le_refl _) wx hw, hx ▸ hcell f (by omega) wx hw, hy ▸ hcell t ht wx hw⟩)
  have HAT := Lib.hid hat
  have HCL := Lib.hid (show ∀ wx a', Below w.heap.size w wx → (x < cap → a' = some ⟨b, off + x, none⟩) → (x < cap ∨ a' = some ⟨b, off, none⟩) → Calls Tryd.prog 38 #[.slice a' (y - x) (cap - x)] wx (OwnAt wx ((zs.drop x).take (y - x))) from fun wx a' hw h1 h2 => by
    have hln : ((zs.drop x).take (y - x)).length = y - x := by simp; omega
    by_cases hxc : x < cap
    · rw [h1 hxc]
      refine clone_at b (off + x) (y - x) (cap - x) _ wx hln (by omega) ?_
      rw [List.map_take, List.map_drop]
      exact ((HAT.out.below hw).drop x).take _
    · rcases h2 with h2 | h2
      · exact absurd h2 hxc
      · rw [h2]
        refine clone_at b off (y - x) (cap - x) _ wx hln (by omega) ?_
        rw [show (zs.drop x).take (y - x) = [] from List.eq_nil_of_length_eq_zero (by omega)]
        exact AtCells.nil _ _)
  obtain ⟨xs, hxs⟩ : ∃ xs, xs = (zs.drop x).take (y - x) := ⟨_, rfl⟩
  rw [← hxs] at HCL ⊢
  clear hxs
  have HHAS := Lib.hid (fun wx => has_yes kd bom vr (.slice (some ⟨B, O, none⟩) (q + 1) co) ar q cr f t wx hvr (by omega) (by omega) (by omega) ⟨_, _, _, rfl⟩)
  subst hvr
  have hq1 : (q : Int) < (q : Int) + 1 := by omega
  have hfq : (f : Int) < (q : Int) + 1 := by omega
  have htq : (t : Int) < (q : Int) + 1 := by omega
  have hfq' : f < q + 1 := by omega
  have htq' : t < q + 1 := by omega
  have hqq' : q < q + 1 := by omega
  unfold maxLen at hm
  clear hcell hx hy hz hat hn hR hl ho
  have hb0 : Below w.heap.size w (w.alloc (.cells #[.int .i64 kd, .int .i64 bom, .slice ar q cr, .slice (some ⟨B, O, none⟩) (q + 1) co] 27)) := (Below.refl _ _).alloc (Nat.le_refl _) _
  go_enter Tryd.func22, Tryd.ntmps22
  go_wp2_with fail
  refine (HHAS.out _).mono ?_
  rintro e w1 ⟨rfl, hb1⟩
  have HB1 := Lib.hid (hb0.trans (hb1.mono (by simp)))
  have p2 := (hb1.cell (p := ⟨w.heap.size, 2, none⟩) (by simp)).trans (show _ = some (.slice ar q cr) by simp)
  have p3 := (hb1.cell (p := ⟨w.heap.size, 3, none⟩) (by simp)).trans (show _ = some (.slice (some ⟨B, O, none⟩) (q + 1) co) by simp)
  obtain ⟨c0, c1, c2⟩ := HC.out w1 HB1.out
  clear hb1
  go_wp2_with fail
  go_quiet (fail)
  have HBQ := Lib.hid (bdr HB1.out nq)
  have hfin : ∀ (xs : List Int) (e : Ending) (w' : World), OwnAt (w1.drewN nq) xs e w' → OwnAt w xs e w' := by
    rintro xs e w' ⟨g, c, rfl, hown, hb⟩
    exact ⟨g, c, rfl, hown.mono HBQ.out.size, HBQ.out.trans (hb.mono HBQ.out.size)⟩
  have HFIN := Lib.hid hfin
  clear hfin p2 p3 c0 c1 c2
  by_cases hcx : cap = x
  · obtain rfl : y = x := by omega
    obtain rfl : n = y := by omega
    have HCL0 := Lib.hid (show ∀ wx, Below w.heap.size w wx → Calls Tryd.prog 38 #[.slice (some ⟨b, off, none⟩) 0 0] wx (OwnAt wx xs) from fun wx hw => by
      have := HCL.out wx (some ⟨b, off, none⟩) hw (fun h => absurd h (by omega)) (.inr rfl)
      rw [Nat.sub_self, show cap - n = 0 by omega] at this
      exact this)
    subst hcx
    clear HCL
    go_wp2_with fail
    refine (HCL0.out _ HBQ.out).mono ?_
    intro e w2 h2
    have H2 := Lib.hid (HFIN.out _ _ _ h2)
    obtain ⟨g, c, rfl, _, _⟩ := h2
    go_wp2
    go_ret
    exact H2.out
  · have HCL1 := Lib.hid (show ∀ wx, Below w.heap.size w wx → Calls Tryd.prog 38 #[.slice (some ⟨b, off + x, none⟩) (y - x) (cap - x)] wx (OwnAt wx xs) from fun wx hw =>
      HCL.out wx _ hw (fun _ => rfl) (.inl (by omega)))
    clear HCL
    go_wp2_with fail
    refine (HCL1.out _ HBQ.out).mono ?_
    intro e w2 h2
    have H2 := Lib.hid (HFIN.out _ _ _ h2)
    obtain ⟨g, c, rfl, _, _⟩ := h2
    go_wp2
    go_ret
    exact H2.out

set_option maxRecDepth 100000 in
set_option maxHeartbeats 1000000 in
theorem slice_no (kd bom : Int) (vr : Value) (ar ao : Option Addr) (q cr no co : Nat) (vb : Value) (f t : Int) (w : World) (hvr : vr = .slice ar q cr) (hb : ∃ ab nb cb, vb = .slice ab nb cb) (h : f < 0 ∨ t < f ∨ (q : Int) < t) :
    Calls Tryd.prog 22 #[.agg #[.int .i64 kd, .int .i64 bom, vr, .slice ao no co], vb, .int .i64 f, .int .i64 t] w
      fun e w' => e = .returned (.slice none 0 0) ∧ Below w.heap.size w w' := by
  have HHAS := Lib.hid (fun wx => has_no kd bom vr (.slice ao no co) ar q cr f t wx hvr h ⟨_, _, _, rfl⟩)
  subst hvr
  obtain ⟨ab, nb, cb, rfl⟩ := hb
  have hb0 : Below w.heap.size w (w.alloc (.cells #[.int .i64 kd, .int .i64 bom, .slice ar q cr, .slice ao no co] 27)) := (Below.refl _ _).alloc (Nat.le_refl _) _
  clear h
  go_enter Tryd.func22, Tryd.ntmps22
  go_wp2_with fail
  refine (HHAS.out _).mono ?_
  rintro e w1 ⟨rfl, hb1⟩
  have HB1 := Lib.hid (hb0.trans (hb1.mono (by simp)))
  clear hb1
  go_wp2
  go_ret
  exact ⟨rfl, HB1.out⟩

end Go.Proofs.YtmibajofbagphaaDoor
