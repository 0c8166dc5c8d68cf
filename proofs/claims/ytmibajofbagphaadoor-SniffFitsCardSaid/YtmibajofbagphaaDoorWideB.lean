/-
  Contract: Items of layer 2.
-/
import Derived.Test.YtmibajofbagphaaDoorWideA
namespace Go.Proofs.YtmibajofbagphaaDoor
open Go.RowKit

/-- The loop's step: what is owned grows by a piece. -/
theorem items_step {e : TypeId} {w wr wi w2 : World} {v v' : Value} {acc : List (Int × Int × Int)} {x : Int × Int × Int} {o : Obj}
    (hown : w2.ownsRow w.heap.size e 3 v' (acc.length + 1) (itemsCells acc ++ itemCells x)) (h0 : wi.ownsRow w.heap.size e 3 v acc.length (itemsCells acc))
    (hg : (wi.alloc o).grownBy w2 v.ownBlock) (hbl : Below w.heap.size w wr) (hwi : Below wr.heap.size wr wi) :
    w2.ownsRow w.heap.size e 3 v' (acc ++ [x]).length (itemsCells (acc ++ [x])) ∧ Below w.heap.size w w2 := by
  rw [itemsCells_snoc, List.length_append]
  have h1 : Below w.heap.size w wi := hbl.trans (hwi.mono hbl.size)
  exact ⟨hown, below_grown_alloc h1 h1.size hg (fun g hg => (h0.lt g hg).1)⟩

set_option maxHeartbeats 2000000 in
theorem witems_any (big : Bool) (a : Option Addr) (n cap : Nat) (zs : List Int) (w : World) (hn : zs.length = n) (hc : n ≤ cap) (hbig : n ≤ 1099511627776) (hat : AtCells w a (zs.map (.int .u8))) (hby : U16.Byte zs) :
    Calls Tryd.prog 42 #[.slice a n cap, .bool big] w (OwnItems w (U16.items zs big n)) := by
  obtain ⟨i0, hi, hz0, hz1, hz2⟩ := info_parts Tryd.infoItem
  have HI := Lib.hid (And.intro hi (And.intro hz0 (And.intro hz1 hz2)))
  have hb : i0.bytes * ((n + 1) / 2) ≤ 281474976710656 := by rw [hz2]; omega
  have hb2 : (n + 1) / 2 ≤ maxLen := by unfold maxLen; omega
  have HB := Lib.hid (And.intro hb hb2)
  have HY := Lib.hid (And.intro hat (And.intro hby hn))
  obtain ⟨rv, hrv⟩ : ∃ rv, rv = rd big := ⟨_, rfl⟩
  have HR := Lib.hid hrv
  have HRC := Lib.hid (reader_any big w)
  rw [← hrv] at HRC
  clear hi hz0 hz1 hz2 hb hb2 hat hby hn hrv
  go_enter Tryd.func42, Tryd.ntmps42
  go_wp2_with (first
    | (go_at_call 59; refine HRC.out.mono ?_; rintro e w' ⟨rfl, rfl⟩)
    | (at_make; refine wpList_make_own _ rfl _ _ 46 rfl w.heap.size 52 i0 _ 3 Tryd.underlying46 HI.out.1 HI.out.2.1 HI.out.2.2.1 .i64 .i64 _ ((n + 1) / 2) rfl rfl (by omega) HB.out.1 HB.out.2 (Nat.le_refl _) ?_; intro w1 hown1 hgrow1))
  have hb1 : Below w.heap.size w w1 := (Below.refl _ _).grown hgrow1 (Nat.le_refl _) (fun k hk => by cases hk)
  clear hgrow1
  go_loopw [6, 7] (fun v o wr => ∃ (pos fuel : Nat) (acc : List (Int × Int × Int)), o = .int .i64 pos ∧ pos ≤ n ∧ wr.ownsRow w.heap.size 52 3 v acc.length (itemsCells acc) ∧ Below w.heap.size w wr ∧ acc ++ U16.itemsFrom zs big n fuel pos = U16.items zs big n ∧ n ≤ pos + fuel ∧ acc.length ≤ pos)
    (fun _ o _ => n - (intOf o).toNat)
  case atStart => exact ⟨0, n, [], rfl, Nat.zero_le _, hown1, hb1, rfl, by omega, by simp⟩
  case round =>
    obtain ⟨pos, fuel, acc, rfl, hpn, hown, hbl, hacc, hfu, hal⟩ := hrel
    by_cases hp : pos < n
    · obtain ⟨b, off, rfl, _⟩ := HY.out.1.int (k := pos) (by rw [HY.out.2.2]; exact hp)
      obtain ⟨hk1, hk4, hkn⟩ := U16.piece_n zs big n pos hp
      have HF := Lib.hid (show ∀ wx, Below w.heap.size w wx → Calls Tryd.prog 60 #[.slice (some ⟨b, off + pos, none⟩) (n - pos) (cap - pos), rv] wx (PieceIs wx (U16.piece zs big n pos)) from fun wx hx => by
        have h := first_any big (some ⟨b, off + pos, none⟩) (n - pos) (cap - pos) (zs.drop pos) wx (by omega) (by omega) (by rw [List.map_drop]; exact (HY.out.1.below hx).drop pos) (by rw [List.length_drop, HY.out.2.2]) (HY.out.2.1.drop pos)
        rw [U16.piece_drop _ _ _ _ hpn, ← HR.out] at h
        exact h)
      have HACC := Lib.hid hacc
      have HIT := Lib.hid (show U16.itemAt zs big n pos = ((U16.piece zs big n pos).1, (pos : Int), (U16.piece zs big n pos).2) from rfl)
      generalize hx : U16.itemAt zs big n pos = x at HIT
      generalize hpc : U16.piece zs big n pos = pc at *
      obtain ⟨r, k⟩ := pc
      simp only at hk1 hk4 hkn HIT
      have HX := Lib.hid (And.intro hx hpc)
      have h63 : acc.length + 1 ≤ maxLen := by unfold maxLen; omega
      have h47 : (acc.length + 1) * 24 ≤ 140737488355328 := by omega
      have HM := Lib.hid (And.intro h63 h47)
      have hsz := hbl.size
      have HOWN := Lib.hid (fun kk => owns_drewN hown kk)
      have HB5 := Lib.hid (show ∀ kk o, w.heap.size ≤ ((wr.drewN kk).alloc o).heap.size from fun kk o => by simp; omega)
      clear hacc hx hpc h63 h47 hown
      go_wp2_with (first
        | (go_at_call 60; refine (HF.out _ hbl).mono ?_; rintro e w' ⟨rfl, kk, rfl⟩)
        | (at_builtin; refine wpList_append_own _ rfl _ _ 46 rfl w.heap.size 52 i0 _ 3 24 Tryd.underlying46 HI.out.1 HI.out.2.1 HI.out.2.2.1 HI.out.2.2.2 rfl (by decide) _ _ _ rfl ((HOWN.out _).alloc _) _ _ _ (itemCells (r, (pos : Int), k)) rfl rfl (new_cells _ _ _) (itemCells_one _) HM.out.1 HM.out.2 (HB5.out _ _) ?_; intro v' w2 hown' hg' _))
      rw [← HIT.out] at hown'
      have hst := Lib.hid (items_step hown' (HOWN.out _) hg' hbl (below_drewN (Below.refl _ _) _))
      clear hg' hown'
      go_roundw
      case rel =>
        refine ⟨pos + k.toNat, fuel - 1, acc ++ [x], by rw [show ((pos + k.toNat : Nat) : Int) = (pos : Int) + k by omega], by omega, hst.out.1, hst.out.2, ?_, by omega, by simp; omega⟩
        rw [← HACC.out, U16.itemsFrom_step zs big n fuel pos hp hfu, HX.out.1, HX.out.2]
        simp
      case measure => simp [intOf]; omega
    · obtain rfl : pos = n := by omega
      have HACC := Lib.hid hacc
      clear hacc hp
      go_wp2
      go_ret
      have hacc := HACC.out
      rw [U16.itemsFrom_end zs big pos fuel pos (by omega), List.append_nil] at hacc
      subst hacc
      exact ⟨_, rfl, hown, hbl⟩

end Go.Proofs.YtmibajofbagphaaDoor
