/-
  ScanItems: for every list of bytes it returns true, if Valid answers whether no piece is Bad.
-/
import Derived.Test.YthbaknillijeoaaDoorScanH
import Derived.Deep.RegionHeld3
import Derived.Deep.RegionWith
import Derived.Deep.QuietTactic
import Derived.BigQuiet
namespace Go.Proofs.YthbaknillijeoaaDoor
open Go.RowKit

theorem trip_cell (w : World) (a0 a1 a2 : Value) (e : TypeId) : ∀ j x, [a0, a1, a2][j]? = some x → (w.alloc (.cells #[a0, a1, a2] e)).cell? ⟨w.heap.size, j, none⟩ = some x := fun j x hj => by
  have h := new_cells w [a0, a1, a2] e j x hj
  by_cases h0 : j = 0
  · subst h0; simpa [Addr.add] using h
  · simpa [Addr.add, h0] using h

theorem all_take (L : List (Int × Int × Int)) {k : Nat} {x : Int × Int × Int} (h : L[k]? = some x) : (L.take (k + 1)).all isGood = ((L.take k).all isGood && isGood x) := by
  have hk : k < L.length := by
    by_cases hk : k < L.length
    · exact hk
    · rw [List.getElem?_eq_none (by omega)] at h; simp at h
  rw [List.take_succ_eq_append_getElem hk]
  have : L[k] = x := by rw [List.getElem?_eq_getElem hk] at h; simpa using h
  rw [this]; simp

set_option maxHeartbeats 4000000 in
theorem scanItems_core (a : Option Addr) (n cap : Nat) (zs : List Int) (w : World) (hn : zs.length = n) (hc : n ≤ cap) (hm : cap ≤ maxLen) (hb : Bys zs) (hat : AtCells w a (zs.map (.int .u8)))
    (hV : ∀ m, m = min n 200 → ∀ w', Below w.heap.size w w' → Calls Tryd.prog 9 #[.slice a m cap] w' fun e w2 => e = .returned (.bool ((itemsOf (strOfNums (zs.take m))).all isGood)) ∧ Below w'.heap.size w' w2) :
    Calls Tryd.prog 3 #[.slice a n cap] w fun e w' => e = .returned (.bool true) ∧ Below w.heap.size w w' := by
  obtain ⟨m, hmm⟩ : ∃ m, m = min n 200 := ⟨_, rfl⟩
  have hm200 : m ≤ 200 := by omega
  have hat' := hat.take m
  rw [← List.map_take] at hat'
  have hn' : (zs.take m).length = m := by simp; omega
  have hb' := hb.take m
  have HV := hV m hmm
  generalize zs.take m = ys at hat' hn' hb' HV
  have HF := Lib.hid (short_any a n cap w hc hm)
  rw [← hmm] at HF
  have hsz : (strOfNums ys).size = m := by rw [strOfNums_size]; exact hn'
  have hll := itemsOf_length (strOfNums ys)
  rw [hsz] at hll
  have hmc : m ≤ cap := by omega
  have hI1 := items_any a m cap ys w hn' (by omega) hat'
  have hI2 : ∀ w', Below w.heap.size w w' → Calls Tryd.prog 8 #[.slice a m cap] w' (OwnRefItems w' (itemsOf (strOfNums ys))) := fun w' hw => refItems_any a m cap ys w' hn' hmc hm (by omega) hb' (hat'.below hw)
  generalize itemsOf (strOfNums ys) = L at hll hI1 hI2 HV
  have HI1 := Lib.hid hI1
  have HI2 := Lib.hid hI2
  have HVV := Lib.hid HV
  obtain ⟨q, hq⟩ : ∃ q, q = L.length := ⟨_, rfl⟩
  have HQ := Lib.hid hq
  rw [← hq] at hll
  clear hat' hn' hb' hat hn hmm hm hc hsz hq hI1 hI2 HV hV hb
  go_enter Tryd.func3, Tryd.ntmps3
  go_wp2_with (first
    | (go_at_call 6; refine HF.out.mono ?_; rintro e w' ⟨rfl, rfl⟩)
    | (go_at_call 7; refine HI1.out.mono ?_; rintro e w1 ⟨v1, rfl, hown1, hb1⟩; rw [← HQ.out] at hown1; obtain ⟨a1, c1, rfl, hc1⟩ := owns_slice hown1; have HO1 := Lib.hid hown1; clear hown1)
    | (go_at_call 8; refine (HI2.out _ hb1).mono ?_; rintro e w2 ⟨v2, rfl, hown2, hb2⟩; rw [← HQ.out] at hown2; obtain ⟨a2, c2, rfl, hc2⟩ := owns_slice hown2; have HO2 := Lib.hid hown2; clear hown2))
  have HA1 := Lib.hid (AtCells.of_owns (owns_below HO1.out hb2))
  have HA2 := Lib.hid (AtCells.of_owns HO2.out)
  have HBB := Lib.hid (hb1.trans (hb2.mono hb1.size))
  clear hb1 hb2 HO1 HO2
  go_loopw [5, 21] (fun s i wr => ∃ k : Nat, k ≤ q ∧ i = .int .i64 k ∧ s = .bool ((L.take k).all isGood) ∧ Below w2.heap.size w2 wr) (fun _ i _ => q - (intOf i).toNat)
  case atStart => exact ⟨0, Nat.zero_le _, rfl, by simp, Below.refl _ _⟩
  case round =>
    obtain ⟨k, hk, rfl, rfl, hbl⟩ := hrel
    by_cases hlt : k < q
    · obtain ⟨x, hx⟩ : ∃ x, L[k]? = some x := ⟨_, List.getElem?_eq_getElem (by rw [← HQ.out]; exact hlt)⟩
      have hat1 := all_take L hx
      obtain ⟨b2, off2, rfl, c0, c1', c2'⟩ := item_cells (HA2.out.below hbl) hx
      obtain ⟨b1, off1, rfl, _⟩ := item_cells (HA1.out.below hbl) hx
      obtain ⟨r, o, nn⟩ := x
      obtain ⟨wd, hwd⟩ : ∃ wd, wd = wr.alloc (.cells #[.int .i32 r, .int .i64 o, .int .i64 nn] 29) := ⟨_, rfl⟩
      have hB1 : Below w2.heap.size w2 wd := by rw [hwd]; exact hbl.alloc hbl.size _
      have f0 : wd.cell? ⟨wr.heap.size, 0, none⟩ = some (.int .i32 r) := by rw [hwd]; exact trip_cell wr _ _ _ 29 0 _ rfl
      have f1 : wd.cell? ⟨wr.heap.size, 1, none⟩ = some (.int .i64 o) := by rw [hwd]; exact trip_cell wr _ _ _ 29 1 _ rfl
      have f2 : wd.cell? ⟨wr.heap.size, 2, none⟩ = some (.int .i64 nn) := by rw [hwd]; exact trip_cell wr _ _ _ 29 2 _ rfl
      obtain ⟨_, _, he, d0, d1, d2⟩ := item_cells (HA1.out.below hB1) hx
      simp only [Option.some.injEq, Addr.mk.injEq] at he
      obtain ⟨rfl, rfl, _⟩ := he
      simp only at c0 c1' c2' d0 d1 d2
      have HWD := Lib.hid hwd
      have HB1 := Lib.hid hB1
      have hg : isGood (r, o, nn) = (r != -1) := rfl
      rw [hg] at hat1
      obtain ⟨g, hgg⟩ : ∃ g, g = (L.take k).all isGood := ⟨_, rfl⟩
      rw [← hgg] at hat1 ⊢
      have HT := Lib.hid hat1
      have hsz1 := hbl.size
      clear hwd hB1 hgg hat1 hg hx
      cases g with
      | false =>
        go_wp2
        rw [← HWD.out]
        go_quiet (fail)
        go_wp2
        go_roundw
        case rel => exact ⟨k + 1, by omega, by go_num, by rw [HT.out]; rfl, below_drewN HB1.out _⟩
        case measure => simp [intOf]; omega
      | true =>
        by_cases hr : r = -1
        · subst hr
          go_wp2
          rw [← HWD.out]
          go_quiet (fail)
          go_wp2
          go_roundw
          case rel => exact ⟨k + 1, by omega, by go_num, by rw [HT.out]; rfl, below_drewN HB1.out _⟩
          case measure => simp [intOf]; omega
        · have hr1 : (r == -1) = false := by simp [hr]
          have hr2 : (r != -1) = true := by simp [hr]
          have HR := Lib.hid hr2
          clear hr
          go_wp2
          rw [← HWD.out]
          go_quiet (fail)
          go_wp2
          go_roundw
          case rel => exact ⟨k + 1, by omega, by go_num, by rw [HT.out, HR.out]; rfl, below_drewN HB1.out _⟩
          case measure => simp [intOf]; omega
    · obtain rfl : k = q := by omega
      have HT := Lib.hid (show L.take k = L from List.take_of_length_le (by have := HQ.out; omega))
      rw [HT.out]
      obtain ⟨V, hV⟩ : ∃ V, V = L.all isGood := ⟨_, rfl⟩
      rw [← hV] at HVV ⊢
      have HB2 := Lib.hid (HBB.out.trans (hbl.mono HBB.out.size))
      clear hk hlt hV
      cases V
      all_goals
        go_wp2_with (first
          | (go_at_call 9; refine (HVV.out _ HB2.out).mono ?_; rintro e w3 ⟨rfl, hb3⟩; have HB3 := Lib.hid (HB2.out.trans (hb3.mono HB2.out.size)); clear hb3)
          | (go_at_call 10; refine (awake_any _).mono ?_; rintro e w4 ⟨rfl, hb4⟩))
        go_ret
        exact ⟨rfl, HB3.out.trans (hb4.mono HB3.out.size)⟩

end Go.Proofs.YthbaknillijeoaaDoor
