/-
  ScanWhole: for every list of bytes it returns true.
-/
import Derived.Test.YthbaknillijeoaaScanD
import Derived.Deep.RegionHeld3
import Derived.Deep.RegionWith
import Derived.Deep.QuietTactic
import Derived.BigQuiet
namespace Go.Proofs.Ythbaknillijeoaa
open Go.RowKit

/-- The cells of a row of pieces, where piece k is x. -/
theorem item_cells {w : World} {a : Option Addr} {l : List (Int × Int × Int)} (hat : AtCells w a (itemsCells l)) {k : Nat} {x : Int × Int × Int} (h : l[k]? = some x) :
    ∃ b off, a = some ⟨b, off, none⟩ ∧ w.cell? ⟨b, off + k * 3, none⟩ = some (.int .i32 x.1) ∧ w.cell? ⟨b, off + k * 3 + 1, none⟩ = some (.int .i64 x.2.1) ∧ w.cell? ⟨b, off + k * 3 + 2, none⟩ = some (.int .i64 x.2.2) := by
  obtain ⟨h0, h1, h2⟩ := itemsCells_at h
  obtain ⟨b, off, rfl, c0⟩ := hat _ _ h0
  obtain ⟨b1, off1, e1, c1⟩ := hat _ _ h1
  obtain ⟨b2, off2, e2, c2⟩ := hat _ _ h2
  simp only [Option.some.injEq, Addr.mk.injEq] at e1 e2
  obtain ⟨rfl, rfl, _⟩ := e1
  obtain ⟨rfl, rfl, _⟩ := e2
  exact ⟨b, off, rfl, c0, by rw [Nat.add_assoc]; exact c1, by rw [Nat.add_assoc]; exact c2⟩

theorem width_same (r : Int) (w : World) : Calls Try.prog 10 #[.int .i32 r] w fun e w' => e = .returned (.int .i64 (U8.width r)) ∧ w' = w :=
  (width_any r w).mono fun _ _ ⟨h1, h2⟩ => ⟨h1, h2.symm⟩

set_option maxHeartbeats 2000000 in
theorem scanWhole_walk (a : Option Addr) (n cap : Nat) (zs : List Int) (w : World) (hn : zs.length = n) (hc : n ≤ cap) (hm : cap ≤ maxLen) (hat : AtCells w a (zs.map (.int .u8))) :
    Calls Try.prog 4 #[.slice a n cap] w fun e w' => e = .returned (.bool true) ∧ Below w.heap.size w w' := by
  obtain ⟨m, hmm⟩ : ∃ m, m = min n 200 := ⟨_, rfl⟩
  have hm200 : m ≤ 200 := by omega
  have hat' := hat.take m
  rw [← List.map_take] at hat'
  have hn' : (zs.take m).length = m := by simp; omega
  generalize zs.take m = ys at hat' hn'
  have HY := Lib.hid (And.intro hat' hn')
  have HF := Lib.hid (short_any a n cap w hc hm)
  rw [← hmm] at HF
  have hsz : (strOfNums ys).size = m := by rw [strOfNums_size]; exact hn'
  have hll := itemsOf_length (strOfNums ys)
  have hsp := itemsOf_spec (strOfNums ys)
  rw [hsz] at hll hsp
  generalize hL : itemsOf (strOfNums ys) = L at hll hsp
  have HI := Lib.hid (show Calls Try.prog 16 #[.slice a m cap] w (OwnItems w L) from hL ▸ items_any a m cap ys w hn' (by omega) hat')
  have HS := Lib.hid hsp
  obtain ⟨q, hq⟩ : ∃ q, q = L.length := ⟨_, rfl⟩
  have HQ := Lib.hid hq
  rw [← hq] at hll
  clear hat' hn' hat hn hmm hm hc hsz hL hsp hq
  go_enter Try.func4, Try.ntmps4
  go_wp2_with (first
    | (go_at_call 15; refine HF.out.mono ?_; rintro e w' ⟨rfl, rfl⟩)
    | (go_at_call 16; refine HI.out.mono ?_; rintro e w1 ⟨v, rfl, hown, hb1⟩; rw [← HQ.out] at hown; obtain ⟨ai, ci, rfl, hci⟩ := owns_slice hown; have HOWN := Lib.hid hown; clear hown hci))
  have HA := Lib.hid (AtCells.of_owns HOWN.out)
  go_loopw [3, 11] (fun s i wr => ∃ k : Nat, k ≤ q ∧ i = .int .i64 k ∧ s = .int .i64 (atOff L m k) ∧ Below w1.heap.size w1 wr) (fun _ i _ => q - (intOf i).toNat)
  case atStart => exact ⟨0, Nat.zero_le _, rfl, by rw [HS.out.1], Below.refl _ _⟩
  case round =>
    obtain ⟨k, hk, rfl, rfl, hbl⟩ := hrel
    by_cases hlt : k < q
    · obtain ⟨x, hx⟩ : ∃ x, L[k]? = some x := ⟨_, List.getElem?_eq_getElem (by rw [← HQ.out]; exact hlt)⟩
      obtain ⟨b, off, rfl, c0, c1, c2⟩ := item_cells (HA.out.below hbl) hx
      obtain ⟨g, e0, e1⟩ := HS.out.2 k x hx
      obtain ⟨r, o, nn⟩ := x
      have HG := Lib.hid g
      have HE := Lib.hid (And.intro e0 e1)
      clear g e0 e1 hx
      rw [HE.out.1]
      simp only at c0 c1 c2 HG HE ⊢
      have ho0 : 0 ≤ o := HG.out.off
      have ho1 : o + nn ≤ m := HG.out.fits
      have hsz1 := hbl.size
      have HB2 := Lib.hid (hbl.alloc hsz1 (.cells #[.int .i32 r, .int .i64 o, .int .i64 nn] 34))
      by_cases hr : r = -1
      · subst hr
        obtain rfl : nn = 1 := HG.out.bad rfl
        go_wp2_with fail
        go_quiet (fail)
        go_wp2
        go_roundw
        case rel => exact ⟨k + 1, by omega, by go_num, by rw [HE.out.2], below_drewN HB2.out _⟩
        case measure => simp [intOf]; omega
      · obtain rfl : U8.width r = nn := HG.out.wide hr
        have hw1 : 1 ≤ U8.width r := HG.out.one
        have hw4 : U8.width r ≤ 4 := HG.out.four
        have hb1 : (r == -1) = false := by simp [hr]
        have hb2 : (r != -1) = true := by simp [hr]
        have HR := Lib.hid hr
        clear hr
        go_wp2_with fail
        go_quiet ((go_at_call 10; exact Calls.quiet_of_same (width_same _ _)))
        go_wp2
        go_roundw
        case rel => exact ⟨k + 1, by omega, by go_num, by rw [HE.out.2], below_drewN HB2.out _⟩
        case measure => simp [intOf]; omega
    · obtain rfl : k = q := by omega
      have HT := Lib.hid (show atOff L m k = m by rw [HQ.out]; exact atOff_end L m)
      rw [HT.out]
      clear hk hlt
      go_wp2_with (go_at_call 14; refine (awake_any _).mono ?_; rintro e w3 ⟨rfl, hb3⟩)
      go_ret
      exact ⟨rfl, (hb1.trans (hbl.mono hb1.size)).trans (hb3.mono (Nat.le_trans hb1.size hbl.size))⟩

end Go.Proofs.Ythbaknillijeoaa
