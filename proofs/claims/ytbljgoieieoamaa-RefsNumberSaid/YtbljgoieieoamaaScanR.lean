/-
  Contract: the reference's Bytes of layer 1.
-/
import Derived.Test.YtbljgoieieoamaaScanA
namespace Go.Proofs.Ytbljgoieieoamaa
open Go.RowKit

theorem rune_cells (w : World) (z : Int) : ∀ j u, ((U8.enc z).map (Value.int .u8))[j]? = some u → (w.alloc (runeBlock z)).cell? ((⟨w.heap.size, 0, none⟩ : Addr).add j) = some u := by
  intro j u hj
  have := AtCells.of_owns (World.ownsRow_lit (base := w.heap.size) (e := 5) (size := 1) w ((U8.enc z).map (Value.int .u8)).toArray (U8.enc z).length (Nat.le_refl _) (by have := U8.enc_length z; have := U8.width_bd z; unfold maxLen; omega) (by simp)) j u (by simpa using hj)
  obtain ⟨b, off, hb, hc⟩ := this
  simp only [Option.some.injEq, Addr.mk.injEq] at hb
  obtain ⟨rfl, rfl, _⟩ := hb
  by_cases h0 : j = 0
  · subst h0; simpa [Addr.add, runeBlock] using hc
  · simpa [Addr.add, h0, runeBlock] using hc

theorem refBytes_step {w wr w' : World} {v v' : Value} {zs : List Int} {k : Nat} {z : Int} (hz : z = zs.getD k 0) (hts : zs.take (k + 1) = zs.take k ++ [zs.getD k 0])
    (hown' : w'.ownsRow w.heap.size 5 1 v' ((U8.encs (zs.take k)).length + (U8.enc z).length) ((U8.encs (zs.take k)).map (Value.int .u8) ++ (U8.enc z).map (Value.int .u8)))
    (hown : wr.ownsRow w.heap.size 5 1 v (U8.encs (zs.take k)).length ((U8.encs (zs.take k)).map (Value.int .u8)))
    (hg : (wr.alloc (runeBlock z)).grownBy w' v.ownBlock) (hbl : Below w.heap.size w wr) :
    w'.ownsRow w.heap.size 5 1 v' (U8.encs (zs.take (k + 1))).length ((U8.encs (zs.take (k + 1))).map (Value.int .u8)) ∧ Below w.heap.size w w' := by
  rw [hts, ← hz, U8.encs_snoc, List.map_append, List.length_append]
  exact ⟨hown', below_grown_alloc hbl hbl.size hg (fun g hg => (hown.lt g hg).1)⟩

set_option maxHeartbeats 1000000 in
theorem refBytes_any (a : Option Addr) (n cap : Nat) (zs : List Int) (w : World) (hn : zs.length = n) (hbig : n ≤ 1099511627776) (hat : AtCells w a (zs.map (.int .i32))) :
    Calls Try.prog 41 #[.slice a n cap] w (OwnBytes w (U8.encs zs)) := by
  obtain ⟨i0, hi, hz0, hz1, hz2⟩ := info_parts Try.infoU8
  have HN := Lib.hid hn
  have HAT := Lib.hid hat
  have HI := Lib.hid (And.intro hi (And.intro hz0 (And.intro hz1 hz2)))
  clear hn hat hi hz0 hz1 hz2
  go_enter Try.func41, Try.ntmps41
  go_wp2
  go_loopw [3, 8] (fun v i wr => ∃ k : Nat, k ≤ n ∧ i = .int .i64 k ∧ wr.ownsRow w.heap.size 5 1 v (U8.encs (zs.take k)).length ((U8.encs (zs.take k)).map (Value.int .u8)) ∧ Below w.heap.size w wr)
    (fun _ i _ => n - (intOf i).toNat)
  case atStart => exact ⟨0, Nat.zero_le _, rfl, World.ownsRow_nil _ _ _ _, Below.refl _ _⟩
  case round =>
    obtain ⟨k, hk, rfl, hown, hbl⟩ := hrel
    by_cases hlt : k < n
    · obtain ⟨b, off, rfl, hc⟩ := (HAT.out.below hbl).int (k := k) (by rw [HN.out]; exact hlt)
      obtain ⟨z, hz⟩ : ∃ z, z = zs.getD k 0 := ⟨_, rfl⟩
      rw [← hz] at hc
      have HZZ := Lib.hid hz
      have HTS := Lib.hid (U8.take_succ zs k (by rw [HN.out]; exact hlt))
      have hsz := hbl.size
      have hln : (U8.encs (zs.take k)).length + 4 ≤ 140737488355328 := by
        have h1 := U8.encs_length_le (zs.take k); have h2 := HN.out; simp only [List.length_take] at h1; omega
      have hl63 : (U8.encs (zs.take k)).length + (U8.enc z).length ≤ maxLen := by
        have := U8.enc_length z; have := U8.width_bd z; unfold maxLen; omega
      have hl47 : ((U8.encs (zs.take k)).length + (U8.enc z).length) * 1 ≤ 140737488355328 := by
        have := U8.enc_length z; have := U8.width_bd z; omega
      have HLN := Lib.hid (And.intro hl63 hl47)
      have HSZ := Lib.hid (show w.heap.size ≤ (wr.alloc (runeBlock z)).heap.size by simp; omega)
      clear hz hln hl63 hl47
      by_cases hw : 0 < U8.width z
      · go_wp2_with (first
          | (go_at_call 68; refine (refRune_some _ _ hw).mono ?_; rintro e w' ⟨rfl, rfl⟩)
          | (at_builtin; refine wpList_append_own _ rfl _ _ 22 rfl w.heap.size 5 i0 (.int .u8 0) 1 1 Try.underlying22 HI.out.1 HI.out.2.1 HI.out.2.2.1 HI.out.2.2.2 rfl (by decide) _ _ _ rfl (hown.alloc _) _ _ _ ((U8.enc z).map (Value.int .u8)) rfl (by simp) (rune_cells _ _) (ints_oneCell _ _) HLN.out.1 HLN.out.2 HSZ.out ?_; intro v' w' hown' hg' _))
        have HO := Lib.hid (refBytes_step HZZ.out HTS.out hown' hown hg' hbl)
        clear hown' hg' hown hc
        go_roundw
        case rel => exact ⟨k + 1, by omega, by go_num, HO.out.1, HO.out.2⟩
        case measure => simp [intOf]; omega
      · have hw' : U8.width z = 0 := by have := U8.width_bd z; omega
        have HW := Lib.hid hw'
        clear hw hw'
        go_wp2_with (first
          | (go_at_call 68; refine (refRune_none _ _ HW.out).mono ?_; rintro e w' ⟨rfl, rfl⟩)
          | (at_builtin; refine wpList_append_own_none rfl _ _ 22 rfl w.heap.size 5 i0 1 Try.underlying22 HI.out.1 _ _ _ rfl hown rfl ?_))
        have HO := Lib.hid (bytes_step_same (U8.enc_zero HW.out) HZZ.out HTS.out hown)
        clear hown hc
        go_roundw
        case rel => exact ⟨k + 1, by omega, by go_num, HO.out, hbl⟩
        case measure => simp [intOf]; omega
    · obtain rfl : k = n := by omega
      have HT := Lib.hid (show zs.take k = zs from List.take_of_length_le (by have := HN.out; omega))
      clear hk hlt
      go_wp2
      go_ret
      rw [HT.out] at hown
      exact ⟨_, rfl, hown, hbl⟩

end Go.Proofs.Ytbljgoieieoamaa
