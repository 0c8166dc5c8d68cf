/-
  Contracts of layer 3: width, Offsets.
-/
import Derived.Test.YtmibajofbagphaaDoorSnE
import Derived.Deep.DeepCutAuto
import Derived.Deep.QuietTactic
import Derived.BigQuiet
import Derived.RegionTactic
import Derived.Deep.RegionWith
import Derived.IntWalk
namespace Go.Proofs.YtmibajofbagphaaDoor
open Go.RowKit

/-- How many bytes a rune has among those of a kind. -/
def widthOf (kd r : Int) : Int := if kd = 0 then U8.width r else if kd = 1 then U16.width r else if kd = 2 then U16.width r else 0

/-- Where rune i begins: how many bytes those ahead have. -/
def offAt (kd : Int) (zs : List Int) (i : Nat) : Int := ((encsOf kd (zs.take i)).length : Int)

theorem encsOf_snoc (kd : Int) (l : List Int) (r : Int) : ((encsOf kd (l ++ [r])).length : Int) = ((encsOf kd l).length : Int) + widthOf kd r := by
  unfold encsOf widthOf
  split
  · rw [U8.encs_snoc, List.length_append, Int.natCast_add, U8.enc_length]
  · split
    · rw [U16.encs_snoc, List.length_append, Int.natCast_add, U16.enc_length]
    · split
      · rw [U16.encs_snoc, List.length_append, Int.natCast_add, U16.enc_length]
      · simp

theorem offAt_zero (kd : Int) (zs : List Int) : offAt kd zs 0 = 0 := by
  unfold offAt encsOf
  rw [List.take_zero]
  repeat' split
  all_goals rfl
theorem offAt_succ (kd : Int) (zs : List Int) (k : Nat) (h : k < zs.length) : offAt kd zs (k + 1) = offAt kd zs k + widthOf kd (zs.getD k 0) := by
  unfold offAt
  rw [U8.take_succ zs k h, encsOf_snoc]
theorem widthOf_bd (kd r : Int) : 0 ≤ widthOf kd r ∧ widthOf kd r ≤ 4 := by
  have h1 := U8.width_bd r
  have h2 := U16.width_cases r
  unfold widthOf
  repeat' split
  all_goals omega
theorem offAt_bd (kd : Int) (zs : List Int) (k : Nat) : 0 ≤ offAt kd zs k ∧ offAt kd zs k ≤ 4 * (k : Int) := by
  unfold offAt encsOf
  have hl : (zs.take k).length ≤ k := List.length_take_le _ _
  have h1 := U8.encs_length_le (zs.take k)
  have h2 := U16.encs_length_le true (zs.take k)
  have h3 := U16.encs_length_le false (zs.take k)
  repeat' split
  all_goals first | omega | (simp; omega)

set_option maxHeartbeats 400000 in
theorem swidth_any (kd r : Int) (w : World) :
    Calls Tryd.prog 45 #[.int .i64 kd, .int .i32 r] w fun e w' => e = .returned (.int .i64 (widthOf kd r)) ∧ w = w' := by
  by_cases h0 : kd = 0
  · subst h0
    go_enter Tryd.func45, Tryd.ntmps45
    go_wp2_with (go_at_call 47; refine (width_any _ _).mono ?_; rintro e w' ⟨rfl, rfl⟩)
    go_ret
    exact ⟨rfl, rfl⟩
  · by_cases h1 : kd = 1
    · subst h1
      go_enter Tryd.func45, Tryd.ntmps45
      go_wp2_with (go_at_call 50; refine (wwidth_any _ _).mono ?_; rintro e w' ⟨rfl, rfl⟩)
      go_ret
      exact ⟨rfl, rfl⟩
    · by_cases h2 : kd = 2
      · subst h2
        go_enter Tryd.func45, Tryd.ntmps45
        go_wp2_with (go_at_call 50; refine (wwidth_any _ _).mono ?_; rintro e w' ⟨rfl, rfl⟩)
        go_ret
        exact ⟨rfl, rfl⟩
      · have HW := Lib.hid (show widthOf kd r = 0 by unfold widthOf; rw [if_neg h0, if_neg h1, if_neg h2])
        have e0 : (kd == 0) = false := by simp [h0]
        have e1 : (kd == 1) = false := by simp [h1]
        have e2 : (kd == 2) = false := by simp [h2]
        clear h0 h1 h2
        go_enter Tryd.func45, Tryd.ntmps45
        go_wp2
        go_ret
        exact ⟨by rw [HW.out]; rfl, rfl⟩

/-- All offsets of runes. -/
def allOffs (kd : Int) (zs : List Int) : List Int := (List.range (zs.length + 1)).map (offAt kd zs)
theorem allOffs_length (kd : Int) (zs : List Int) : (allOffs kd zs).length = zs.length + 1 := by simp [allOffs]
theorem allOffs_at (kd : Int) (zs : List Int) (k : Nat) (h : k < zs.length + 1) : (allOffs kd zs).getD k 0 = offAt kd zs k := by
  unfold allOffs
  simp [h]

theorem upTo_one (kd : Int) (zs : List Int) : upTo (allOffs kd zs) (zs.length + 1) 1 = List.replicate (zs.length + 1) 0 := by
  unfold upTo
  have h : (allOffs kd zs).take 1 = [0] := by
    unfold allOffs
    rw [List.range_succ_eq_map, List.map_cons, List.take_succ_cons, List.take_zero, offAt_zero]
  rw [h, show zs.length + 1 - 1 = zs.length by omega]
  rfl
theorem upTo_at (l : List Int) (n k j : Nat) (hj : j < k) (hk : k ≤ l.length) : (upTo l n k).getD j 0 = l.getD j 0 := by
  unfold upTo
  have h1 : j < (l.take k).length := by simp; omega
  rw [List.getD_eq_getElem?_getD, List.getElem?_append_left h1, List.getElem?_take, if_pos hj]
  rfl

theorem map_get (l : List Int) (k : Nat) (h : k < l.length) : (l.map (Value.int .i64))[k]? = some (.int .i64 (l.getD k 0)) := by simp [h]

def OwnInts (w : World) (xs : List Int) (e : Ending) (w' : World) : Prop :=
  ∃ v, e = .returned v ∧ w'.ownsRow w.heap.size 3 1 v xs.length (xs.map (Value.int .i64)) ∧ Below w.heap.size w w'

set_option maxRecDepth 100000 in
set_option maxHeartbeats 2000000 in
theorem offsets_any (kd : Int) (a : Option Addr) (n cap : Nat) (zs : List Int) (w : World) (hn : zs.length = n) (hbig : n ≤ 1099511627776) (hat : AtCells w a (zs.map (.int .i32))) :
    Calls Tryd.prog 29 #[.int .i64 kd, .slice a n cap] w (OwnInts w (allOffs kd zs)) := by
  obtain ⟨i1, hi', hz0', hz1', hz2'⟩ := info_parts Tryd.infoInt
  have HJ := Lib.hid (And.intro hi' (And.intro hz0' (And.intro hz1' hz2')))
  have HM := Lib.hid (show i1.bytes * (n + 1) ≤ 281474976710656 ∧ n + 1 ≤ maxLen by rw [hz2']; unfold maxLen; omega)
  have HN := Lib.hid hn
  have HAT := Lib.hid hat
  have HAL := Lib.hid (allOffs_length kd zs)
  clear hi' hz0' hz1' hz2' hat hn
  go_enter Tryd.func29, Tryd.ntmps29
  go_wp2_with (at_make; refine wpList_make_full _ rfl _ _ 25 rfl w.heap.size 3 i1 (.int .i64 0) 1 Tryd.underlying25 HJ.out.1 HJ.out.2.1 HJ.out.2.2.1 .i64 .i64 _ _ (n + 1) rfl rfl (by go_num) (by go_num) HM.out.1 HM.out.2 (Nat.le_refl _) ?_; intro w1 hown1 hgrow1)
  have hb1 : Below w.heap.size w w1 := (Below.refl _ _).grown hgrow1 (Nat.le_refl _) (fun k hk => by cases hk)
  rw [show (Value.int .i64 0).cells = #[.int .i64 0] from rfl, Nat.mul_one, toList_madeCells_one] at hown1
  have HO := Lib.hid (show w1.ownsRow w.heap.size 3 1 (.slice (some ⟨w.heap.size, 0, none⟩) (n + 1) (n + 1)) (n + 1) ((upTo (allOffs kd zs) (n + 1) 1).map (Value.int .i64)) by
    rw [← HN.out, upTo_one, HN.out]; simpa using hown1)
  have HB := Lib.hid hb1
  clear hb1 hown1 hgrow1
  go_loopw [14] (fun i wr => ∃ k : Nat, k ≤ n ∧ i = .int .i64 k ∧ wr.ownsRow w.heap.size 3 1 (.slice (some ⟨w.heap.size, 0, none⟩) (n + 1) (n + 1)) (n + 1) ((upTo (allOffs kd zs) (n + 1) (k + 1)).map (Value.int .i64)) ∧ Below w.heap.size w wr) (fun i _ => n - (intOf i).toNat)
  case atStart => exact ⟨0, Nat.zero_le _, rfl, HO.out, HB.out⟩
  case round =>
    obtain ⟨k, hk, rfl, hown, hbl⟩ := hrel
    by_cases hlt : k < n
    · obtain ⟨b, off, rfl, hc⟩ := (HAT.out.below hbl).int (k := k) (by rw [HN.out]; exact hlt)
      have hlu : (upTo (allOffs kd zs) (n + 1) (k + 1)).length = n + 1 := by have := hown.1; simpa using this
      have c0 := hown.cellAt k (by omega)
      have c1 := hown.cellAt (k + 1) (by omega)
      have f1 := hown.frozenAt (k + 1)
      have hg0 : (upTo (allOffs kd zs) (n + 1) (k + 1)).getD k 0 = offAt kd zs k := by rw [upTo_at _ _ _ _ (by omega) (by rw [HAL.out, HN.out]; omega), allOffs_at _ _ _ (by rw [HN.out]; omega)]
      have e0 : ((upTo (allOffs kd zs) (n + 1) (k + 1)).map (Value.int .i64))[k]? = some (.int .i64 (offAt kd zs k)) := by
        rw [map_get _ _ (by rw [hlu]; omega), hg0]
      have e1 : ((upTo (allOffs kd zs) (n + 1) (k + 1)).map (Value.int .i64))[k + 1]? = some (.int .i64 ((upTo (allOffs kd zs) (n + 1) (k + 1)).getD (k + 1) 0)) :=
        map_get _ _ (by rw [hlu]; omega)
      rw [e0] at c0
      rw [e1] at c1
      have hsucc := offAt_succ kd zs k (by rw [HN.out]; exact hlt)
      have hset := upTo_set (l := allOffs kd zs) (n := n + 1) (k := k + 1) (by rw [HAL.out, HN.out]; omega) (by rw [HAL.out, HN.out]; omega)
      rw [allOffs_at _ _ _ (by rw [HN.out]; omega), hsucc] at hset
      obtain ⟨z, hz⟩ : ∃ z, z = zs.getD k 0 := ⟨_, rfl⟩
      rw [← hz] at hc hset
      obtain ⟨x, hx⟩ : ∃ x, x = offAt kd zs k := ⟨_, rfl⟩
      have hxb := offAt_bd kd zs k
      rw [← hx] at c0 hset hxb
      generalize (upTo (allOffs kd zs) (n + 1) (k + 1)).getD (k + 1) 0 = y at c1
      have hwb := widthOf_bd kd z
      obtain ⟨wd, hwd⟩ : ∃ wd, wd = widthOf kd z := ⟨_, rfl⟩
      have HW := Lib.hid (show ∀ wx, Calls Tryd.prog 45 #[.int .i64 kd, .int .i32 z] wx fun e w' => e = .returned (.int .i64 wd) ∧ wx = w' from fun wx => hwd ▸ swidth_any kd z wx)
      rw [← hwd] at hwb hset
      have HSET := Lib.hid hset
      have HOWN := Lib.hid hown
      have HBL := Lib.hid hbl
      have hi0 : (k : Int) < (n : Int) + 1 := by omega
      have hi2 : (k : Int) < (n : Int) := by omega
      have hi1 : (k : Int) + 1 < (n : Int) + 1 := by omega
      have hj0 : k < n + 1 := by omega
      have hj1 : k + 1 < n + 1 := by omega
      have hx0 : 0 ≤ x := hxb.1
      have hx1 : x ≤ 4398046511104 := by omega
      obtain ⟨hw0, hw1⟩ := hwb
      clear hlu hg0 e0 e1 hsucc hset hz hx hxb hwd hown hbl
      have hs1 : IntKind.i64.wrap ((k : Int) + 1) = (k : Int) + 1 := IntWalk.i64_in _ (by omega)
      have hs2 : (0 : Int) ≤ (k : Int) + 1 := by omega
      have hs3 : ((k : Int) + 1).toNat = k + 1 := by omega
      have hs4 : IntKind.i64.wrap (x + wd) = x + wd := IntWalk.i64_in _ (by omega)
      have HKK := Lib.hid (And.intro hlt hk)
      go_wp2_with fail
      go_region_with (go_at_call 45; refine (HW.out _).mono ?_; rintro e w' ⟨rfl, rfl⟩)
      all_goals
        clear hs1 hs2 hs3 hs4
        go_wp2
        go_roundw
        case rel =>
          refine ⟨k + 1, by omega, by go_num, ?_, bdr (HBL.out.setCell (p := ⟨w.heap.size, k + 1, none⟩) (Nat.le_refl _) _) 1⟩
          have := (HOWN.out.stored (k + 1) (.int .i64 (x + wd))).1
          rw [← List.map_set, HSET.out] at this
          exact this
        case measure => simp [intOf]; omega
    · obtain rfl : k = n := by omega
      have HL := Lib.hid (upTo_full (l := allOffs kd zs) (n := k + 1) (by rw [HAL.out, HN.out]))
      rw [HL.out] at hown
      clear hk hlt
      go_wp2
      go_ret
      exact ⟨_, rfl, by rw [HAL.out, HN.out]; exact hown, hbl⟩

end Go.Proofs.YtmibajofbagphaaDoor
