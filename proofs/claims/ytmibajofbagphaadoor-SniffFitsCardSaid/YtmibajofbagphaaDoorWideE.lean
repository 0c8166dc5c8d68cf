/-
  Contracts: Bytes of layer 2, and the reference's.
-/
import Derived.Test.YtmibajofbagphaaDoorWideB
namespace Go.Proofs.YtmibajofbagphaaDoor
open Go.RowKit

/-- The function that puts a unit behind bytes. -/
def wrt (big : Bool) : Value := if big then .func (.func 66) #[] #[] else .func (.func 67) #[] #[]
theorem wrt_true : wrt true = .func (.func 66) #[] #[] := rfl
theorem wrt_false : wrt false = .func (.func 67) #[] #[] := rfl

set_option maxHeartbeats 400000 in
theorem writer_any (big : Bool) (w : World) :
    Calls Tryd.prog 49 #[.bool big] w fun e w' => e = .returned (wrt big) ∧ w = w' := by
  cases big
  all_goals
    go_enter Tryd.func49, Tryd.ntmps49
    go_wp2
    go_ret
    exact ⟨rfl, rfl⟩

def putCells (big : Bool) (u : Int) : List Value := (U16.put big u).map (Value.int .u8)
theorem putCells_true (u : Int) : putCells true u = [.int .u8 (u / 256 % 256), .int .u8 (u % 256)] := rfl
theorem putCells_false (u : Int) : putCells false u = [.int .u8 (u % 256), .int .u8 (u / 256 % 256)] := rfl

theorem two_oneCell (k : IntKind) (a b : Int) : ∀ u ∈ ([.int k a, .int k b] : List Value), u.oneCell' = true := by
  intro u hu; simp at hu; rcases hu with rfl | rfl <;> rfl

/-- A unit's bytes stand behind what a value owned. -/
def PutIs (big : Bool) (B : Nat) (w : World) (v : Value) (n : Nat) (xs : List Value) (u : Int) (e : Ending) (w' : World) : Prop :=
  ∃ v', e = .returned v' ∧ w'.ownsRow B 5 1 v' (n + 2) (xs ++ putCells big u) ∧ ∃ o, (w.alloc o).grownBy w' v.ownBlock

set_option maxHeartbeats 1000000 in
theorem put_big (B : Nat) (v : Value) (n : Nat) (xs : List Value) (u : Int) (w : World) (hu0 : 0 ≤ u) (hu1 : u ≤ 65535) (hown : w.ownsRow B 5 1 v n xs) (hn : n + 4 ≤ 140737488355328) (hB : B ≤ w.heap.size) :
    Calls Tryd.prog 66 #[v, .int .i32 u] w (PutIs true B w v n xs u) := by
  obtain ⟨i0, hi, hz0, hz1, hz2⟩ := info_parts Tryd.infoU8
  have HI := Lib.hid (And.intro hi (And.intro hz0 (And.intro hz1 hz2)))
  have h63 : n + 2 ≤ maxLen := by unfold maxLen; omega
  have h47 : (n + 2) * 1 ≤ 140737488355328 := by omega
  have HM := Lib.hid (And.intro h63 h47)
  have HB := Lib.hid (show ∀ o, B ≤ (w.alloc o).heap.size from fun o => by simp; omega)
  have HEQ := Lib.hid (show ([.int .u8 (u / 256), .int .u8 (u % 256)] : List Value) = putCells true u by rw [putCells_true, show u / 256 % 256 = u / 256 by omega])
  have HOWN := Lib.hid hown
  clear hi hz0 hz1 hz2 h63 h47 hown hB
  go_enter Tryd.func66, Tryd.ntmps66
  go_wp2_with (at_builtin; refine wpList_append_own _ rfl _ _ 22 rfl B 5 i0 (.int .u8 0) 1 1 Tryd.underlying22 HI.out.1 HI.out.2.1 HI.out.2.2.1 HI.out.2.2.2 rfl (by decide) _ _ _ rfl (HOWN.out.alloc _) _ _ _ ([.int .u8 (u / 256), .int .u8 (u % 256)]) rfl rfl (new_cells_at _ _ _ _ rfl) (two_oneCell _ _ _) HM.out.1 HM.out.2 (HB.out _) ?_; intro v' w2 hown' hg' _)
  rw [HEQ.out] at hown'
  have hg := Lib.hid hg'
  clear hg'
  go_ret
  exact ⟨_, rfl, hown', _, hg.out⟩

set_option maxHeartbeats 1000000 in
theorem put_little (B : Nat) (v : Value) (n : Nat) (xs : List Value) (u : Int) (w : World) (hu0 : 0 ≤ u) (hu1 : u ≤ 65535) (hown : w.ownsRow B 5 1 v n xs) (hn : n + 4 ≤ 140737488355328) (hB : B ≤ w.heap.size) :
    Calls Tryd.prog 67 #[v, .int .i32 u] w (PutIs false B w v n xs u) := by
  obtain ⟨i0, hi, hz0, hz1, hz2⟩ := info_parts Tryd.infoU8
  have HI := Lib.hid (And.intro hi (And.intro hz0 (And.intro hz1 hz2)))
  have h63 : n + 2 ≤ maxLen := by unfold maxLen; omega
  have h47 : (n + 2) * 1 ≤ 140737488355328 := by omega
  have HM := Lib.hid (And.intro h63 h47)
  have HB := Lib.hid (show ∀ o, B ≤ (w.alloc o).heap.size from fun o => by simp; omega)
  have HEQ := Lib.hid (show ([.int .u8 (u % 256), .int .u8 (u / 256)] : List Value) = putCells false u by rw [putCells_false, show u / 256 % 256 = u / 256 by omega])
  have HOWN := Lib.hid hown
  clear hi hz0 hz1 hz2 h63 h47 hown hB
  go_enter Tryd.func67, Tryd.ntmps67
  go_wp2_with (at_builtin; refine wpList_append_own _ rfl _ _ 22 rfl B 5 i0 (.int .u8 0) 1 1 Tryd.underlying22 HI.out.1 HI.out.2.1 HI.out.2.2.1 HI.out.2.2.2 rfl (by decide) _ _ _ rfl (HOWN.out.alloc _) _ _ _ ([.int .u8 (u % 256), .int .u8 (u / 256)]) rfl rfl (new_cells_at _ _ _ _ rfl) (two_oneCell _ _ _) HM.out.1 HM.out.2 (HB.out _) ?_; intro v' w2 hown' hg' _)
  rw [HEQ.out] at hown'
  have hg := Lib.hid hg'
  clear hg'
  go_ret
  exact ⟨_, rfl, hown', _, hg.out⟩

theorem put_any (big bg : Bool) (hbg : bg = big) (B : Nat) (v : Value) (n : Nat) (xs : List Value) (u : Int) (w : World) (hu0 : 0 ≤ u) (hu1 : u ≤ 65535) (hown : w.ownsRow B 5 1 v n xs) (hn : n + 4 ≤ 140737488355328) (hB : B ≤ w.heap.size) :
    Calls Tryd.prog (if big then 66 else 67) #[v, .int .i32 u] w (PutIs bg B w v n xs u) := by
  subst hbg
  cases bg
  · exact put_little B v n xs u w hu0 hu1 hown hn hB
  · exact put_big B v n xs u w hu0 hu1 hown hn hB

theorem and10 (x : Int) (h0 : 0 ≤ x) (h1 : x < 2147483648) : bits .and .i32 x 1023 = x % 1024 := bits_mask .i32 31 (by decide) wraps_i32 10 (by decide) x h0 h1

theorem cells_put (big : Bool) (u : Int) : putCells big u = (U16.put big u).map (Value.int .u8) := rfl

/-- One unit more. -/
theorem wstep1 {big : Bool} {B : Nat} {w wr w' : World} {v v' : Value} {zs : List Int} {k : Nat} {z : Int} {o : Obj} (hw : U16.width z = 2) (hz : z = zs.getD k 0) (hts : zs.take (k + 1) = zs.take k ++ [zs.getD k 0])
    (hown' : w'.ownsRow B 5 1 v' ((U16.encs big (zs.take k)).length + 2) ((U16.encs big (zs.take k)).map (Value.int .u8) ++ putCells big z))
    (hown : wr.ownsRow B 5 1 v (U16.encs big (zs.take k)).length ((U16.encs big (zs.take k)).map (Value.int .u8)))
    (hg : (wr.alloc o).grownBy w' v.ownBlock) (hbl : Below B w wr) (hB : B ≤ wr.heap.size) :
    w'.ownsRow B 5 1 v' (U16.encs big (zs.take (k + 1))).length ((U16.encs big (zs.take (k + 1))).map (Value.int .u8)) ∧ Below B w w' := by
  rw [hts, ← hz, U16.encs_snoc, List.map_append, List.length_append]
  have he : U16.enc big z = U16.put big z := by rw [U16.enc, if_pos hw]
  rw [he, U16.put_length]
  exact ⟨hown', below_grown_alloc hbl hB hg (fun g hg => (hown.lt g hg).1)⟩

/-- Two units more. -/
theorem wstep2 {big : Bool} {B : Nat} {w wr w1 w2 : World} {v v1 v2 : Value} {zs : List Int} {k : Nat} {z : Int} {o o' : Obj} (hw : U16.width z = 4) (hz : z = zs.getD k 0) (hts : zs.take (k + 1) = zs.take k ++ [zs.getD k 0])
    (hown2 : w2.ownsRow B 5 1 v2 ((U16.encs big (zs.take k)).length + 2 + 2) ((U16.encs big (zs.take k)).map (Value.int .u8) ++ putCells big (55296 + (z - 65536) / 1024) ++ putCells big (56320 + (z - 65536) % 1024)))
    (hown1 : w1.ownsRow B 5 1 v1 ((U16.encs big (zs.take k)).length + 2) ((U16.encs big (zs.take k)).map (Value.int .u8) ++ putCells big (55296 + (z - 65536) / 1024)))
    (hown : wr.ownsRow B 5 1 v (U16.encs big (zs.take k)).length ((U16.encs big (zs.take k)).map (Value.int .u8)))
    (hg1 : (wr.alloc o).grownBy w1 v.ownBlock) (hg2 : (w1.alloc o').grownBy w2 v1.ownBlock) (hbl : Below B w wr) (hB : B ≤ wr.heap.size) :
    w2.ownsRow B 5 1 v2 (U16.encs big (zs.take (k + 1))).length ((U16.encs big (zs.take (k + 1))).map (Value.int .u8)) ∧ Below B w w2 := by
  rw [hts, ← hz, U16.encs_snoc, List.map_append, List.length_append]
  have he : U16.enc big z = U16.put big (55296 + (z - 65536) / 1024) ++ U16.put big (56320 + (z - 65536) % 1024) := by rw [U16.enc, if_neg (by omega), if_pos hw]
  have hb1 := below_grown_alloc hbl hB hg1 (fun g hg => (hown.lt g hg).1)
  have hs1 : B ≤ w1.heap.size := by have := hg1.size; simp at this; omega
  rw [he, List.map_append, List.length_append, U16.put_length, U16.put_length, ← List.append_assoc]
  exact ⟨hown2, below_grown_alloc hb1 hs1 hg2 (fun g hg => (hown1.lt g hg).1)⟩

theorem wstep0 {big : Bool} {B : Nat} {wr : World} {v : Value} {zs : List Int} {k : Nat} {z : Int} (hw : U16.width z = 0) (hz : z = zs.getD k 0) (hts : zs.take (k + 1) = zs.take k ++ [zs.getD k 0])
    (hown : wr.ownsRow B 5 1 v (U16.encs big (zs.take k)).length ((U16.encs big (zs.take k)).map (Value.int .u8))) :
    wr.ownsRow B 5 1 v (U16.encs big (zs.take (k + 1))).length ((U16.encs big (zs.take (k + 1))).map (Value.int .u8)) := by
  rw [hts, ← hz, U16.encs_snoc, show U16.enc big z = [] by rw [U16.enc, if_neg (by omega), if_neg (by omega)], List.append_nil]
  exact hown

theorem wrange2 {z : Int} (h : U16.width z = 2) : 0 ≤ z ∧ z ≤ 65535 := by rw [U16.width_eq] at h; (repeat' split at h) <;> omega
theorem wrange4 {z : Int} (h : U16.width z = 4) : 65536 ≤ z ∧ z ≤ 1114111 := by rw [U16.width_eq] at h; (repeat' split at h) <;> omega

set_option maxHeartbeats 4000000 in
theorem wbytes_any (big : Bool) (a : Option Addr) (n cap : Nat) (zs : List Int) (w : World) (hn : zs.length = n) (hbig : n ≤ 1099511627776) (hat : AtCells w a (zs.map (.int .i32))) :
    Calls Tryd.prog 32 #[.bool big, .slice a n cap] w (OwnBytes w (U16.encs big zs)) := by
  obtain ⟨i0, hi, hz0, hz1, hz2⟩ := info_parts Tryd.infoU8
  have HN := Lib.hid hn
  have HAT := Lib.hid hat
  have HI := Lib.hid (And.intro hi (And.intro hz0 (And.intro hz1 hz2)))
  have hm1 : i0.bytes * (2 * n) ≤ 281474976710656 := by rw [hz2]; omega
  have hm2 : 2 * n ≤ maxLen := by unfold maxLen; omega
  have HM := Lib.hid (And.intro hm1 hm2)
  have HWR := Lib.hid (writer_any big w)
  obtain ⟨bg, hbg⟩ : ∃ bg, bg = big := ⟨_, rfl⟩
  have HPUT := Lib.hid (put_any big bg hbg w.heap.size)
  rw [show U16.encs big zs = U16.encs bg zs by rw [hbg]]
  clear hbg hn hat hi hz0 hz1 hz2 hm1 hm2
  cases big
  all_goals
    first | rw [wrt_true] at HWR | rw [wrt_false] at HWR
    first | rw [if_pos rfl] at HPUT | rw [if_neg (by decide)] at HPUT | skip
    go_enter Tryd.func32, Tryd.ntmps32
    go_wp2_with (first
      | (go_at_call 49; refine HWR.out.mono ?_; rintro e w' ⟨rfl, rfl⟩)
      | (at_make; refine wpList_make_own _ rfl _ _ 22 rfl w.heap.size 5 i0 (.int .u8 0) 1 Tryd.underlying22 HI.out.1 HI.out.2.1 HI.out.2.2.1 .i64 .i64 _ (2 * n) rfl rfl (by omega) HM.out.1 HM.out.2 (Nat.le_refl _) ?_; intro w1 hown1 hgrow1))
    have hb1 : Below w.heap.size w w1 := (Below.refl _ _).grown hgrow1 (Nat.le_refl _) (fun k hk => by cases hk)
    clear hgrow1
    go_loopw [6, 17] (fun v i wr => ∃ k : Nat, k ≤ n ∧ i = .int .i64 k ∧ wr.ownsRow w.heap.size 5 1 v (U16.encs bg (zs.take k)).length ((U16.encs bg (zs.take k)).map (Value.int .u8)) ∧ Below w.heap.size w wr)
      (fun _ i _ => n - (intOf i).toNat)
    case atStart => exact ⟨0, Nat.zero_le _, rfl, hown1, hb1⟩
    case round =>
      obtain ⟨k, hk, rfl, hown, hbl⟩ := hrel
      by_cases hlt : k < n
      · obtain ⟨b, off, rfl, hc⟩ := (HAT.out.below hbl).int (k := k) (by rw [HN.out]; exact hlt)
        obtain ⟨z, hz⟩ : ∃ z, z = zs.getD k 0 := ⟨_, rfl⟩
        rw [← hz] at hc
        have HZZ := Lib.hid hz
        have HTS := Lib.hid (U8.take_succ zs k (by rw [HN.out]; exact hlt))
        have hsz := hbl.size
        have hln : (U16.encs bg (zs.take k)).length + 6 ≤ 140737488355328 := by
          have h1 := U16.encs_length_le bg (zs.take k); have h2 := HN.out; simp only [List.length_take] at h1; omega
        have HLN := Lib.hid (show (U16.encs bg (zs.take k)).length + 4 ≤ 140737488355328 by omega)
        have HLN2 := Lib.hid (show (U16.encs bg (zs.take k)).length + 2 + 4 ≤ 140737488355328 by omega)
        have HOWN := Lib.hid hown
        have HBL := Lib.hid hbl
        clear hz hln hown hbl
        rcases U16.width_cases z with hw | hw | hw
        · have e1 : (U16.width z == 2) = false := by rw [hw]; rfl
          have e2 : (U16.width z == 4) = false := by rw [hw]; rfl
          have HW := Lib.hid hw
          clear hw
          go_wp2_with (go_at_call 50; refine (wwidth_any _ _).mono ?_; rintro e w' ⟨rfl, rfl⟩)
          go_roundw
          case rel => exact ⟨k + 1, by omega, by go_num, wstep0 HW.out HZZ.out HTS.out HOWN.out, HBL.out⟩
          case measure => simp [intOf]; omega
        · have e1 : (U16.width z == 2) = true := by rw [hw]; rfl
          obtain ⟨hz0, hz1⟩ := wrange2 hw
          have HW := Lib.hid hw
          clear hw
          go_wp2_with (first
            | (go_at_call 50; refine (wwidth_any _ _).mono ?_; rintro e w' ⟨rfl, rfl⟩)
            | ((first | go_at_call 66 | go_at_call 67); refine (HPUT.out _ _ _ _ _ hz0 hz1 HOWN.out HLN.out hsz).mono ?_; rintro e w2 ⟨v', rfl, hown', o, hg'⟩))
          have HST := Lib.hid (wstep1 HW.out HZZ.out HTS.out hown' HOWN.out hg' HBL.out hsz)
          clear hown' hg'
          go_roundw
          case rel => exact ⟨k + 1, by omega, by go_num, HST.out.1, HST.out.2⟩
          case measure => simp [intOf]; omega
        · have e1 : (U16.width z == 2) = false := by rw [hw]; rfl
          have e2 : (U16.width z == 4) = true := by rw [hw]; rfl
          obtain ⟨hz0, hz1⟩ := wrange4 hw
          have HW := Lib.hid hw
          have ha := and10 (z - 65536) (by omega) (by omega)
          clear hw
          have tok : True := trivial
          go_wp2_with (first
            | (go_at_call 50; refine (wwidth_any _ _).mono ?_; rintro e w' ⟨rfl, rfl⟩)
            | ((first | go_at_call 66 | go_at_call 67); have _t := tok; refine (HPUT.out _ _ _ _ _ (by omega) (by omega) HOWN.out HLN.out hsz).mono ?_; rintro e w2 ⟨v1, rfl, hown1', o1, hg1'⟩; have HO1 := Lib.hid hown1'; have HG1 := Lib.hid hg1'; have hsz2 : w.heap.size ≤ w2.heap.size := (below_grown_alloc HBL.out hsz hg1' (fun g hg => (HOWN.out.lt g hg).1)).size; clear hown1' hg1' tok _t)
            | ((first | go_at_call 66 | go_at_call 67); refine (HPUT.out _ _ _ _ _ (by omega) (by omega) HO1.out HLN2.out hsz2).mono ?_; rintro e w3 ⟨v2, rfl, hown2', o2, hg2'⟩))
          have HST := Lib.hid (wstep2 HW.out HZZ.out HTS.out hown2' HO1.out HOWN.out HG1.out hg2' HBL.out hsz)
          clear hown2' hg2'
          go_roundw
          case rel => exact ⟨k + 1, by omega, by go_num, HST.out.1, HST.out.2⟩
          case measure => simp [intOf]; omega
      · obtain rfl : k = n := by omega
        have HT := Lib.hid (show zs.take k = zs from List.take_of_length_le (by have := HN.out; omega))
        clear hk hlt
        go_wp2
        go_ret
        rw [HT.out] at hown
        exact ⟨_, rfl, hown, hbl⟩

end Go.Proofs.YtmibajofbagphaaDoor
