/-
  Contracts of layer 7: Starts, Find, behind, edge.
-/
import Derived.Test.YtbljgoieieoamaaLexP
namespace Go.Proofs.Ytbljgoieieoamaa
open Go.RowKit
set_option linter.unusedVariables false

set_option maxRecDepth 100000 in
set_option maxHeartbeats 1000000 in
theorem starts_any (b off n cap : Nat) (l : List Int) (k : Nat) (s : ByteArray) (w : World) (hn : l.length = n) (hc : n ≤ cap) (hm : cap ≤ maxLen) (hk : k ≤ n) (hs : s.size ≤ 100) (ha : ∀ j (h : j < s.size), (s[j]).toNat < 128) (hat : AtCells w (some ⟨b, off, none⟩) (l.map (.int .i32))) :
    Calls Try.prog 46 #[.slice (some ⟨b, off, none⟩) n cap, .int .i64 k, .string s] w fun e w' => e = .returned (.bool (sw (sg s) (l.drop k))) ∧ ∃ m, w' = w.drewN m := by
  unfold maxLen at hm
  have HSG := Lib.hid (sg_get s)
  have HSL := Lib.hid (sg_length s)
  have HLD := Lib.hid (show (l.drop k).length = n - k by rw [List.length_drop, hn])
  have HAT := Lib.hid hat
  have HN := Lib.hid hn
  have HA := Lib.hid ha
  clear hat hn ha
  by_cases hlen : n - k < s.size
  · have HR := Lib.hid (show sw (sg s) (l.drop k) = false from sw_short (by rw [HLD.out, HSL.out]; exact hlen))
    have hlen' : (n : Int) - k < s.size := by omega
    go_enter Try.func46, Try.ntmps46
    go_wp2
    go_ret
    exact ⟨by rw [HR.out]; rfl, 0, rfl⟩
  · have hlen' : ¬ (n : Int) - k < s.size := by omega
    go_enter Try.func46, Try.ntmps46
    go_wp2
    go_loopw [7, 27] (fun _i i wr => ∃ j m : Nat, j ≤ s.size ∧ i = .int .i64 j ∧ wr = w.drewN m ∧ Hid (∀ x, x < j → (l.drop k).getD x 0 = (sg s).getD x 0)) (fun _ i _ => s.size - (intOf i).toNat)
    case atStart => exact ⟨0, 0, by omega, rfl, rfl, Lib.hid (fun x hx => by omega)⟩
    case round =>
      obtain ⟨j, m, hj, rfl, rfl, HJ⟩ := hrel
      by_cases hlt : j < s.size
      · have hc0 := HAT.out.drop k
        rw [← List.map_drop] at hc0
        obtain ⟨b', off', hy, hc1⟩ := hc0.int (k := j) (by rw [HLD.out]; omega)
        simp only [Option.some.injEq, Addr.mk.injEq] at hy
        obtain ⟨rfl, rfl, _⟩ := hy
        rw [Nat.add_assoc] at hc1
        obtain ⟨z, hz⟩ : ∃ z, z = (l.drop k).getD j 0 := ⟨_, rfl⟩
        rw [← hz] at hc1
        have hlow := HA.out j hlt
        have hsgj := HSG.out j hlt
        have hkj : (k : Int) + j < n := by omega
        have hge : ((128 : Int) ≤ ((s[j]).toNat : Int)) = False := eq_false (by omega)
        have hge2 : (128 ≤ (s[j]).toNat) = False := eq_false (by omega)
        by_cases he : z = ((s[j]).toNat : Int)
        · have HK := Lib.hid (show ∀ x, x < j + 1 → (l.drop k).getD x 0 = (sg s).getD x 0 from fun x hx => by
            by_cases h : x = j
            · subst h; rw [← hz, hsgj]; exact he
            · exact HJ.out x (by omega))
          subst he
          clear hz hsgj hc0
          go_wp2
          have ek : IntKind.i64.wrap ((k : Int) + j) = (k : Int) + j := IntWalk.i64_in _ (by omega)
          have ei : IntKind.i32.wrap ((s[j]).toNat : Int) = ((s[j]).toNat : Int) := IntWalk.i32_in _ (by omega)
          have e0 : (0 : Int) ≤ (k : Int) + j := by omega
          have et : ((k : Int) + (j : Int)).toNat = k + j := by omega
          go_quiet (fail)
          clear e0 et ek ei hge hge2
          go_wp2
          go_roundw
          case rel => exact ⟨j + 1, m + nq, by omega, by go_num, by first | rfl | exact World.drewN_drewN .., HK⟩
          case measure => simp [intOf]; omega
        · have HR := Lib.hid (show sw (sg s) (l.drop k) = false from sw_no j (by rw [HSL.out]; exact hlt) (by rw [← hz, hsgj]; exact he))
          clear hz hsgj hc0
          go_wp2
          have ek : IntKind.i64.wrap ((k : Int) + j) = (k : Int) + j := IntWalk.i64_in _ (by omega)
          have ei : IntKind.i32.wrap ((s[j]).toNat : Int) = ((s[j]).toNat : Int) := IntWalk.i32_in _ (by omega)
          have e0 : (0 : Int) ≤ (k : Int) + j := by omega
          have et : ((k : Int) + (j : Int)).toNat = k + j := by omega
          go_quiet (fail)
          clear e0 et ek ei hge hge2
          have hq : ((z : Int) != ((s[j]).toNat : Int)) = true := by simpa using he
          go_wp2
          go_ret
          exact ⟨by rw [HR.out]; rfl, m + nq, by first | rfl | exact World.drewN_drewN ..⟩
      · obtain rfl : j = s.size := by omega
        have HR := Lib.hid (show sw (sg s) (l.drop k) = true from sw_of (by rw [HLD.out, HSL.out]; omega) (fun x hx => HJ.out x (by rw [HSL.out] at hx; exact hx)))
        clear hj hlt
        go_wp2
        go_ret
        exact ⟨by rw [HR.out]; rfl, m, rfl⟩

/-- A sign: its bytes are below 128, and not too many. -/
structure Sign (s : ByteArray) : Prop where
  pos : 0 < s.size
  small : s.size ≤ 20
  low : ∀ j (h : j < s.size), (s[j]).toNat < 128

/-- A row of runes that lies somewhere. -/
structure RRow (w : World) (b off n cap : Nat) (l : List Int) : Prop where
  len : l.length = n
  le : n ≤ cap
  max : cap ≤ maxLen
  cells : AtCells w (some ⟨b, off, none⟩) (l.map (.int .i32))

theorem RRow.below {w w' : World} {b off n cap : Nat} {l : List Int} (h : RRow w b off n cap l) (hb : Below w.heap.size w w') : RRow w' b off n cap l := ⟨h.len, h.le, h.max, h.cells.below hb⟩
theorem RRow.drewN {w : World} {b off n cap : Nat} {l : List Int} (h : RRow w b off n cap l) (m : Nat) : RRow (w.drewN m) b off n cap l := ⟨h.len, h.le, h.max, h.cells.drewN m⟩

theorem startsC {b off n cap : Nat} {l : List Int} {w : World} (R : RRow w b off n cap l) {s : ByteArray} (S : Sign s) (k : Nat) (hk : k ≤ n) {v : Bool} (hv : sw (sg s) (l.drop k) = v) :
    Calls Try.prog 46 #[.slice (some ⟨b, off, none⟩) n cap, .int .i64 k, .string s] w fun e w' => e = .returned (.bool v) ∧ ∃ m, w' = w.drewN m := by
  have := starts_any b off n cap l k s w R.len R.le R.max hk (by have := S.small; omega) S.low R.cells
  rwa [hv] at this

theorem sg_pos {s : ByteArray} (S : Sign s) : 0 < (sg s).length := by rw [sg_length]; exact S.pos

theorem ret_ib {a b : Int} {c d : Bool} (h : a = b) (h' : c = d) : Ending.returned (.tuple #[.int .i64 a, .bool c]) = .returned (.tuple #[.int .i64 b, .bool d]) := by rw [h, h']
/-- What Find answers. -/
def fndI (k : Nat) (o : Option Nat) : Int × Bool := match o with | some j => ((k : Int) + j, true) | none => (0, false)

set_option maxHeartbeats 1000000 in
theorem find_any {b off n cap : Nat} {l : List Int} {w : World} (R : RRow w b off n cap l) {s : ByteArray} (S : Sign s) (k : Nat) (hk : k ≤ n) :
    Calls Try.prog 104 #[.slice (some ⟨b, off, none⟩) n cap, .int .i64 k, .int .i64 n, .string s] w fun e w' => e = .returned (.tuple #[.int .i64 (fndI k (fnd (sg s) (l.drop k))).1, .bool (fndI k (fnd (sg s) (l.drop k))).2]) ∧ ∃ m, w' = w.drewN m := by
  have hs1 := S.pos
  have hs2 := S.small
  have hc := R.le
  have hm := R.max
  unfold maxLen at hm
  have HR := Lib.hid R
  have HS := Lib.hid S
  have HLD := Lib.hid (show (l.drop k).length = n - k by rw [List.length_drop, R.len])
  have HSL := Lib.hid (sg_length s)
  clear R S
  have q1 : decide (n < k) = false := decide_eq_false (by omega)
  have q2 : decide ((k : Int) < 0) = false := decide_eq_false (by omega)
  have q3 : decide ((n : Int) < 0) = false := decide_eq_false (by omega)
  go_enter Try.func104, Try.ntmps104
  go_wp2
  go_loopw [10, 36] (fun _i i wr => ∃ j m : Nat, j ≤ n + 1 ∧ i = .int .i64 j ∧ wr = w.drewN m ∧ Hid (∀ x, x < j → sw (sg s) ((l.drop k).drop x) = false)) (fun _ i _ => n + 1 - (intOf i).toNat)
  case atStart => exact ⟨0, 0, by omega, rfl, rfl, Lib.hid (fun x hx => by omega)⟩
  case round =>
    obtain ⟨j, m, hj, rfl, rfl, HJ⟩ := hrel
    by_cases hlt : j + s.size + k ≤ n
    · have hlt' : (j : Int) < (n : Int) - s.size - k + 1 := by omega
      have hkj : (k : Int) + j ≤ n := by omega
      cases hv : sw (sg s) (l.drop (k + j))
      · have HC := Lib.hid (startsC (HR.out.drewN m) HS.out (k + j) (by omega) hv)
        rw [Int.natCast_add] at HC
        have HK := Lib.hid (show ∀ x, x < j + 1 → sw (sg s) ((l.drop k).drop x) = false from fun x hx => by
          by_cases h : x = j
          · subst h; rw [List.drop_drop]; exact hv
          · exact HJ.out x (by omega))
        clear hv
        go_wp2_with (go_at_call 46; (with_reducible refine HC.out.mono ?_); rintro e w1 ⟨rfl, m1, rfl⟩)
        go_roundw
        case rel => exact ⟨j + 1, m + m1, by omega, by go_num, by first | rfl | exact World.drewN_drewN .., HK⟩
        case measure => simp [intOf]; omega
      · have HC := Lib.hid (startsC (HR.out.drewN m) HS.out (k + j) (by omega) hv)
        rw [Int.natCast_add] at HC
        have HF := Lib.hid (fnd_some (sg s) (sg_pos HS.out) (l.drop k) j HJ.out (by rw [List.drop_drop]; exact hv))
        clear hv
        go_wp2_with (go_at_call 46; (with_reducible refine HC.out.mono ?_); rintro e w1 ⟨rfl, m1, rfl⟩)
        go_ret2
        rw [HF.out]
        exact ⟨ret_ib rfl rfl, m + m1, by first | rfl | exact World.drewN_drewN ..⟩
    · have hlt' : ¬ (j : Int) < (n : Int) - s.size - k + 1 := by omega
      have HF := Lib.hid (fnd_none (sg s) (sg_pos HS.out) (l.drop k) (fun x hx => HJ.out x (by rw [HSL.out, HLD.out] at hx; omega)))
      go_wp2
      go_ret2
      rw [HF.out]
      exact ⟨ret_ib rfl rfl, m, rfl⟩

theorem behP_none {a l : List Int} (h : fnd a l = none) : behP a l = (l.length, false) := by unfold behP; rw [h]
theorem behP_some {a l : List Int} {j : Nat} (h : fnd a l = some j) : behP a l = (j + a.length, true) := by unfold behP; rw [h]

theorem Sign.of {s : ByteArray} (h : (decide (0 < s.size) && decide (s.size ≤ 20) && s.data.toList.all fun b => decide (b.toNat < 128)) = true) : Sign s := by
  rw [Bool.and_eq_true, Bool.and_eq_true, decide_eq_true_eq, decide_eq_true_eq, List.all_eq_true] at h
  refine ⟨h.1.1, h.1.2, fun j hj => ?_⟩
  have := h.2 s[j] (Array.getElem_mem_toList hj)
  simpa using this
theorem gtS : Sign ⟨#[62]⟩ := Sign.of (by decide)
theorem gt_sg : sg ⟨#[62]⟩ = gt := rfl

end Go.Proofs.Ytbljgoieieoamaa
