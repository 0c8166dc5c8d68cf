/-
  Contracts of layer 4: Pubid, and the reference's; what is within what.
-/
import Derived.Test.YtpjcheelafegbaaClsD
namespace Go.Proofs.Ytpjcheelafegbaa
open Go.RowKit

def pubT : List (Int × Int) := [(97, 122), (65, 90), (48, 57), (32, 32), (10, 10), (13, 13)]
def pubidB (r : Int) : Bool := amongB r pubT || markB r

set_option maxHeartbeats 400000 in
theorem pubid_any (r : Int) (w : World) :
    Calls Try.prog 89 #[.int .i32 r] w fun e w' => e = .returned (.bool (pubidB r)) ∧ Below w.heap.size w w' := by
  have HC := Lib.hid (fun w => contains_any r w)
  unfold marks at HC
  cases hs : amongB r pubT
  · have HS := Lib.hid (show ∀ w : World, Calls Try.prog 94 #[.int .i32 r, .slice (some ⟨w.heap.size, 0, none⟩) 6 6] (w.alloc (.cells (pairCells pubT).toArray 121)) fun e w' => e = .returned (.bool false) ∧ Below w.heap.size w w' from fun w => hs ▸ among_lit r pubT 6 w rfl (by omega))
    have HF := Lib.hid (show pubidB r = markB r by simp [pubidB, hs])
    clear hs
    go_enter Try.func89, Try.ntmps89
    go_wp2_with (first
      | (go_at_call 94; refine (HS.out _).mono ?_; rintro e w1 ⟨rfl, hb1⟩)
      | (go_at_call 98; refine (HC.out _).mono ?_; rintro e w' ⟨rfl, hb⟩))
    go_ret
    exact ⟨by rw [HF.out]; rfl, hb1.trans (hb.mono hb1.size)⟩
  · have HS := Lib.hid (show ∀ w : World, Calls Try.prog 94 #[.int .i32 r, .slice (some ⟨w.heap.size, 0, none⟩) 6 6] (w.alloc (.cells (pairCells pubT).toArray 121)) fun e w' => e = .returned (.bool true) ∧ Below w.heap.size w w' from fun w => hs ▸ among_lit r pubT 6 w rfl (by omega))
    have HF := Lib.hid (show pubidB r = true by simp [pubidB, hs])
    clear hs
    go_enter Try.func89, Try.ntmps89
    go_wp2_with (go_at_call 94; refine (HS.out _).mono ?_; rintro e w1 ⟨rfl, hb1⟩)
    go_ret
    exact ⟨by rw [HF.out]; rfl, hb1⟩

def markL : List Int := [45, 39, 40, 41, 43, 44, 46, 47, 58, 61, 63, 59, 33, 42, 35, 64, 36, 95, 37]

theorem any_take (r : Int) (l : List Int) (k : Nat) (h : k < l.length) : ((l.take (k + 1)).any fun c => decide (c = r)) = (((l.take k).any fun c => decide (c = r)) || decide (l.getD k 0 = r)) := by
  have e : l.getD k 0 = l[k] := by simp [h]
  rw [List.take_succ_eq_append_getElem h, e, List.any_append, List.any_cons, List.any_nil, Bool.or_false]

theorem any_yes (r : Int) (l : List Int) (k : Nat) (h : k < l.length) (he : l.getD k 0 = r) : (l.any fun c => decide (c = r)) = true := by
  have e : l.getD k 0 = l[k] := by simp [h]
  rw [List.any_eq_true]
  exact ⟨l[k], List.getElem_mem h, by rw [← e, he]; simp⟩

set_option maxHeartbeats 2000000 in
theorem refPubid_else (r : Int) (w : World) (h : amongB r pubT = false) :
    Calls Try.prog 74 #[.int .i32 r] w fun e w' => e = .returned (.bool (markB r)) ∧ Below w.heap.size w w' := by
  simp [amongB, pubT] at h
  have HL := Lib.hid (show ∀ w, Calls Try.prog 90 #[.int .i32 r] w fun e w' => e = .returned (.bool false) ∧ w = w' from fun w => by
    have := letter_any r w
    rwa [show decide ((97 ≤ r ∧ r ≤ 122) ∨ (65 ≤ r ∧ r ≤ 90)) = false by simp; omega] at this)
  have HI := Lib.hid (is_no (r := r) (lo := 48) (hi := 57) (by omega))
  have e1 : (r == 32) = false := by simp; omega
  have e2 : (r == 13) = false := by simp; omega
  have e3 : (r == 10) = false := by simp; omega
  have HAT := Lib.hid (show ∀ w : World, AtCells (w.alloc (.cells (markL.map (Value.int .i32)).toArray 21)) (some ⟨w.heap.size, 0, none⟩) (markL.map (Value.int .i32)) from fun w =>
    AtCells.of_owns (World.ownsRow_lit (base := w.heap.size) (e := 21) (size := 1) w (markL.map (Value.int .i32)).toArray 19 (Nat.le_refl _) (by unfold maxLen; omega) (by simp [markL])))
  clear h
  go_enter Try.func74, Try.ntmps74
  go_wp2_with (first
    | (go_at_call 90; refine (HL.out _).mono ?_; rintro e w' ⟨rfl, rfl⟩)
    | (go_at_call 91; refine (HI.out _).mono ?_; rintro e w' ⟨rfl, rfl⟩))
  go_loopw [25] (fun i wr => ∃ k : Nat, k ≤ 19 ∧ i = .int .i64 k ∧ ((markL.take k).any fun c => decide (c = r)) = false ∧ Below (w.heap.size + 1) (w.alloc (.cells (markL.map (Value.int .i32)).toArray 21)) wr) (fun i _ => 19 - (intOf i).toNat)
  case atStart => exact ⟨0, Nat.zero_le _, rfl, rfl, Below.refl _ _⟩
  case round =>
    obtain ⟨k, hk, rfl, hno, hbl⟩ := hrel
    have hat : AtCells wr (some ⟨w.heap.size, 0, none⟩) (markL.map (Value.int .i32)) := (HAT.out w).below (by simpa using hbl)
    have hfin : Below w.heap.size w wr := ((Below.refl _ _).alloc (Nat.le_refl _) _).trans (hbl.mono (by omega))
    have hmk : markB r = markL.any fun c => decide (c = r) := rfl
    have hln : markL.length = 19 := rfl
    have HBL := Lib.hid hbl
    have HFIN := Lib.hid hfin
    clear hbl hfin HAT
    have hl : k < 19 → k < markL.length := fun h => by rw [hln]; exact h
    by_cases hlt : k < 19
    · obtain ⟨b, off, hb, hc⟩ := hat.int (hl hlt)
      simp only [Option.some.injEq, Addr.mk.injEq] at hb
      obtain ⟨rfl, rfl, _⟩ := hb
      have hst := any_take r markL k (hl hlt)
      have hye := any_yes r markL k (hl hlt)
      rw [← hmk] at hye
      rw [hno] at hst
      obtain ⟨z, hz⟩ : ∃ z, z = markL.getD k 0 := ⟨_, rfl⟩
      rw [← hz] at hc hst hye
      have HST := Lib.hid hst
      have HYE := Lib.hid hye
      clear hst hye hno hl hln hmk hz hat
      rw [Nat.zero_add] at hc
      by_cases he : z = r
      · have HQ := Lib.hid he
        have eb : (z == r) = true := by simp [he]
        clear he
        go_wp2
        go_ret
        exact ⟨by rw [HYE.out HQ.out]; rfl, HFIN.out⟩
      · have HQ := Lib.hid he
        have eb : (z == r) = false := by simp [he]
        clear he
        go_wp2
        go_roundw
        case rel => exact ⟨k + 1, by omega, by go_num, by rw [HST.out]; simp [HQ.out], HBL.out⟩
        case measure => simp [intOf]; omega
    · obtain rfl : k = 19 := by omega
      have HM := Lib.hid (show markB r = false from hno)
      clear hk hlt hno hat hmk hln hl
      go_wp2
      go_ret
      exact ⟨by rw [HM.out]; rfl, HFIN.out⟩

set_option maxHeartbeats 1000000 in
theorem refPubid_yes (r : Int) (w : World) (h : amongB r pubT = true) :
    Calls Try.prog 74 #[.int .i32 r] w fun e w' => e = .returned (.bool true) ∧ w = w' := by
  simp [amongB, pubT] at h
  have HH := Lib.hid h
  clear h
  go_enter Try.func74, Try.ntmps74
  go_wp2_with (first
    | (go_at_call 90; refine (letter_any _ _).mono ?_; rintro e w' ⟨rfl, rfl⟩)
    | (go_at_call 91; refine (is_dec _ _ _ _).mono ?_; rintro e w' ⟨rfl, rfl⟩))
  all_goals first
    | (go_ret; exact ⟨rfl, rfl⟩)
    | (exfalso; have h := HH.out; simp only [beq_iff_eq, beq_eq_false_iff_ne, ne_eq, not_or] at *; omega)

theorem refPubid_any (r : Int) (w : World) :
    Calls Try.prog 74 #[.int .i32 r] w fun e w' => e = .returned (.bool (pubidB r)) ∧ Below w.heap.size w w' := by
  cases hs : amongB r pubT
  · rw [show pubidB r = markB r by simp [pubidB, hs]]
    exact refPubid_else r w hs
  · rw [show pubidB r = true by simp [pubidB, hs]]
    exact (refPubid_yes r w hs).mono fun e w' h => ⟨h.1, h.2 ▸ Below.refl _ _⟩

/-! What is within what. -/
theorem amongB_iff (r : Int) (ps : List (Int × Int)) : amongB r ps = true ↔ ∃ p ∈ ps, p.1 ≤ r ∧ r ≤ p.2 := by
  unfold amongB; rw [List.any_eq_true]; simp

theorem start_name {r : Int} (h : startB r = true) : nameB r = true := by simp [nameB, h]
theorem name_char {r : Int} (h : nameB r = true) : charB r = true := by
  simp [nameB, startB, charB, amongB, startT, moreT, charT] at h ⊢; omega
theorem space_char {r : Int} (h : spaceB r = true) : charB r = true ∧ nameB r = false := by
  simp [spaceB] at h
  rcases h with ((rfl | rfl) | rfl) | rfl <;> decide +kernel
theorem pubid_char {r : Int} (h : pubidB r = true) : charB r = true := by
  simp [pubidB, charB, amongB, pubT, charT, markB] at h ⊢; omega

end Go.Proofs.Ytpjcheelafegbaa
