/-
  Contracts of layer 4: a table of pairs asked, and the reference's range.
-/
import Derived.Test.YtbljgoieieoamaaRows
import Derived.Test.YtbljgoieieoamaaRows0
import Derived.WalkKit
import Derived.WalkSpells
import Derived.Lib.Hide
namespace Go.Proofs.Ytbljgoieieoamaa
open Go.RowKit

/-- Does a range of a row of ranges have a number? -/
def amongB (r : Int) (ps : List (Int × Int)) : Bool := ps.any fun p => decide (p.1 ≤ r) && decide (r ≤ p.2)
def pairCells (ps : List (Int × Int)) : List Value := ps.flatMap fun p => [.int .i32 p.1, .int .i32 p.2]

theorem amongB_snoc (r : Int) (ps : List (Int × Int)) (k : Nat) (h : k < ps.length) : amongB r (ps.take (k + 1)) = (amongB r (ps.take k) || (decide ((ps.getD k (0, 0)).1 ≤ r) && decide (r ≤ (ps.getD k (0, 0)).2))) := by
  have e : ps.getD k (0, 0) = ps[k] := by simp [h]
  rw [List.take_succ_eq_append_getElem h, e]
  unfold amongB
  rw [List.any_append, List.any_cons, List.any_nil, Bool.or_false]

theorem amongB_true (r : Int) (ps : List (Int × Int)) (k : Nat) (h : k < ps.length) (h1 : (ps.getD k (0, 0)).1 ≤ r) (h2 : r ≤ (ps.getD k (0, 0)).2) : amongB r ps = true := by
  unfold amongB
  rw [List.any_eq_true]
  have e : ps.getD k (0, 0) = ps[k] := by simp [h]
  rw [e] at h1 h2
  exact ⟨ps[k], List.getElem_mem h, by simp [h1, h2]⟩

theorem pairCells_at {l : List (Int × Int)} {k : Nat} {x : Int × Int} (h : l[k]? = some x) :
    (pairCells l)[k * 2]? = some (.int .i32 x.1) ∧ (pairCells l)[k * 2 + 1]? = some (.int .i32 x.2) := by
  induction l generalizing k with
  | nil => simp at h
  | cons y l ih =>
    have e : pairCells (y :: l) = .int .i32 y.1 :: .int .i32 y.2 :: pairCells l := rfl
    rw [e]
    cases k with
    | zero => simp at h; subst h; simp
    | succ k =>
      simp at h
      obtain ⟨a, b⟩ := ih h
      have e1 : (k + 1) * 2 = k * 2 + 1 + 1 := by omega
      rw [e1]
      exact ⟨by simpa using a, by simpa using b⟩

theorem pair_cells {w : World} {a : Option Addr} {l : List (Int × Int)} (hat : AtCells w a (pairCells l)) {k : Nat} {x : Int × Int} (h : l[k]? = some x) :
    ∃ b off, a = some ⟨b, off, none⟩ ∧ w.cell? ⟨b, off + k * 2, none⟩ = some (.int .i32 x.1) ∧ w.cell? ⟨b, off + k * 2 + 1, none⟩ = some (.int .i32 x.2) := by
  obtain ⟨h0, h1⟩ := pairCells_at h
  obtain ⟨b, off, rfl, c0⟩ := hat _ _ h0
  obtain ⟨b1, off1, e1, c1⟩ := hat _ _ h1
  simp only [Option.some.injEq, Addr.mk.injEq] at e1
  obtain ⟨rfl, rfl, _⟩ := e1
  exact ⟨b, off, rfl, c0, by rw [Nat.add_assoc]; exact c1⟩

set_option maxHeartbeats 1000000 in
theorem among_any (r : Int) (a : Option Addr) (n cap : Nat) (ps : List (Int × Int)) (w : World) (hn : ps.length = n) (hbig : n ≤ 1000) (hat : AtCells w a (pairCells ps)) :
    Calls Try.prog 74 #[.int .i32 r, .slice a n cap] w fun e w' => e = .returned (.bool (amongB r ps)) ∧ Below w.heap.size w w' := by
  have HN := Lib.hid hn
  have HAT := Lib.hid hat
  clear hn hat
  go_enter Try.func74, Try.ntmps74
  go_wp2
  go_loopw [9] (fun i wr => ∃ k : Nat, k ≤ n ∧ i = .int .i64 k ∧ amongB r (ps.take k) = false ∧ Below w.heap.size w wr) (fun i _ => n - (intOf i).toNat)
  case atStart => exact ⟨0, Nat.zero_le _, rfl, rfl, Below.refl _ _⟩
  case round =>
    obtain ⟨k, hk, rfl, hno, hbl⟩ := hrel
    by_cases hlt : k < n
    · have hl : k < ps.length := by rw [HN.out]; exact hlt
      obtain ⟨x, hx⟩ : ∃ x, x = ps.getD k (0, 0) := ⟨_, rfl⟩
      have hx' : ps[k]? = some x := by rw [hx]; simp [hl]
      obtain ⟨b, off, rfl, c0, c1⟩ := pair_cells (HAT.out.below hbl) hx'
      have hsn := amongB_snoc r ps k hl
      have htr := amongB_true r ps k hl
      rw [← hx] at hsn htr
      rw [hno] at hsn
      obtain ⟨lo, hi⟩ := x
      simp only at c0 c1 hsn htr
      have HSN := Lib.hid hsn
      have HTR := Lib.hid htr
      have HNO := Lib.hid hno
      have hsz := hbl.size
      have HB := Lib.hid (hbl.alloc hsz (.cells #[.int .i32 lo, .int .i32 hi] 103))
      clear hx hx' hl hno hsn htr hbl
      by_cases h1 : lo ≤ r
      · by_cases h2 : r ≤ hi
        · go_wp2
          go_ret
          exact ⟨by rw [HTR.out h1 h2]; rfl, HB.out⟩
        · have HF := Lib.hid h2
          have h2' : hi < r := by omega
          clear h2
          go_wp2
          go_roundw
          case rel => exact ⟨k + 1, by omega, by go_num, by rw [HSN.out]; simp [HF.out], HB.out⟩
          case measure => simp [intOf]; omega
      · have HF := Lib.hid h1
        have h1' : r < lo := by omega
        clear h1
        go_wp2
        go_roundw
        case rel => exact ⟨k + 1, by omega, by go_num, by rw [HSN.out]; simp [HF.out], HB.out⟩
        case measure => simp [intOf]; omega
    · obtain rfl : k = n := by omega
      have HT := Lib.hid (show ps.take k = ps from List.take_of_length_le (by have := HN.out; omega))
      rw [HT.out] at hno
      have HNO := Lib.hid hno
      clear hk hlt hno
      go_wp2
      go_ret
      exact ⟨by rw [HNO.out]; rfl, hbl⟩

/-- A table that was just laid. -/
theorem among_lit (r : Int) (ps : List (Int × Int)) (n : Nat) (w : World) (hn : ps.length = n) (hbig : n ≤ 1000) :
    Calls Try.prog 74 #[.int .i32 r, .slice (some ⟨w.heap.size, 0, none⟩) n n] (w.alloc (.cells (pairCells ps).toArray 103)) fun e w' => e = .returned (.bool (amongB r ps)) ∧ Below w.heap.size w w' := by
  have hl : (pairCells ps).length = n * 2 := by
    subst hn; clear hbig
    induction ps with
    | nil => rfl
    | cons y l ih => simp only [pairCells, List.flatMap_cons, List.length_append, List.length_cons] at *; rw [ih]; simp; omega
  refine (among_any r _ n n ps _ hn hbig (AtCells.of_owns (World.ownsRow_lit (base := w.heap.size) (e := 103) (size := 2) w (pairCells ps).toArray n (Nat.le_refl _) (by unfold maxLen; omega) (by simp [hl])))).mono ?_
  rintro e w' ⟨rfl, hb⟩
  exact ⟨rfl, ((Below.refl _ _).alloc (Nat.le_refl _) _).trans (hb.mono (by simp))⟩

/-- Is a number in a range? -/
def isB (r lo hi : Int) : Bool := decide (lo ≤ r) && decide (r ≤ hi)

set_option maxHeartbeats 400000 in
theorem is_any (r lo hi : Int) (w : World) :
    Calls Try.prog 75 #[.int .i32 r, .int .i32 lo, .int .i32 hi] w fun e w' => e = .returned (.bool (isB r lo hi)) ∧ w = w' := by
  by_cases h1 : lo ≤ r
  · by_cases h2 : r ≤ hi
    · have HF := Lib.hid (show isB r lo hi = true by simp [isB, h1, h2])
      go_enter Try.func75, Try.ntmps75
      go_wp2
      go_ret
      exact ⟨by rw [HF.out]; first | rfl | (simp; done) | (simp; omega), rfl⟩
    · have HF := Lib.hid (show isB r lo hi = false by simp [isB, h1, h2])
      have h2' : hi < r := by omega
      clear h2
      go_enter Try.func75, Try.ntmps75
      go_wp2
      go_ret
      exact ⟨by rw [HF.out]; first | rfl | (simp; done) | (simp; omega), rfl⟩
  · have HF := Lib.hid (show isB r lo hi = false by simp [isB, h1])
    have h1' : r < lo := by omega
    clear h1
    go_enter Try.func75, Try.ntmps75
    go_wp2
    go_ret
    exact ⟨by rw [HF.out]; first | rfl | (simp; done) | (simp; omega), rfl⟩

end Go.Proofs.Ytbljgoieieoamaa
