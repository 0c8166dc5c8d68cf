/-
  Contracts of layer 5: a text's runes, the program's and the reference's.
-/
import Derived.Test.YtlkcnfkfccfhmaaDoorScanG
import Derived.Test.YtlkcnfkfccfhmaaDoorScanH
import Derived.Laws.IdiomStrings
import Derived.Lib.ConvBytes
namespace Go.Proofs.YtlkcnfkfccfhmaaDoor
open Go.RowKit
set_option linter.unusedVariables false

theorem bel_bytesWorld (w : World) (e : TypeId) (s : ByteArray) : Below w.heap.size w (Lib.bytesWorld w e s) :=
  ⟨rfl, rfl, rfl, by rw [Lib.bytesWorld_size]; omega, fun k hk => Lib.bytesWorld_at_old w e s k hk⟩

theorem owns_lower {w : World} {base base' n : Nat} {e : TypeId} {size : Nat} {v : Value} {xs : List Value} (h : w.ownsRow base e size v n xs) (hb : base' ≤ base) : w.ownsRow base' e size v n xs := by
  obtain ⟨hl, h1 | ⟨g, c, cur, hv, hg, hr⟩⟩ := h
  · exact ⟨hl, .inl h1⟩
  · exact ⟨hl, .inr ⟨g, c, cur, hv, Nat.le_trans hb hg, hr⟩⟩

/-- A text's bytes, as numbers. -/
def numsOf (s : ByteArray) : List Int := U8.nums s.data.toList
theorem numsOf_length (s : ByteArray) : (numsOf s).length = s.size := by
  unfold numsOf U8.nums
  rw [List.length_map, Array.length_toList]; rfl
theorem numsOf_bys (s : ByteArray) : Bys (numsOf s) := by
  intro z hz
  obtain ⟨b, _, rfl⟩ := List.mem_map.1 hz
  have := UInt8.toNat_lt b
  omega
theorem numsOf_str (s : ByteArray) : strOfNums (numsOf s) = s := by
  apply ByteArray.ext
  apply Array.toList_inj.1
  rw [strOfNums_data]
  unfold numsOf U8.nums
  rw [List.map_map]
  conv => rhs; rw [← List.map_id s.data.toList]
  refine List.map_congr_left fun b _ => ?_
  simp
theorem bytes_at (w : World) (e : TypeId) (s : ByteArray) : AtCells (Lib.bytesWorld w e s) (some ⟨w.heap.size, 0, none⟩) ((numsOf s).map (.int .u8)) := by
  intro j u hj
  have hj' : j < s.size := by
    have := (List.getElem?_eq_some_iff.1 hj).1
    rwa [List.length_map, numsOf_length] at this
  refine ⟨w.heap.size, 0, rfl, ?_⟩
  rw [Nat.zero_add, Lib.bytesWorld_cell w e s j hj']
  have hl : j < s.data.toList.length := by rw [Array.length_toList]; exact hj'
  simp only [numsOf, U8.nums, List.map_map, List.getElem?_map, List.getElem?_eq_getElem hl, Option.map_some, Option.some.injEq, Function.comp] at hj
  rw [← hj, List.getD_eq_getElem?_getD, List.getElem?_eq_getElem hl]
  rfl

/-- A text's runes: bytes that are none are -1. -/
def runesS (s : ByteArray) : List Int := (itemsOf s).map (·.1)
/-- Are all of a text's bytes runes? -/
def goodS (s : ByteArray) : Bool := (itemsOf s).all isGood

theorem runesS_length (s : ByteArray) : (runesS s).length ≤ s.size := by rw [runesS, List.length_map]; exact itemsOf_length s

theorem runesFrom_eq (s : ByteArray) : ∀ (fuel pos : Nat) (acc : Array Value), (itemsFrom s fuel pos).all isGood = true →
    (Conv.runesFrom s fuel pos acc).toList = acc.toList ++ ((itemsFrom s fuel pos).map (·.1)).map (Value.int .i32) := by
  intro fuel
  induction fuel with
  | zero => intro pos acc _; simp [Conv.runesFrom, itemsFrom]
  | succ f ih =>
    intro pos acc h
    unfold Conv.runesFrom
    unfold itemsFrom at h ⊢
    by_cases hp : pos < s.size
    · simp only [if_pos hp] at h ⊢
      rw [List.all_cons, Bool.and_eq_true] at h
      rw [ih _ _ h.2]
      have hg : (itemAt s pos).1 = ((Utf8.decode s pos).1 : Int) := by
        have h1 : (itemAt s pos).1 ≠ -1 := by have := h.1; unfold isGood at this; simpa using this
        unfold itemAt pieceR at h1 ⊢
        simp only at h1 ⊢
        split at h1
        · exact absurd rfl h1
        · rename_i hb; rw [if_neg hb]
      simp only [List.map_cons, hg]
      simp
    · simp only [if_neg hp] at h ⊢
      simp

theorem runes_eq {s : ByteArray} (h : goodS s = true) : (Conv.runesFrom s s.size 0 #[]).toList = (runesS s).map (Value.int .i32) := by
  have := runesFrom_eq s s.size 0 #[] h
  simpa [runesS, itemsOf] using this

/-- The runes that the program goes by: none, if some bytes are no rune. -/
def rowL (s : ByteArray) : List Int := if goodS s then runesS s else []

end Go.Proofs.YtlkcnfkfccfhmaaDoor
