/-
  What the pieces of a string are: the chapter's, one behind the other.
-/
import Derived.Test.YtlkcnfkfccfhmaaDoorScanB
import Derived.Test.YtlkcnfkfccfhmaaDoorU8b
namespace Go.Proofs.YtlkcnfkfccfhmaaDoor
open Go.RowKit

theorem itemAt_piece (s : ByteArray) (pos : Nat) (h : pos < s.size) :
    U8.IsPiece (U8.nums (s.data.toList.drop pos)) (itemAt s pos).1 (itemAt s pos).2.2 ∧ (itemAt s pos).2.2 = ((Utf8.decode s pos).2 : Int) := by
  have he : (s.extract pos s.size).data.toList = s.data.toList.drop pos := Lib.extract_to_end s pos
  have hp := U8.hasPrefix_fffd (s.data.toList.drop pos)
  unfold itemAt pieceR pieceN badAt
  rw [he]
  rcases U8.prefix_of_decode s pos h with ⟨h1, h2⟩ | ⟨hw, hpre, hk⟩
  · have hno : ∀ x, U8.width x ≠ 0 → ¬ U8.enc x <+: U8.nums (s.data.toList.drop pos) := by
      intro x hx hpx
      obtain ⟨a, b⟩ := U8.decode_of_prefix s pos h x hx hpx
      rw [h1] at a; rw [h2] at b
      rw [← a] at b
      exact absurd b (by decide)
    have hb : Lib.hasPrefix (s.data.toList.drop pos) [239, 191, 189] = false := by
      cases hh : Lib.hasPrefix (s.data.toList.drop pos) [239, 191, 189] with
      | false => rfl
      | true => exact absurd (hp.1 hh) (hno 65533 (by decide))
    rw [h1, hb, h2]
    exact ⟨.inr ⟨by simp, by simp, hno⟩, by simp⟩
  · have hbad : (decide (((Utf8.decode s pos).1 : Int) = 65533) && !Lib.hasPrefix (s.data.toList.drop pos) [239, 191, 189]) = false := by
      by_cases h5 : ((Utf8.decode s pos).1 : Int) = 65533
      · rw [h5] at hpre; rw [hp.2 hpre]; simp
      · simp [h5]
    rw [hbad]
    exact ⟨.inl ⟨by simp, by simpa using hw, by simpa using hpre⟩, by simpa using hk.symm⟩

/-- Where the k-th piece begins; behind the last one: how many bytes there are. -/
def atOff (l : List (Int × Int × Int)) (size : Int) (k : Nat) : Int := match l[k]? with | some x => x.2.1 | none => size

theorem atOff_some {l : List (Int × Int × Int)} {size : Int} {k : Nat} {x : Int × Int × Int} (h : l[k]? = some x) : atOff l size k = x.2.1 := by simp [atOff, h]
theorem atOff_end (l : List (Int × Int × Int)) (size : Int) : atOff l size l.length = size := by simp [atOff]

/-- What each piece is like. -/
structure Good (size : Int) (x : Int × Int × Int) : Prop where
  one : 1 ≤ x.2.2
  four : x.2.2 ≤ 4
  bad : x.1 = -1 → x.2.2 = 1
  wide : x.1 ≠ -1 → U8.width x.1 = x.2.2
  off : 0 ≤ x.2.1
  fits : x.2.1 + x.2.2 ≤ size

theorem good_itemAt (s : ByteArray) (pos : Nat) (h : pos < s.size) : Good s.size (itemAt s pos) := by
  obtain ⟨hp, _⟩ := itemAt_piece s pos h
  have hlen : (U8.nums (s.data.toList.drop pos)).length = s.size - pos := by unfold U8.nums; rw [List.length_map, List.length_drop, Array.length_toList]; rfl
  have ho : (itemAt s pos).2.1 = (pos : Int) := rfl
  rcases hp with ⟨h1, h2, h3⟩ | ⟨h1, h2, _⟩
  · have hb := U8.width_bd (itemAt s pos).1
    have hl := h3.length_le
    have he := U8.enc_length (itemAt s pos).1
    exact ⟨by omega, by omega, fun hr => by rw [hr] at h1; exact absurd (h1.symm.trans (by decide)) h2, fun _ => h1, by rw [ho]; omega, by rw [ho]; omega⟩
  · exact ⟨by omega, by omega, fun _ => h2, fun hr => absurd h1 hr, by rw [ho]; omega, by rw [ho]; omega⟩

theorem atOff_cons_succ (x : Int × Int × Int) (l : List (Int × Int × Int)) (size : Int) (k : Nat) : atOff (x :: l) size (k + 1) = atOff l size k := by simp [atOff]

theorem itemsFrom_spec (s : ByteArray) : ∀ fuel pos, s.size ≤ pos + fuel → pos ≤ s.size →
    atOff (itemsFrom s fuel pos) s.size 0 = pos ∧ ∀ k x, (itemsFrom s fuel pos)[k]? = some x → Good s.size x ∧ atOff (itemsFrom s fuel pos) s.size (k + 1) = x.2.1 + x.2.2 := by
  intro fuel
  induction fuel with
  | zero =>
    intro pos h1 h2
    refine ⟨by simp [itemsFrom, atOff]; omega, fun k x h => by simp [itemsFrom] at h⟩
  | succ f ih =>
    intro pos h1 h2
    by_cases hp : pos < s.size
    · have hg := good_itemAt s pos hp
      have hk := (itemAt_piece s pos hp).2
      have ho : (itemAt s pos).2.1 = (pos : Int) := rfl
      have hstep : itemsFrom s (f + 1) pos = itemAt s pos :: itemsFrom s f (pos + (Utf8.decode s pos).2) := by simp [itemsFrom, hp]
      have hw := Lib.decode_width_pos s pos hp
      obtain ⟨i1, i2⟩ := ih (pos + (Utf8.decode s pos).2) (by omega) (by have := hg.fits; rw [ho, hk] at this; omega)
      rw [hstep]
      refine ⟨by simp [atOff, ho], fun k x h => ?_⟩
      cases k with
      | zero =>
        simp at h; subst h
        refine ⟨hg, ?_⟩
        rw [atOff_cons_succ, i1, hk, ho]; simp
      | succ k =>
        simp at h
        obtain ⟨g, e⟩ := i2 k x h
        exact ⟨g, by rw [atOff_cons_succ]; exact e⟩
    · rw [itemsFrom_end s _ pos hp]
      exact ⟨by simp [atOff]; omega, fun k x h => by simp at h⟩

theorem itemsOf_spec (s : ByteArray) : atOff (itemsOf s) s.size 0 = 0 ∧ ∀ k x, (itemsOf s)[k]? = some x → Good s.size x ∧ atOff (itemsOf s) s.size k = x.2.1 ∧ atOff (itemsOf s) s.size (k + 1) = x.2.1 + x.2.2 := by
  obtain ⟨h1, h2⟩ := itemsFrom_spec s s.size 0 (by omega) (by omega)
  exact ⟨by simpa [itemsOf] using h1, fun k x h => ⟨(h2 k x h).1, atOff_some h, (h2 k x h).2⟩⟩

theorem itemsFrom_length (s : ByteArray) : ∀ fuel pos, (itemsFrom s fuel pos).length ≤ fuel := by
  intro fuel
  induction fuel with
  | zero => intro pos; simp [itemsFrom]
  | succ f ih =>
    intro pos
    unfold itemsFrom
    split
    · have := ih (pos + (Utf8.decode s pos).2); simp; omega
    · simp
theorem itemsOf_length (s : ByteArray) : (itemsOf s).length ≤ s.size := itemsFrom_length s _ _

/-- The three cells of the k-th piece. -/
theorem itemsCells_at {l : List (Int × Int × Int)} {k : Nat} {x : Int × Int × Int} (h : l[k]? = some x) :
    (itemsCells l)[k * 3]? = some (.int .i32 x.1) ∧ (itemsCells l)[k * 3 + 1]? = some (.int .i64 x.2.1) ∧ (itemsCells l)[k * 3 + 2]? = some (.int .i64 x.2.2) := by
  induction l generalizing k with
  | nil => simp at h
  | cons y l ih =>
    have e : itemsCells (y :: l) = .int .i32 y.1 :: .int .i64 y.2.1 :: .int .i64 y.2.2 :: itemsCells l := rfl
    rw [e]
    cases k with
    | zero => simp at h; subst h; simp
    | succ k =>
      simp at h
      obtain ⟨a, b, c⟩ := ih h
      have e1 : (k + 1) * 3 = k * 3 + 1 + 1 + 1 := by omega
      rw [e1]
      exact ⟨by simpa using a, by simpa using b, by simpa using c⟩

/-- The cells of a row of pieces, where piece k is x. -/
theorem item_cells {w : World} {a : Option Addr} {l : List (Int × Int × Int)} (hat : AtCells w a (itemsCells l)) {k : Nat} {x : Int × Int × Int} (h : l[k]? = some x) :
    ∃ b off, a = some ⟨b, off, none⟩ ∧ w.cell? ⟨b, off + k * 3, none⟩ = some (.int .i32 x.1) ∧ w.cell? ⟨b, off + k * 3 + 1, none⟩ = some (.int .i64 x.2.1) ∧ w.cell? ⟨b, off + k * 3 + 2, none⟩ = some (.int .i64 x.2.2) := by
  obtain ⟨h0, h1, h2⟩ := itemsCells_at h
  obtain ⟨b, off, rfl, c0⟩ := hat _ _ h0
  obtain ⟨b1, off1, e1, c1⟩ := hat _ _ h1
  obtain ⟨b2, off2, e2, c2⟩ := hat _ _ h2
  simp only [Option.some.injEq, Addr.mk.injEq] at e1 e2
  obtain ⟨rfl, rfl, _⟩ := e1
  obtain ⟨rfl, rfl, _⟩ := e2
  exact ⟨b, off, rfl, c0, by rw [Nat.add_assoc]; exact c1, by rw [Nat.add_assoc]; exact c2⟩

end Go.Proofs.YtlkcnfkfccfhmaaDoor
