/-
  Plain mathematics: a rune's bytes by UTF-16, and the pieces of bytes. No program in it.
-/
import Derived.Test.YtmibajofbagphaaDoorU8
namespace Go.Proofs.YtmibajofbagphaaDoor
namespace U16

/-- A unit out of two bytes. -/
def unit (big : Bool) (x y : Int) : Int := if big then 256 * x + y else 256 * y + x
def unitAt (zs : List Int) (big : Bool) (i : Nat) : Int := unit big (zs.getD i 0) (zs.getD (i + 1) 0)

def Byte (zs : List Int) : Prop := ∀ z ∈ zs, 0 ≤ z ∧ z ≤ 255

theorem Byte.at {zs : List Int} (h : Byte zs) (i : Nat) : 0 ≤ zs.getD i 0 ∧ zs.getD i 0 ≤ 255 := by
  by_cases hi : i < zs.length
  · have : zs.getD i 0 ∈ zs := by simp [hi]
    exact h _ this
  · simp [List.getD_eq_getElem?_getD, List.getElem?_eq_none (by omega : zs.length ≤ i)]

theorem unit_bd {big : Bool} {x y : Int} (hx : 0 ≤ x ∧ x ≤ 255) (hy : 0 ≤ y ∧ y ≤ 255) : 0 ≤ unit big x y ∧ unit big x y ≤ 65535 := by
  unfold unit; split <;> omega

/-- The piece that begins at place i, of n bytes. -/
def piece (zs : List Int) (big : Bool) (n i : Nat) : Int × Int :=
  if n < i + 2 then (-1, 1)
  else if unitAt zs big i < 55296 ∨ 57344 ≤ unitAt zs big i then (unitAt zs big i, 2)
  else if unitAt zs big i < 56320 ∧ i + 4 ≤ n ∧ 56320 ≤ unitAt zs big (i + 2) ∧ unitAt zs big (i + 2) < 57344 then (65536 + (unitAt zs big i - 55296) * 1024 + (unitAt zs big (i + 2) - 56320), 4)
  else (-1, 2)

theorem piece_n (zs : List Int) (big : Bool) (n i : Nat) (hi : i < n) : 1 ≤ (piece zs big n i).2 ∧ (piece zs big n i).2 ≤ 4 ∧ (i : Int) + (piece zs big n i).2 ≤ n := by
  unfold piece; repeat' split
  all_goals simp only
  all_goals omega

theorem getD_drop (zs : List Int) (k i : Nat) : (zs.drop k).getD i 0 = zs.getD (k + i) 0 := by simp [List.getD_eq_getElem?_getD, List.getElem?_drop]
theorem unitAt_drop (zs : List Int) (big : Bool) (k i : Nat) : unitAt (zs.drop k) big i = unitAt zs big (k + i) := by
  rw [unitAt, unitAt, getD_drop, getD_drop, Nat.add_assoc]
theorem unitAt_cut (zs : List Int) (big : Bool) (k m : Nat) (hm : 2 ≤ m) : unitAt ((zs.drop k).take m) big 0 = unitAt zs big k := by
  have e : ∀ i, i < m → ((zs.drop k).take m).getD i 0 = zs.getD (k + i) 0 := fun i hi => by
    simp [List.getD_eq_getElem?_getD, List.getElem?_take, hi, List.getElem?_drop]
  rw [unitAt, unitAt, e 0 (by omega), e (0 + 1) (by omega)]
  simp
theorem piece_drop (zs : List Int) (big : Bool) (n k : Nat) (h : k ≤ n) : piece (zs.drop k) big (n - k) 0 = piece zs big n k := by
  unfold piece
  rw [unitAt_drop, unitAt_drop]
  have e1 : (n - k < 0 + 2) = (n < k + 2) := propext ⟨fun h => by omega, fun h => by omega⟩
  have e2 : (0 + 4 ≤ n - k) = (k + 4 ≤ n) := propext ⟨fun h => by omega, fun h => by omega⟩
  simp only [e1, e2, Nat.add_zero, Nat.zero_add]

/-- All pieces from a place on, by at most so many. -/
def itemAt (zs : List Int) (big : Bool) (n pos : Nat) : Int × Int × Int := ((piece zs big n pos).1, (pos : Int), (piece zs big n pos).2)
def itemsFrom (zs : List Int) (big : Bool) (n : Nat) : Nat → Nat → List (Int × Int × Int)
  | 0, _ => []
  | fuel + 1, pos => if pos < n then itemAt zs big n pos :: itemsFrom zs big n fuel (pos + (piece zs big n pos).2.toNat) else []
def items (zs : List Int) (big : Bool) (n : Nat) : List (Int × Int × Int) := itemsFrom zs big n n 0
theorem itemsFrom_end (zs : List Int) (big : Bool) (n fuel pos : Nat) (h : ¬ pos < n) : itemsFrom zs big n fuel pos = [] := by
  cases fuel with
  | zero => rfl
  | succ f => simp [itemsFrom, h]
theorem itemsFrom_step (zs : List Int) (big : Bool) (n fuel pos : Nat) (h : pos < n) (hf : n ≤ pos + fuel) : itemsFrom zs big n fuel pos = itemAt zs big n pos :: itemsFrom zs big n (fuel - 1) (pos + (piece zs big n pos).2.toNat) := by
  obtain ⟨f, rfl⟩ : ∃ f, fuel = f + 1 := ⟨fuel - 1, by omega⟩
  simp [itemsFrom, h]
theorem itemsFrom_length (zs : List Int) (big : Bool) (n : Nat) : ∀ fuel pos, (itemsFrom zs big n fuel pos).length ≤ fuel := by
  intro fuel
  induction fuel with
  | zero => intro pos; simp [itemsFrom]
  | succ f ih =>
    intro pos
    unfold itemsFrom
    split
    · have := ih (pos + (piece zs big n pos).2.toNat); simp; omega
    · simp
theorem items_length (zs : List Int) (big : Bool) (n : Nat) : (items zs big n).length ≤ n := itemsFrom_length zs big n n 0

theorem Byte.drop {zs : List Int} (h : Byte zs) (k : Nat) : Byte (zs.drop k) := fun z hz => h z (List.mem_of_mem_drop hz)
theorem Byte.take {zs : List Int} (h : Byte zs) (k : Nat) : Byte (zs.take k) := fun z hz => h z (List.mem_of_mem_take hz)

/-- How many bytes a rune has. -/
def width (r : Int) : Int := if U8.width r = 4 then 4 else if 0 < U8.width r then 2 else 0

/-- A unit's two bytes. -/
def put (big : Bool) (u : Int) : List Int := if big then [u / 256 % 256, u % 256] else [u % 256, u / 256 % 256]

/-- A rune's bytes. -/
def enc (big : Bool) (r : Int) : List Int :=
  if width r = 2 then put big r else if width r = 4 then put big (55296 + (r - 65536) / 1024) ++ put big (56320 + (r - 65536) % 1024) else []
def encs (big : Bool) (l : List Int) : List Int := l.flatMap (enc big)

theorem width_cases (r : Int) : width r = 0 ∨ width r = 2 ∨ width r = 4 := by unfold width; (repeat' split) <;> omega
theorem width_eq (r : Int) : width r = if r < 0 ∨ (55296 ≤ r ∧ r < 57344) ∨ 1114111 < r then 0 else if r < 65536 then 2 else 4 := by
  unfold width U8.width
  (repeat' split) <;> omega
theorem put_length (big : Bool) (u : Int) : (put big u).length = 2 := by unfold put; split <;> rfl
theorem enc_length (big : Bool) (r : Int) : ((enc big r).length : Int) = width r := by
  unfold enc
  rcases width_cases r with h | h | h
  · simp [h]
  · simp [h, put_length]
  · simp [h, put_length]
theorem encs_snoc (big : Bool) (l : List Int) (r : Int) : encs big (l ++ [r]) = encs big l ++ enc big r := by simp [encs]
theorem encs_length_le (big : Bool) (l : List Int) : (encs big l).length ≤ 4 * l.length := by
  induction l with
  | nil => simp [encs]
  | cons r l ih =>
    have h1 := enc_length big r
    have h2 := width_cases r
    simp only [encs, List.flatMap_cons, List.length_append, List.length_cons] at *
    omega

end U16
end Go.Proofs.YtmibajofbagphaaDoor
