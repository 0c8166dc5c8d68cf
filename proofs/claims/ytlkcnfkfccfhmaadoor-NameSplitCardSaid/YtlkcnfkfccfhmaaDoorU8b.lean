/-
  Plain mathematics: how the model reads a rune of bytes, and the chapter's pieces: the same. No program in it.
-/
import Derived.Test.YtlkcnfkfccfhmaaDoorU8
import Derived.Lib.DecodeN
import Derived.Lib.Strings
import Derived.Lib.IndexBytes
import Derived.Lib.RuneCount
namespace Go.Proofs.YtlkcnfkfccfhmaaDoor
namespace U8
set_option linter.unusedVariables false

/-- The bytes b0 b1 .. (n of them are there) begin with r's. -/
def Pre (r : Int) (n b0 b1 b2 b3 : Nat) : Prop :=
  (width r = 1 ∧ r = b0) ∨ (width r = 2 ∧ 2 ≤ n ∧ 192 + r / 64 = b0 ∧ 128 + r % 64 = b1) ∨
  (width r = 3 ∧ 3 ≤ n ∧ 224 + r / 4096 = b0 ∧ 128 + r / 64 % 64 = b1 ∧ 128 + r % 64 = b2) ∨
  (width r = 4 ∧ 4 ≤ n ∧ 240 + r / 262144 = b0 ∧ 128 + r / 4096 % 64 = b1 ∧ 128 + r / 64 % 64 = b2 ∧ 128 + r % 64 = b3)

theorem width_eq_one {r : Int} : width r = 1 ↔ 0 ≤ r ∧ r < 128 := by unfold width; (repeat' split) <;> omega
theorem width_eq_two {r : Int} : width r = 2 ↔ 128 ≤ r ∧ r < 2048 := by unfold width; (repeat' split) <;> omega
theorem width_eq_three {r : Int} : width r = 3 ↔ 2048 ≤ r ∧ r < 65536 ∧ ¬ (55296 ≤ r ∧ r ≤ 57343) := by unfold width; (repeat' split) <;> omega
theorem width_eq_four {r : Int} : width r = 4 ↔ 65536 ≤ r ∧ r ≤ 1114111 := by unfold width; (repeat' split) <;> omega

set_option maxHeartbeats 4000000 in
theorem dec_of_pre {r : Int} {n b0 b1 b2 b3 : Nat} (h0 : b0 < 256) (h1 : b1 < 256) (h2 : b2 < 256) (h3 : b3 < 256) (h : Pre r n b0 b1 b2 b3) :
    ((Lib.decodeN n b0 b1 b2 b3).1 : Int) = r ∧ ((Lib.decodeN n b0 b1 b2 b3).2 : Int) = width r := by
  rcases h with ⟨w, h⟩ | ⟨w, hn, ha, hb⟩ | ⟨w, hn, ha, hb, hc⟩ | ⟨w, hn, ha, hb, hc, hd⟩
  · rw [w]; rw [width_eq_one] at w
    unfold Lib.decodeN
    rw [if_pos (by omega)]; simp only; omega
  · rw [w]; rw [width_eq_two] at w
    unfold Lib.decodeN
    rw [if_neg (by omega), if_pos (by omega), if_pos (by omega)]; simp only; omega
  · rw [w]; rw [width_eq_three] at w
    unfold Lib.decodeN
    rw [if_neg (by omega), if_neg (by omega), if_pos (by omega), if_pos (by omega)]; simp only; omega
  · rw [w]; rw [width_eq_four] at w
    unfold Lib.decodeN
    rw [if_neg (by omega), if_neg (by omega), if_neg (by omega), if_pos (by omega), if_pos (by omega)]; simp only; omega

set_option maxHeartbeats 4000000 in
theorem pre_of_dec {n b0 b1 b2 b3 : Nat} (hn : 1 ≤ n) (h0 : b0 < 256) (h1 : b1 < 256) (h2 : b2 < 256) (h3 : b3 < 256) :
    ((Lib.decodeN n b0 b1 b2 b3).1 = 65533 ∧ (Lib.decodeN n b0 b1 b2 b3).2 = 1) ∨
    (Pre ((Lib.decodeN n b0 b1 b2 b3).1 : Int) n b0 b1 b2 b3 ∧ ((Lib.decodeN n b0 b1 b2 b3).2 : Int) = width ((Lib.decodeN n b0 b1 b2 b3).1 : Int)) := by
  unfold Lib.decodeN
  split
  · right
    have w : width (b0 : Int) = 1 := width_eq_one.2 (by omega)
    exact ⟨.inl ⟨w, rfl⟩, w.symm⟩
  · split
    · split
      · right
        have w : width ((b0 % 32 * 64 + b1 % 64 : Nat) : Int) = 2 := width_eq_two.2 (by omega)
        exact ⟨.inr (.inl ⟨w, by omega, by omega, by omega⟩), w.symm⟩
      · exact .inl ⟨rfl, rfl⟩
    · split
      · split
        · right
          have w : width ((b0 % 16 * 4096 + b1 % 64 * 64 + b2 % 64 : Nat) : Int) = 3 := width_eq_three.2 (by omega)
          exact ⟨.inr (.inr (.inl ⟨w, by omega, by omega, by omega, by omega⟩)), w.symm⟩
        · exact .inl ⟨rfl, rfl⟩
      · split
        · split
          · right
            have w : width ((b0 % 8 * 262144 + b1 % 64 * 4096 + b2 % 64 * 64 + b3 % 64 : Nat) : Int) = 4 := width_eq_four.2 (by omega)
            exact ⟨.inr (.inr (.inr ⟨w, by omega, by omega, by omega, by omega, by omega⟩)), w.symm⟩
          · exact .inl ⟨rfl, rfl⟩
        · exact .inl ⟨rfl, rfl⟩

/-- The bytes of a string, as numbers. -/
def nums (l : List UInt8) : List Int := l.map fun b => (b.toNat : Int)

theorem nums_at (l : List UInt8) (j : Nat) : (nums l)[j]? = (l[j]?).map fun b => (b.toNat : Int) := by simp [nums]

/-- The byte at a place, where there is one. -/
theorem at_get (s : ByteArray) (i j : Nat) (h : i + j < s.size) : (nums (s.data.toList.drop i))[j]? = some ((s.get! (i + j)).toNat : Int) := by
  have h' : i + j < s.data.size := h
  have e : s.get! (i + j) = s.data[i + j] := by
    show s.data[i + j]! = _
    rw [getElem!_pos s.data (i + j) h']
  rw [nums_at, List.getElem?_drop, e]
  simp
  exact ⟨_, Array.getElem?_eq_getElem h', rfl⟩
theorem at_none (s : ByteArray) (i j : Nat) (h : ¬ i + j < s.size) : (nums (s.data.toList.drop i))[j]? = none := by
  have h' : ¬ i + j < s.data.size := h
  rw [nums_at, List.getElem?_drop, List.getElem?_eq_none (by simp; omega)]
  rfl

theorem prefix1 {a : Int} {l : List Int} : [a] <+: l ↔ l[0]? = some a := by
  cases l with
  | nil => simp
  | cons x l => simp [List.cons_prefix_cons, eq_comm]
theorem prefix_cons {a : Int} {t l : List Int} : (a :: t) <+: l ↔ l[0]? = some a ∧ t <+: l.drop 1 := by
  cases l with
  | nil => simp
  | cons x l => simp [List.cons_prefix_cons, eq_comm]
theorem prefix2 {a b : Int} {l : List Int} : [a, b] <+: l ↔ l[0]? = some a ∧ l[1]? = some b := by
  rw [prefix_cons, prefix1]; simp
theorem prefix3 {a b c : Int} {l : List Int} : [a, b, c] <+: l ↔ l[0]? = some a ∧ l[1]? = some b ∧ l[2]? = some c := by
  rw [prefix_cons, prefix2]; simp
theorem prefix4 {a b c d : Int} {l : List Int} : [a, b, c, d] <+: l ↔ l[0]? = some a ∧ l[1]? = some b ∧ l[2]? = some c ∧ l[3]? = some d := by
  rw [prefix_cons, prefix3]; simp

theorem some_at (s : ByteArray) (i j : Nat) (x : Int) : (nums (s.data.toList.drop i))[j]? = some x ↔ i + j < s.size ∧ x = (s.get! (i + j)).toNat := by
  by_cases h : i + j < s.size
  · rw [at_get s i j h]; simp [h, eq_comm]
  · rw [at_none s i j h]; simp [h]

/-- 'Pre' of a string's bytes from a place on says: these begin with the rune's bytes. -/
theorem pre_iff (s : ByteArray) (i : Nat) (hi : i < s.size) (r : Int) (hw : width r ≠ 0) :
    Pre r (s.size - i) (s.get! i).toNat (s.get! (i + 1)).toNat (s.get! (i + 2)).toNat (s.get! (i + 3)).toNat ↔ enc r <+: nums (s.data.toList.drop i) := by
  unfold Pre
  rcases width_cases r with w | w | w | w | w
  · exact absurd w hw
  · rw [enc_one w, prefix1, some_at, w]; simp; omega
  · rw [enc_two w, prefix2, some_at, some_at, w]; simp; omega
  · rw [enc_three w, prefix3, some_at, some_at, some_at, w]; simp; omega
  · rw [enc_four w, prefix4, some_at, some_at, some_at, some_at, w]; simp; omega

/-- The piece at the beginning of bytes, as the chapter says: a rune's bytes, if they begin with such; else one byte, which is Bad. -/
def IsPiece (l : List Int) (r n : Int) : Prop :=
  (width r = n ∧ n ≠ 0 ∧ enc r <+: l) ∨ (r = -1 ∧ n = 1 ∧ ∀ x, width x ≠ 0 → ¬ enc x <+: l)

theorem byte_lt (s : ByteArray) (i : Nat) : (s.get! i).toNat < 256 := UInt8.toNat_lt _

theorem decode_of_prefix (s : ByteArray) (i : Nat) (hi : i < s.size) (r : Int) (hw : width r ≠ 0) (h : enc r <+: nums (s.data.toList.drop i)) :
    ((Utf8.decode s i).1 : Int) = r ∧ ((Utf8.decode s i).2 : Int) = width r := by
  rw [Lib.decode_at]
  exact dec_of_pre (byte_lt _ _) (byte_lt _ _) (byte_lt _ _) (byte_lt _ _) ((pre_iff s i hi r hw).2 h)

theorem prefix_of_decode (s : ByteArray) (i : Nat) (hi : i < s.size) :
    ((Utf8.decode s i).1 = 65533 ∧ (Utf8.decode s i).2 = 1) ∨
    (width ((Utf8.decode s i).1 : Int) ≠ 0 ∧ enc ((Utf8.decode s i).1 : Int) <+: nums (s.data.toList.drop i) ∧ ((Utf8.decode s i).2 : Int) = width ((Utf8.decode s i).1 : Int)) := by
  have h := pre_of_dec (n := s.size - i) (by omega) (byte_lt s i) (byte_lt s (i + 1)) (byte_lt s (i + 2)) (byte_lt s (i + 3))
  rw [← Lib.decode_at] at h
  rcases h with h | ⟨h, hk⟩
  · exact .inl h
  · have hw : width ((Utf8.decode s i).1 : Int) ≠ 0 := by
      rcases h with ⟨h, _⟩ | ⟨h, _⟩ | ⟨h, _⟩ | ⟨h, _⟩ <;> omega
    exact .inr ⟨hw, (pre_iff s i hi _ hw).1 h, hk⟩

theorem nums_prefix (p l : List UInt8) : nums p <+: nums l ↔ p <+: l := by
  induction p generalizing l with
  | nil => simp [nums]
  | cons a p ih =>
    cases l with
    | nil => simp [nums]
    | cons b l =>
      have := ih l
      simp only [nums, List.map_cons, List.cons_prefix_cons] at *
      rw [this]
      constructor
      · rintro ⟨h, k⟩; exact ⟨UInt8.toNat_inj.1 (by omega), k⟩
      · rintro ⟨rfl, k⟩; exact ⟨rfl, k⟩

theorem hasPrefix_fffd (l : List UInt8) : Lib.hasPrefix l [239, 191, 189] = true ↔ enc 65533 <+: nums l := by
  have e : enc 65533 = nums [239, 191, 189] := by decide
  rw [e, nums_prefix, Lib.hasPrefix, List.isPrefixOf_iff_prefix]

theorem isPiece_unique {l : List Int} {r n r' n' : Int} (h : IsPiece l r n) (h' : IsPiece l r' n') : r = r' ∧ n = n' := by
  have key : ∀ x y, width x ≠ 0 → width y ≠ 0 → enc x <+: l → enc y <+: l → x = y := by
    intro x y hx hy px py
    rcases width_cases x with w | w | w | w | w
    · exact absurd w hx
    all_goals
      rcases width_cases y with v | v | v | v | v
      · exact absurd v hy
      all_goals
        first
          | (rw [enc_one w, prefix1] at px; rw [width_eq_one] at w)
          | (rw [enc_two w, prefix2] at px; rw [width_eq_two] at w)
          | (rw [enc_three w, prefix3] at px; rw [width_eq_three] at w)
          | (rw [enc_four w, prefix4] at px; rw [width_eq_four] at w)
        first
          | (rw [enc_one v, prefix1] at py; rw [width_eq_one] at v)
          | (rw [enc_two v, prefix2] at py; rw [width_eq_two] at v)
          | (rw [enc_three v, prefix3] at py; rw [width_eq_three] at v)
          | (rw [enc_four v, prefix4] at py; rw [width_eq_four] at v)
        simp_all
        try omega
  rcases h with ⟨h1, h2, h3⟩ | ⟨rfl, rfl, h⟩
  · rcases h' with ⟨k1, k2, k3⟩ | ⟨rfl, rfl, k⟩
    · obtain rfl := key r r' (by omega) (by omega) h3 k3
      exact ⟨rfl, by omega⟩
    · exact absurd h3 (k r (by omega))
  · rcases h' with ⟨k1, k2, k3⟩ | ⟨rfl, rfl, k⟩
    · exact absurd k3 (h r' (by omega))
    · exact ⟨rfl, rfl⟩

end U8
end Go.Proofs.YtlkcnfkfccfhmaaDoor
