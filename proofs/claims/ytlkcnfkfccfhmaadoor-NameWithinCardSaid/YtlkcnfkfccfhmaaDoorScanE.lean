/-
  Plain mathematics: the reference's way to the piece at the beginning of bytes, and that it is the chapter's. No program in it.
-/
import Derived.Test.YtlkcnfkfccfhmaaDoorScanD
import Derived.Lib.SlBytesRow
namespace Go.Proofs.YtlkcnfkfccfhmaaDoor
open Go.RowKit

/-- Numbers that are bytes. -/
def Bys (l : List Int) : Prop := ∀ z ∈ l, 0 ≤ z ∧ z < 256

theorem Bys.at {l : List Int} (h : Bys l) (k : Nat) : 0 ≤ l.getD k 0 ∧ l.getD k 0 < 256 := by
  by_cases hk : k < l.length
  · have : l.getD k 0 ∈ l := by simp [hk]
    exact h _ this
  · have : l.getD k 0 = 0 := by simp; rw [List.getElem?_eq_none (by omega)]; rfl
    omega
theorem Bys.take {l : List Int} (h : Bys l) (k : Nat) : Bys (l.take k) := fun z hz => h z (List.mem_of_mem_take hz)

theorem nums_str {l : List Int} (h : Bys l) : U8.nums (strOfNums l).data.toList = l := by
  rw [strOfNums_data, U8.nums, List.map_map]
  conv => rhs; rw [← List.map_id l]
  refine List.map_congr_left fun z hz => ?_
  have := h z hz
  simp [Function.comp]
  omega

theorem str_inj {l l' : List Int} (h : Bys l) (h' : Bys l') (e : strOfNums l = strOfNums l') : l = l' := by
  rw [← nums_str h, ← nums_str h', e]

def lead (n : Nat) : Int := [0, 0, 192, 224, 240].getD n 0

/-- The number that n bytes would stand for, after i of them. -/
def cand (zs : List Int) (n : Nat) : Nat → Int
  | 0 => 0
  | 1 => zs.getD 0 0 - lead n
  | i + 2 => 64 * cand zs n (i + 1) + zs.getD (i + 1) 0 - 128

theorem lead_bd (n : Nat) : 0 ≤ lead n ∧ lead n ≤ 240 := by
  unfold lead
  match n with
  | 0 | 1 | 2 | 3 | 4 => decide
  | n + 5 => simp

theorem cand_bd {zs : List Int} (hb : Bys zs) (n j : Nat) (h1 : 1 ≤ j) (h4 : j ≤ 4) : -100000000 ≤ cand zs n j ∧ cand zs n j ≤ 100000000 ∧ (j ≤ 3 → -2000000 ≤ cand zs n j ∧ cand zs n j ≤ 2000000) := by
  have hl := lead_bd n
  have b0 := hb.at 0
  have b1 := hb.at 1
  have b2 := hb.at 2
  have b3 := hb.at 3
  have e1 : cand zs n 1 = zs.getD 0 0 - lead n := rfl
  have e2 : cand zs n 2 = 64 * cand zs n 1 + zs.getD 1 0 - 128 := rfl
  have e3 : cand zs n 3 = 64 * cand zs n 2 + zs.getD 2 0 - 128 := rfl
  have e4 : cand zs n 4 = 64 * cand zs n 3 + zs.getD 3 0 - 128 := rfl
  obtain rfl | rfl | rfl | rfl : j = 1 ∨ j = 2 ∨ j = 3 ∨ j = 4 := by omega
  all_goals omega

theorem cand_step (zs : List Int) (n j : Nat) (h : 1 ≤ j) : cand zs n (j + 1) = 64 * cand zs n j + zs.getD j 0 - 128 := by
  obtain ⟨i, rfl⟩ : ∃ i, j = i + 1 := ⟨j - 1, by omega⟩
  rfl

theorem enc_bys (v : Int) : Bys (U8.enc v) := U8.enc_byte v

theorem piece_of_ok {zs : List Int} (hb : Bys zs) {v : Int} {k : Nat} (h1 : 1 ≤ k) (hk : k ≤ zs.length) (h : strOfNums (U8.enc v) = strOfNums (zs.take k)) : U8.IsPiece zs v k := by
  have e := str_inj (enc_bys v) (hb.take k) h
  have hl := U8.enc_length v
  rw [e, List.length_take, Nat.min_eq_left hk] at hl
  exact .inl ⟨hl.symm, by omega, by rw [e]; exact List.take_prefix k zs⟩

theorem getD_of_some {zs : List Int} {j : Nat} {x : Int} (h : zs[j]? = some x) : zs.getD j 0 = x := by simp [h]

theorem cand_of_prefix {zs : List Int} {x : Int} (hx : U8.width x ≠ 0) (h : U8.enc x <+: zs) :
    ∃ k : Nat, 1 ≤ k ∧ k ≤ 4 ∧ k ≤ zs.length ∧ cand zs k k = x ∧ U8.enc x = zs.take k := by
  have hl := U8.enc_length x
  have hbd := U8.width_bd x
  have hle := h.length_le
  have ht := List.prefix_iff_eq_take.1 h
  refine ⟨(U8.enc x).length, by omega, by omega, hle, ?_, ht⟩
  rcases U8.width_cases x with w | w | w | w | w
  · exact absurd w hx
  · rw [U8.enc_one w, U8.prefix1] at h
    rw [U8.enc_one w]
    have r := U8.range_one w
    show zs.getD 0 0 - 0 = x
    rw [getD_of_some h]; omega
  · rw [U8.enc_two w, U8.prefix2] at h
    rw [U8.enc_two w]
    have r := U8.range_two w
    show 64 * (zs.getD 0 0 - 192) + zs.getD 1 0 - 128 = x
    rw [getD_of_some h.1, getD_of_some h.2]; omega
  · rw [U8.enc_three w, U8.prefix3] at h
    rw [U8.enc_three w]
    have r := U8.range_three w
    show 64 * (64 * (zs.getD 0 0 - 224) + zs.getD 1 0 - 128) + zs.getD 2 0 - 128 = x
    rw [getD_of_some h.1, getD_of_some h.2.1, getD_of_some h.2.2]; omega
  · rw [U8.enc_four w, U8.prefix4] at h
    rw [U8.enc_four w]
    have r := U8.range_four w
    show 64 * (64 * (64 * (zs.getD 0 0 - 240) + zs.getD 1 0 - 128) + zs.getD 2 0 - 128) + zs.getD 3 0 - 128 = x
    rw [getD_of_some h.1, getD_of_some h.2.1, getD_of_some h.2.2.1, getD_of_some h.2.2.2]; omega

/-- Do the first k bytes stand for a rune? -/
def okAt (zs : List Int) (k : Nat) : Prop := 0 ≤ cand zs k k ∧ cand zs k k ≤ 1114111 ∧ strOfNums (U8.enc (cand zs k k)) = strOfNums (zs.take k)

theorem piece_of_none {zs : List Int} (h : ∀ k : Nat, 1 ≤ k → k ≤ 4 → k ≤ zs.length → ¬ okAt zs k) : U8.IsPiece zs (-1) 1 := by
  refine .inr ⟨rfl, rfl, fun x hx hp => ?_⟩
  obtain ⟨k, h1, h4, hl, hc, he⟩ := cand_of_prefix hx hp
  have hr := U8.width_range hx
  exact h k h1 h4 hl ⟨by omega, by omega, by rw [hc, he]⟩

/-- What the library reads at the beginning, with the bytes of at most four, is the piece there. -/
theorem first_piece {zs : List Int} (hb : Bys zs) (h0 : 0 < zs.length) {m : Nat} (hm : m = min zs.length 4) :
    U8.IsPiece zs (pieceR (strOfNums (zs.take m)) (Utf8.decode (strOfNums zs) 0).1) (pieceN (strOfNums (zs.take m)) (Utf8.decode (strOfNums zs) 0).1) := by
  have hs : 0 < (strOfNums zs).size := by rw [strOfNums_size]; exact h0
  obtain ⟨hp, _⟩ := itemAt_piece (strOfNums zs) 0 hs
  rw [List.drop_zero, nums_str hb] at hp
  have hbad : ∀ r, badAt (strOfNums (zs.take m)) r = badAt ((strOfNums zs).extract 0 (strOfNums zs).size) r := fun r => by
    unfold badAt
    rw [Lib.extract_to_end, List.drop_zero]
    congr 2
    rw [Bool.eq_iff_iff, U8.hasPrefix_fffd, U8.hasPrefix_fffd, nums_str hb, nums_str (hb.take m)]
    have e : U8.enc 65533 = [239, 191, 189] := by decide
    rw [e, U8.prefix3, U8.prefix3]
    by_cases h4 : zs.length ≤ 4
    · have : zs.take m = zs := List.take_of_length_le (by omega)
      rw [this]
    · obtain rfl : m = 4 := by omega
      simp
  unfold itemAt at hp
  simp only [pieceR, pieceN, hbad] at hp ⊢
  exact hp

end Go.Proofs.YtlkcnfkfccfhmaaDoor
