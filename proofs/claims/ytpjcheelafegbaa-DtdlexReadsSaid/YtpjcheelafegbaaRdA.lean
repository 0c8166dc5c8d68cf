/-
  Contracts of the reference's layer 7: Find, Quotes.
-/
import Derived.Test.YtpjcheelafegbaaRefS
import Derived.Test.YtpjcheelafegbaaDxQ
namespace Go.Proofs.Ytpjcheelafegbaa
open Go.RowKit
set_option linter.unusedVariables false

/-- The quote that is open behind some runes. -/
def stq (q : Int) : List Int → Nat → Int
  | _, 0 => q
  | [], _ + 1 => q
  | r :: l, i + 1 => stq (qstep q r) l i
theorem stq_zero (q : Int) (s : List Int) : stq q s 0 = q := by cases s <;> rfl
theorem stq_succ : ∀ (s : List Int) (q : Int) (j : Nat), j < s.length → stq q s (j + 1) = qstep (stq q s j) (s.getD j 0) := by
  intro s
  induction s with
  | nil => intro q j h; simp at h
  | cons r s ih =>
    intro q j h
    cases j with
    | zero => simp [stq]
    | succ j => simpa [stq] using ih (qstep q r) j (by simpa using h)
theorem bareP_at (S : List Int) : ∀ (s : List Int) (q : Int) (k : Nat), (∀ j, j < k → qstop S (stq q s j) (s.getD j 0) = false) → k < s.length → qstop S (stq q s k) (s.getD k 0) = true → bareP S q s = k := by
  intro s
  induction s with
  | nil => intro q k _ h; simp at h
  | cons r s ih =>
    intro q k h1 h2 h3
    cases k with
    | zero => rw [bareP, if_pos (by simpa [stq] using h3)]
    | succ k =>
      have h0 := h1 0 (by omega)
      rw [bareP, if_neg (by simpa [stq] using h0), ih (qstep q r) k (fun j hj => by simpa [stq] using h1 (j + 1) (by omega)) (by simpa using h2) (by simpa [stq] using h3)]
      omega
theorem bareP_none (S : List Int) : ∀ (s : List Int) (q : Int), (∀ j, j < s.length → qstop S (stq q s j) (s.getD j 0) = false) → bareP S q s = s.length := by
  intro s
  induction s with
  | nil => intro q _; rfl
  | cons r s ih =>
    intro q h1
    have h0 := h1 0 (by simp)
    rw [bareP, if_neg (by simpa [stq] using h0), ih (qstep q r) (fun j hj => by simpa [stq] using h1 (j + 1) (by simpa using hj)), List.length_cons]
    omega
theorem qstop_gt (q r : Int) : qstop [62] q r = decide (q = 0 ∧ r = 62) := by
  unfold qstop
  by_cases h : r = 62
  · subst h
    by_cases hq : q = 0 <;> simp [hq]
  · have : ([62] : List Int).contains r = false := by simp [h]
    rw [this]
    simp [h]
theorem dcl_at {s : List Int} {k : Nat} (h1 : ∀ j, j < k → ¬ (stq 0 s j = 0 ∧ s.getD j 0 = 62)) (h2 : k < s.length) (h3 : stq 0 s k = 0 ∧ s.getD k 0 = 62) : dcl 0 s = some (k + 1) := by
  have hb := bareP_at [62] s 0 k (fun j hj => by rw [qstop_gt]; exact decide_eq_false (h1 j hj)) h2 (by rw [qstop_gt]; exact decide_eq_true h3)
  unfold dcl
  rw [hb, if_pos h2]
theorem dcl_none {s : List Int} (h1 : ∀ j, j < s.length → ¬ (stq 0 s j = 0 ∧ s.getD j 0 = 62)) : dcl 0 s = none := by
  have hb := bareP_none [62] s 0 (fun j hj => by rw [qstop_gt]; exact decide_eq_false (h1 j hj))
  unfold dcl
  rw [hb, if_neg (by omega)]
theorem stq_sign : ∀ (s : List Int) (q : Int) (j : Nat), (q = 0 ∨ q = 34 ∨ q = 39) → (stq q s j = 0 ∨ stq q s j = 34 ∨ stq q s j = 39) := by
  intro s
  induction s with
  | nil => intro q j h; cases j <;> exact h
  | cons r s ih =>
    intro q j h
    cases j with
    | zero => exact h
    | succ j =>
      refine ih (qstep q r) j ?_
      unfold qstep
      split
      · split
        · exact .inl rfl
        · exact h
      · split
        · rename_i h2; exact .inr h2
        · exact .inl rfl

/-- Where something stands, as a number; -1: nowhere. -/
def fndV (k : Nat) (o : Option Nat) : Int := match o with | some q => (k : Int) + q | none => -1
/-- The place ahead of where a declaration ends; -1: it does not. -/
def brkV (k : Nat) (o : Option Nat) : Int := match o with | some m => (k : Int) + m - 1 | none => -1

end Go.Proofs.Ytpjcheelafegbaa

namespace Go.Proofs.Ytpjcheelafegbaa
open Go.RowKit
set_option linter.unusedVariables false

set_option maxRecDepth 20000 in
set_option maxHeartbeats 1000000 in
theorem refFindB {b off n cap : Nat} {l : List Int} {W : World} (R : RRow W b off n cap l) (hwf : ∀ j, -2147483648 ≤ l.getD j 0 ∧ l.getD j 0 ≤ 2147483647) (hn : n ≤ 1000) {s : ByteArray} (S : Sign s) (k : Nat) (hk : k ≤ n) {o : Option Nat} (ho : fnd (sg s) (l.drop k) = o) (w : World) (hb : Below W.heap.size W w) :
    Says 69 #[.slice (some ⟨b, off, none⟩) n cap, .int .i64 k, .int .i64 n, .string s] (.int .i64 (fndV k o)) W w := by
  have hs1 := S.pos
  have hs2 := S.small
  have HS := Lib.hid (fun (i : Nat) (hi : i ≤ n) (v : Bool) (hv : sw (sg s) (l.drop i) = v) (w : World) hb => refStartsB R hwf S i hi hv w hb)
  have HLD := Lib.hid (show (l.drop k).length = n - k by rw [List.length_drop, R.len])
  have HSL := Lib.hid (sg_length s)
  have HO := Lib.hid ho
  have HB := Lib.hid hb
  clear R hwf ho hb
  go_enter Try.func69, Try.ntmps69
  go_wp2
  go_loopw [9] (fun i wr => ∃ j i' : Nat, i = .int .i64 i' ∧ Hid (i' = k + j) ∧ i' ≤ n ∧ Hid (Below W.heap.size W wr) ∧ Hid (∀ x, x < j → sw (sg s) ((l.drop k).drop x) = false)) (fun i _ => n - (intOf i).toNat)
  case atStart => exact ⟨0, k, rfl, Lib.hid rfl, hk, HB, Lib.hid (fun x hx => by omega)⟩
  case round =>
    obtain ⟨j, i, rfl, HI, hin, HBL, HJ⟩ := hrel
    by_cases hlt : i + s.size ≤ n
    · have hlt2 : (i : Int) + s.size ≤ n := by omega
      have hdd : (l.drop k).drop j = l.drop i := by rw [dd, HI.out]
      cases hv : sw (sg s) (l.drop i)
      · have HC := Lib.hid (fun w hb => HS.out i hin false hv w hb)
        have HK := Lib.hid (show ∀ x, x < j + 1 → sw (sg s) ((l.drop k).drop x) = false from fun x hx => by
          by_cases h : x = j
          · subst h; rw [hdd]; exact hv
          · exact HJ.out x (by omega))
        clear hv hdd
        go_wp2_with (go_at_call 37; (with_reducible refine (HC.out _ HBL.out).mono ?_); rintro e w1 ⟨rfl, hb1⟩)
        have HB1 := Lib.hid hb1
        clear hb1
        go_roundw
        case rel => exact ⟨j + 1, i + 1, by go_num, Lib.hid (by have := HI.out; omega), by omega, HB1, HK⟩
        case measure => simp [intOf]; omega
      · have HC := Lib.hid (fun w hb => HS.out i hin true hv w hb)
        have HF := Lib.hid (show o = some j by rw [← HO.out]; exact fnd_some _ (by rw [HSL.out]; omega) _ j HJ.out (by rw [hdd]; exact hv))
        clear hv hdd
        go_wp2_with (go_at_call 37; (with_reducible refine (HC.out _ HBL.out).mono ?_); rintro e w1 ⟨rfl, hb1⟩)
        go_ret
        rw [HF.out]
        exact ⟨ret_num (by have := HI.out; unfold fndV; simp only; omega), hb1⟩
    · have hlt2 : (n : Int) < (i : Int) + s.size := by omega
      have HF := Lib.hid (show o = none by rw [← HO.out]; exact fnd_none _ (by rw [HSL.out]; omega) _ (fun x hx => HJ.out x (by rw [HLD.out, HSL.out] at hx; have := HI.out; omega)))
      go_wp2
      go_ret
      rw [HF.out]
      exact ⟨rfl, HBL.out⟩

theorem Try.infoRuneR : (Try.prog.info? 21).map (fun i => (i.zero, i.size, i.bytes)) = some (some (.int .i32 0), 1, 4) := by kernel_rfl

/-- What Quotes answers: at each > the quote that is open there. -/
def QuotesD (w : World) (n k : Nat) (l : List Int) (e : Ending) (w' : World) : Prop :=
  ∃ (g : Nat) (xs : List Int), e = .returned (.slice (some ⟨g, 0, none⟩) n n) ∧ xs.length = n ∧ (∀ x, k + x < n → l.getD (k + x) 0 = 62 → xs.getD (k + x) 0 = stq 0 (l.drop k) x) ∧ AtCells w' (some ⟨g, 0, none⟩) (xs.map (.int .i32)) ∧ Below w.heap.size w w'

theorem owned_at {w : World} {base g n cap : Nat} {e : TypeId} {xs : List Value} (h : w.ownsRow base e 1 (.slice (some ⟨g, 0, none⟩) n cap) n xs) : AtCells w (some ⟨g, 0, none⟩) xs := AtCells.of_owns h

set_option maxRecDepth 20000 in
set_option maxHeartbeats 2000000 in
theorem quotes_any {b off n cap : Nat} {l : List Int} {w : World} (R : RRow w b off n cap l) (hn : n ≤ 1000) (k : Nat) (hk : k ≤ n) :
    Calls Try.prog 87 #[.slice (some ⟨b, off, none⟩) n cap, .int .i64 k] w (QuotesD w n k l) := by
  obtain ⟨i1, hi', hz0', hz1', hz2'⟩ := info_parts Try.infoRuneR
  have HJ := Lib.hid (And.intro hi' (And.intro hz0' (And.intro hz1' hz2')))
  have HM := Lib.hid (show i1.bytes * n ≤ 281474976710656 ∧ n ≤ maxLen by rw [hz2']; unfold maxLen; omega)
  have HN := Lib.hid R.len
  have HAT := Lib.hid R.cells
  have HLD := Lib.hid (show (l.drop k).length = n - k by rw [List.length_drop, R.len])
  clear hi' hz0' hz1' hz2' R
  go_enter Try.func87, Try.ntmps87
  go_wp2_with (at_make; refine wpList_make_full _ rfl _ _ 22 rfl w.heap.size 21 i1 (.int .i32 0) 1 Try.underlying22 HJ.out.1 HJ.out.2.1 HJ.out.2.2.1 .i64 .i64 _ _ n rfl rfl (by go_num) (by go_num) HM.out.1 HM.out.2 (Nat.le_refl _) ?_; intro w1 hown1 hgrow1)
  have hb1 : Below w.heap.size w w1 := (Below.refl _ _).grown hgrow1 (Nat.le_refl _) (fun k hk => by cases hk)
  rw [show (Value.int .i32 0).cells = #[.int .i32 0] from rfl, Nat.mul_one, toList_madeCells_one] at hown1
  have HO := Lib.hid (show w1.ownsRow w.heap.size 21 1 (.slice (some ⟨w.heap.size, 0, none⟩) n n) n ((List.replicate n (0 : Int)).map (Value.int .i32)) ∧ Below w.heap.size w w1 from ⟨by rw [List.map_replicate]; simpa using hown1, hb1⟩)
  clear hb1 hown1 hgrow1
  go_loopw [6, 7] (fun qv i wr => ∃ (j i' : Nat) (q : Int) (xs : List Int), qv = .int .i32 q ∧ i = .int .i64 i' ∧ Hid (i' = k + j) ∧ i' ≤ n ∧ Hid (q = stq 0 (l.drop k) j) ∧ Hid (xs.length = n ∧ wr.ownsRow w.heap.size 21 1 (.slice (some ⟨w.heap.size, 0, none⟩) n n) n (xs.map (Value.int .i32)) ∧ Below w.heap.size w wr) ∧ Hid (∀ x, x < j → l.getD (k + x) 0 = 62 → xs.getD (k + x) 0 = stq 0 (l.drop k) x)) (fun _ i _ => n - (intOf i).toNat)
  case atStart => exact ⟨0, k, 0, List.replicate n 0, rfl, rfl, Lib.hid rfl, hk, Lib.hid (stq_zero _ _).symm, Lib.hid ⟨by simp, HO.out.1, HO.out.2⟩, Lib.hid (fun x hx => by omega)⟩
  case round =>
    obtain ⟨j, i, q, xs, rfl, rfl, HI, hin, HQ, HX, HF⟩ := hrel
    by_cases hlt : i < n
    · have hlt2 : (i : Int) < (n : Int) := by omega
      obtain ⟨b', off', hy, hc1⟩ := (HAT.out.below HX.out.2.2).int (k := i) (by rw [HN.out]; exact hlt)
      simp only [Option.some.injEq, Addr.mk.injEq] at hy
      obtain ⟨rfl, rfl, _⟩ := hy
      obtain ⟨r, hr⟩ : ∃ r, l.getD i 0 = r := ⟨_, rfl⟩
      rw [hr] at hc1
      have hq3 : q = 0 ∨ q = 34 ∨ q = 39 := by rw [HQ.out]; exact stq_sign _ _ _ (.inl rfl)
      have HST := Lib.hid (show stq 0 (l.drop k) (j + 1) = qstep q r by rw [stq_succ _ _ _ (by rw [HLD.out]; have := HI.out; omega), ← HQ.out]; congr 1; rw [← hr, HI.out]; simp)
      have c0 := HX.out.2.1.cellAt i (by omega)
      have hxi : (xs.map (Value.int .i32))[i]? = some (.int .i32 (xs.getD i 0)) := by
        rw [List.getElem?_map, List.getD_eq_getElem?_getD, List.getElem?_eq_getElem (by rw [HX.out.1]; exact hlt)]; rfl
      rw [hxi] at c0
      have f1 := HX.out.2.1.frozenAt i
      have HSET := Lib.hid (show ∀ u : Int, (wr.setCell ⟨w.heap.size, i, none⟩ (.int .i32 u)).ownsRow w.heap.size 21 1 (.slice (some ⟨w.heap.size, 0, none⟩) n n) n ((xs.set i u).map (Value.int .i32)) from fun u => by rw [List.map_set]; exact (HX.out.2.1.stored i (.int .i32 u)).1)
      have HA := Lib.hid (fun (h : r ≠ 62) => show ∀ x, x < j + 1 → l.getD (k + x) 0 = 62 → xs.getD (k + x) 0 = stq 0 (l.drop k) x from fun x hx h62 => by
        by_cases h' : x = j
        · subst h'; rw [← HI.out, hr] at h62; exact absurd h62 h
        · exact HF.out x (by omega) h62)
      have HB := Lib.hid (show ∀ x, x < j + 1 → l.getD (k + x) 0 = 62 → (xs.set i q).getD (k + x) 0 = stq 0 (l.drop k) x from fun x hx h62 => by
        by_cases h' : x = j
        · subst h'
          rw [← HI.out, List.getD_eq_getElem?_getD, List.getElem?_set_self (by rw [HX.out.1]; exact hlt), ← HQ.out]; rfl
        · rw [List.getD_eq_getElem?_getD, List.getElem?_set_ne (by have := HI.out; omega), ← List.getD_eq_getElem?_getD]; exact HF.out x (by omega) h62)
      have hwz : b < wr.heap.size := cell_lt hc1
      clear hr hxi
      by_cases hA : (q = 0 ∧ (r = 34 ∨ r = 39)) ∨ (q ≠ 0 ∧ r = q)
      · have hr62 : r ≠ 62 := by omega
        have HS2 := Lib.hid (show stq 0 (l.drop k) (j + 1) = if q = 0 then r else 0 by
          rw [HST.out]; unfold qstep; rcases hA with ⟨h1, h2⟩ | ⟨h1, h2⟩
          · rw [if_neg (by omega), if_pos h2, if_pos h1]
          · rw [if_pos h1, if_pos h2, if_neg h1])
        have HA2 := Lib.hid (HA.out hr62)
        have hcs : (q = 0 ∧ r = 34) ∨ (q = 0 ∧ r = 39) ∨ (q = 34 ∧ r = 34) ∨ (q = 39 ∧ r = 39) := by omega
        clear hA hr62 hq3
        rcases hcs with ⟨rfl, rfl⟩ | ⟨rfl, rfl⟩ | ⟨rfl, rfl⟩ | ⟨rfl, rfl⟩
        all_goals
          go_wp2
          go_roundw
          case rel => exact ⟨j + 1, i + 1, _, xs, rfl, by go_num, Lib.hid (by have := HI.out; omega), by omega, Lib.hid (by rw [HS2.out]; rfl), HX, HA2⟩
          case measure => simp [intOf]; omega
      · have HS2 := Lib.hid (show stq 0 (l.drop k) (j + 1) = q by
          rw [HST.out]; unfold qstep
          by_cases h0 : q = 0
          · rw [if_neg (by omega), if_neg (by omega), h0]
          · rw [if_pos h0, if_neg (by omega)])
        have hcs : (q = 0 ∧ ¬ r = 34 ∧ ¬ r = 39) ∨ (q = 34 ∧ ¬ r = 34) ∨ (q = 39 ∧ ¬ r = 39) := by omega
        clear hA hq3
        rcases hcs with ⟨rfl, h1, h2⟩ | ⟨rfl, h1⟩ | ⟨rfl, h1⟩
        all_goals
          (try have q1 : (r == 34) = false := by simpa using h1)
          (try have q2 : (r == 39) = false := by simpa using h1)
          (try have q2 : (r == 39) = false := by simpa using h2)
          go_wp2
          go_roundw
          case rel => exact ⟨j + 1, i + 1, _, xs.set i _, rfl, by go_num, Lib.hid (by have := HI.out; omega), by omega, Lib.hid HS2.out.symm, Lib.hid ⟨by rw [List.length_set]; exact HX.out.1, HSET.out _, HX.out.2.2.setCell (p := ⟨w.heap.size, i, none⟩) (Nat.le_refl _) _⟩, HB⟩
          case measure => simp [intOf]; omega
    · obtain rfl : i = n := by omega
      clear hlt
      go_wp2
      go_ret
      exact ⟨w.heap.size, xs, rfl, HX.out.1, fun x hx h62 => HF.out x (by have := HI.out; omega) h62, owned_at HX.out.2.1, HX.out.2.2⟩

set_option maxRecDepth 20000 in
set_option maxHeartbeats 2000000 in
theorem bracketB {b off n cap : Nat} {l : List Int} {W : World} (R0 : RRow W b off n cap l) (hn : n ≤ 1000) (k : Nat) (hk : k ≤ n) {o : Option Nat} (ho : dcl 0 (l.drop k) = o) (w : World) (hb : Below W.heap.size W w) :
    Says 70 #[.slice (some ⟨b, off, none⟩) n cap, .int .i64 k] (.int .i64 (brkV k o)) W w := by
  have R := R0.below hb
  have HC := Lib.hid (quotes_any R hn k hk)
  have HR := Lib.hid R
  have HBW := Lib.hid hb
  have HO := Lib.hid ho
  have HLD := Lib.hid (show (l.drop k).length = n - k by rw [List.length_drop, R.len])
  clear R R0 hb ho
  go_enter Try.func70, Try.ntmps70
  go_wp2_with (go_at_call 87; (with_reducible refine HC.out.mono ?_); rintro e w1 ⟨g, xs, rfl, hxl, hx62, hat, hb1⟩)
  have HB1 := Lib.hid (And.intro hxl (And.intro hx62 (And.intro hat hb1)))
  clear hxl hx62 hat hb1
  go_loopw [6] (fun i wr => ∃ (j i' : Nat), i = .int .i64 i' ∧ Hid (i' = k + j) ∧ i' ≤ n ∧ wr = w1 ∧ Hid (∀ x, x < j → ¬ (stq 0 (l.drop k) x = 0 ∧ (l.drop k).getD x 0 = 62))) (fun i _ => n - (intOf i).toNat)
  case atStart => exact ⟨0, k, rfl, Lib.hid rfl, hk, rfl, Lib.hid (fun x hx => by omega)⟩
  case round =>
    obtain ⟨j, i, rfl, HI, hin, rfl, HJ⟩ := hrel
    by_cases hlt : i < n
    · have hlt2 : (i : Int) < (n : Int) := by omega
      obtain ⟨b', off', hy, hc1⟩ := (HR.out.cells.below HB1.out.2.2.2).int (k := i) (by rw [HR.out.len]; exact hlt)
      simp only [Option.some.injEq, Addr.mk.injEq] at hy
      obtain ⟨rfl, rfl, _⟩ := hy
      obtain ⟨g', go', hy, hc2⟩ := HB1.out.2.2.1.int (k := i) (by rw [HB1.out.1]; exact hlt)
      simp only [Option.some.injEq, Addr.mk.injEq] at hy
      obtain ⟨rfl, rfl, _⟩ := hy
      rw [Nat.zero_add] at hc2
      obtain ⟨r, hr⟩ : ∃ r, l.getD i 0 = r := ⟨_, rfl⟩
      rw [hr] at hc1
      obtain ⟨q, hq⟩ : ∃ q, xs.getD i 0 = q := ⟨_, rfl⟩
      rw [hq] at hc2
      have hdr : (l.drop k).getD j 0 = r := by rw [← hr, HI.out]; simp
      have hst : r = 62 → stq 0 (l.drop k) j = q := fun h => by rw [← hq, HI.out]; exact (HB1.out.2.1 j (by have := HI.out; omega) (by rw [← HI.out, hr]; exact h)).symm
      by_cases hcs : q = 0 ∧ r = 62
      · have HF := Lib.hid (show o = some (j + 1) by rw [← HO.out]; exact dcl_at HJ.out (by rw [HLD.out]; have := HI.out; omega) ⟨by rw [hst hcs.2]; exact hcs.1, by rw [hdr]; exact hcs.2⟩)
        obtain ⟨rfl, rfl⟩ := hcs
        clear hr hq hdr hst
        go_wp2
        go_ret
        rw [HF.out]
        exact ⟨ret_num (by have := HI.out; unfold brkV; simp only; omega), Below.more HBW.out HB1.out.2.2.2⟩
      · have HK := Lib.hid (show ∀ x, x < j + 1 → ¬ (stq 0 (l.drop k) x = 0 ∧ (l.drop k).getD x 0 = 62) from fun x hx => by
          by_cases h : x = j
          · subst h; rw [hdr]; exact fun ⟨h1, h2⟩ => hcs ⟨by rw [← hst h2]; exact h1, h2⟩
          · exact HJ.out x (by omega))
        clear hr hq hdr hst
        by_cases h0 : q = 0
        · subst h0
          have q1 : (r == 62) = false := by simp; omega
          clear hcs
          go_wp2
          go_roundw
          case rel => exact ⟨j + 1, i + 1, by go_num, Lib.hid (by have := HI.out; omega), by omega, by first | rfl | trivial, HK⟩
          case measure => simp [intOf]; omega
        · have q1 : (q == 0) = false := by simpa using h0
          clear hcs
          go_wp2
          go_roundw
          case rel => exact ⟨j + 1, i + 1, by go_num, Lib.hid (by have := HI.out; omega), by omega, by first | rfl | trivial, HK⟩
          case measure => simp [intOf]; omega
    · obtain rfl : i = n := by omega
      have HF := Lib.hid (show o = none by rw [← HO.out]; exact dcl_none (fun x hx => HJ.out x (by rw [HLD.out] at hx; have := HI.out; omega)))
      clear hlt
      go_wp2
      go_ret
      rw [HF.out]
      exact ⟨rfl, Below.more HBW.out HB1.out.2.2.2⟩

end Go.Proofs.Ytpjcheelafegbaa
