/-
  LexWhole: for every row of runes it returns true.
-/
import Derived.Test.YtohiokmkecdgfaaLexK
namespace Go.Proofs.Ytohiokmkecdgfaa
open Go.RowKit
set_option linter.unusedVariables false

theorem tok_cells {w : World} {a : Option Addr} {l : List TokA} (hat : AtCells w a (toksCells l)) {k : Nat} {x : TokA} (h : l[k]? = some x) :
    ∃ b off, a = some ⟨b, off, none⟩ ∧ w.cell? ⟨b, off + k * 4, none⟩ = some (.int .i64 (x.1 : Nat)) ∧ w.cell? ⟨b, off + k * 4 + 1, none⟩ = some (.int .i64 (x.2.1 : Nat)) ∧ w.cell? ⟨b, off + k * 4 + 2, none⟩ = some (.int .i64 (x.2.2.1 : Nat)) ∧ w.cell? ⟨b, off + k * 4 + 3, none⟩ = some (.bool x.2.2.2) := by
  have hx : ∀ (l : List TokA) (k : Nat), l[k]? = some x → (toksCells l)[k * 4]? = some (.int .i64 (x.1 : Nat)) ∧ (toksCells l)[k * 4 + 1]? = some (.int .i64 (x.2.1 : Nat)) ∧ (toksCells l)[k * 4 + 2]? = some (.int .i64 (x.2.2.1 : Nat)) ∧ (toksCells l)[k * 4 + 3]? = some (.bool x.2.2.2) := by
    intro l
    induction l with
    | nil => intro k h; simp at h
    | cons y l ih =>
      intro k h
      have e : toksCells (y :: l) = .int .i64 (y.1 : Nat) :: .int .i64 (y.2.1 : Nat) :: .int .i64 (y.2.2.1 : Nat) :: .bool y.2.2.2 :: toksCells l := rfl
      rw [e]
      cases k with
      | zero => simp at h; subst h; simp
      | succ k =>
        simp at h
        obtain ⟨a, b, c, d⟩ := ih k h
        have e1 : (k + 1) * 4 = k * 4 + 1 + 1 + 1 + 1 := by omega
        rw [e1]
        exact ⟨by simpa using a, by simpa using b, by simpa using c, by simpa using d⟩
  obtain ⟨h0, h1, h2, h3⟩ := hx l k h
  obtain ⟨b, off, rfl, c0⟩ := hat _ _ h0
  obtain ⟨b1, off1, e1, c1⟩ := hat _ _ h1
  obtain ⟨b2, off2, e2, c2⟩ := hat _ _ h2
  obtain ⟨b3, off3, e3, c3⟩ := hat _ _ h3
  simp only [Option.some.injEq, Addr.mk.injEq] at e1 e2 e3
  obtain ⟨rfl, rfl, _⟩ := e1
  obtain ⟨rfl, rfl, _⟩ := e2
  obtain ⟨rfl, rfl, _⟩ := e3
  exact ⟨b, off, rfl, c0, by rw [Nat.add_assoc]; exact c1, by rw [Nat.add_assoc]; exact c2, by rw [Nat.add_assoc]; exact c3⟩

theorem toksF_len : ∀ (f k : Nat) (l : List Int), (toksF f k l).length ≤ f := by
  intro f
  induction f with
  | zero => intro k l; simp [toksF]
  | succ f ih =>
    intro k l
    cases l with
    | nil => simp [toksF]
    | cons r l => rw [toksF]; have := ih (k + (tokP (r :: l)).2.1) ((r :: l).drop (tokP (r :: l)).2.1); simp; omega

set_option maxHeartbeats 2000000 in
theorem lexWhole_row (a : Option Addr) (n cap : Nat) (l : List Int) (w : World) (hl : l.length = n) (hc : n ≤ cap) (hm : cap ≤ maxLen) (hn : n ≤ 160) (hat : AtCells w a (l.map (.int .i32))) :
    Calls Try.prog 8 #[.slice a n cap] w (OwnToks w (toks l)) := by
  cases n with
  | zero =>
    have : l = [] := List.length_eq_zero_iff.1 hl
    subst this
    exact tokens_none a cap w
  | succ n =>
    obtain ⟨b, off, rfl, _⟩ := hat.int (k := 0) (by omega)
    exact tokens_any ⟨hl, hc, hm, hat⟩ (by omega) (by omega)

set_option maxRecDepth 20000 in
set_option maxHeartbeats 2000000 in
theorem lexWhole_any (a : Option Addr) (len cap : Nat) (zs : List Int) (w : World) (hlen : zs.length = len) (hc : len ≤ cap) (hm : cap ≤ maxLen) (hat : AtCells w a (zs.map (.int .i32))) :
    Calls Try.prog 3 #[.slice a len cap] w fun e w' => e = .returned (.bool true) ∧ Below w.heap.size w w' := by
  have HF := Lib.hid (few_any a len cap w hc hm)
  obtain ⟨n, hn⟩ : ∃ n, n = min len 160 := ⟨_, rfl⟩
  obtain ⟨l, hl⟩ : ∃ l, l = zs.take 160 := ⟨_, rfl⟩
  have hln : l.length = n := by rw [hl, hn, List.length_take, hlen]; omega
  have hnc : n ≤ cap := by omega
  have hn160 : n ≤ 160 := by omega
  have hatl : AtCells w a (l.map (.int .i32)) := by rw [hl, List.map_take]; exact hat.take 160
  have HT := Lib.hid (lexWhole_row a n cap l w hln hnc hm hn160 hatl)
  rw [← hn] at HF
  have HAT := Lib.hid hatl
  have HLN := Lib.hid hln
  have HM := Lib.hid hm
  unfold maxLen at hm
  clear hat hlen hc hn hl hatl hln
  go_enter Try.func3, Try.ntmps3
  go_wp2_with (first
    | (go_at_call 7; (with_reducible refine HF.out.mono ?_); rintro e w' ⟨rfl, rfl⟩)
    | (go_at_call 8; (with_reducible refine HT.out.mono ?_); rintro e w1 ⟨v, rfl, hown, hb1⟩; obtain ⟨va, vc, rfl, hvc⟩ := owns_slice hown))
  obtain ⟨q, hq⟩ : ∃ q, q = (toks l).length := ⟨_, rfl⟩
  have hq160 : q ≤ 160 := by rw [hq]; have := toksF_len l.length 0 l; rw [HLN.out] at this; exact Nat.le_trans (by unfold toks; rw [HLN.out]; exact this) hn160
  have HOW := Lib.hid (AtCells.of_owns hown)
  have HQ := Lib.hid hq
  rw [← hq] at hown hvc ⊢
  clear hown hq
  go_loopw [3, 5, 6, 7, 13] (fun at_v _p5 _p6 _o7 i wr => ∃ (k a f : Nat) (acc : List TokA), i = .int .i64 k ∧ at_v = .int .i64 a ∧ acc.length = k ∧ k ≤ q ∧ a ≤ n ∧ n - a ≤ f ∧ Hid (acc ++ toksF f a (l.drop a) = toks l) ∧ Below w1.heap.size w1 wr) (fun _ _ _ _ i _ => q - (intOf i).toNat)
  case atStart => exact ⟨0, 0, n, [], rfl, rfl, rfl, Nat.zero_le _, Nat.zero_le _, by omega, Lib.hid (by unfold toks; rw [HLN.out]; rfl), Below.refl _ _⟩
  case round =>
    obtain ⟨k, x, f, acc, rfl, rfl, hk, hkq, hxn, hf, HALL, hbl⟩ := hrel
    by_cases hlt : x < n
    · obtain ⟨f, rfl⟩ : ∃ f', f = f' + 1 := ⟨f - 1, by omega⟩
      have hall := HALL.out
      rw [toksF_cons (by rw [HLN.out]; exact hlt)] at hall
      obtain ⟨t, ht⟩ : ∃ t, t = tokP (l.drop x) := ⟨_, rfl⟩
      obtain ⟨k1, k2, k3, k4⟩ := tokP_ok (l.drop x) (by rw [dropl, HLN.out]; omega)
      rw [dropl, HLN.out] at k2
      rw [← ht] at hall k1 k2 k3 k4
      have hget : (toks l)[k]? = some (at_ x t) := by rw [← hall, List.getElem?_append_right (by omega), hk]; simp
      have hkq' : k < q := by
        have := (List.getElem?_eq_some_iff.1 hget).1
        rw [← HQ.out] at this
        exact this
      obtain ⟨vb, vo, rfl, c0, c1, c2, c3⟩ := tok_cells (HOW.out.below hbl) hget
      simp only [at_] at c0 c1 c2 c3
      obtain ⟨b, off, rfl, hcell⟩ := HAT.out.int (k := 0) (by rw [HLN.out]; omega)
      have hvlt := cell_lt c0
      have HR := Lib.hid (show RRow w b (off + x) (n - x) (cap - x) (l.drop x) from ⟨by rw [dropl, HLN.out], by omega, by have := HM.out; omega, by have := HAT.out.drop x; rwa [← List.map_drop] at this⟩)
      have hbw := Below.more hb1 hbl
      have HNX := Lib.hid (fun (w' : World) hb => next_any (HR.out.below (w' := w') hb) 0 (by omega) (t := t) (by rw [List.drop_zero]; exact ht.symm))
      simp only [Int.cast_ofNat_Int, Int.zero_add] at HNX
      have HNEXT := Lib.hid (show (acc ++ [at_ x t]) ++ toksF f (x + t.2.1) (l.drop (x + t.2.1)) = toks l by rw [List.append_assoc]; exact hall)
      rw [Int.natCast_add] at c2
      clear hall hget ht hcell HALL
      obtain ⟨t0, t1, t2⟩ := t
      simp only at c0 c1 c2 c3 k1 k2 k3 k4 HNX HNEXT
      have hd : ((x : Int) + (t1 : Int)) - (x : Int) = (t1 : Int) := by omega
      have hle : ¬ ((x : Int) + (t1 : Int) ≤ (x : Int)) := by omega
      have hl0 : ¬ ((t0 : Int) < 1) := by omega
      have hl1 : ¬ ((11 : Int) < (t0 : Int)) := by omega
      cases t2
      all_goals
       go_wp2_with (first
        | (go_at_call 9; (with_reducible refine (HNX.out _ (hbw.alloc hbw.size _)).mono ?_); rintro e w3 ⟨rfl, hb3⟩; obtain ⟨z0, z1, z2, z3⟩ := (Box4.new wr _ _ _ _ _).below hb3; have hg3 := cell_lt z0))
       have hb5 := (hbl.alloc hbl.size _).trans (hb3.mono (hbl.alloc hbl.size _).size)
       go_roundw
       case rel => exact ⟨k + 1, x + t1, f, acc ++ [at_ x (t0, t1, _)], by go_num, by go_num, by rw [List.length_append, hk]; rfl, by omega, by omega, by omega, HNEXT, hb5.alloc hb5.size _⟩
       case measure => simp [intOf]; omega
    · obtain rfl : n = x := by omega
      have hall := HALL.out
      rw [List.drop_eq_nil_of_le (by rw [HLN.out]; exact Nat.le_refl _), toksF_end, List.append_nil] at hall
      obtain rfl : q = k := by rw [HQ.out, ← hall]; exact hk
      have hbw := Below.more hb1 hbl
      clear hall hlt hk
      go_wp2_with (go_at_call 10; (with_reducible refine (awake_any _).mono ?_); rintro e w3 ⟨rfl, hb3⟩)
      go_ret
      exact ⟨rfl, Below.more hbw hb3⟩

end Go.Proofs.Ytohiokmkecdgfaa
