/-
  Contract: Replace.
-/
import Derived.Test.YtlkcnfkfccfhmaaSpE
import Derived.Deep.RegionWith
import Derived.Deep.RegionHeld3
namespace Go.Proofs.Ytlkcnfkfccfhmaa
open Go.RowKit
set_option linter.unusedVariables false

set_option maxHeartbeats 1000000 in
theorem replace_bad (a a' : Option Addr) (n cap n' cap' : Nat) (f t : Int) (w : World) (hn : cap ≤ maxLen) (hle : n ≤ cap) (h : f < 0 ∨ t < f ∨ (n : Int) < t) :
    Calls Try.prog 19 #[.slice a n cap, .agg #[.int .i64 f, .int .i64 t], .slice a' n' cap'] w fun e w' => e = .returned (.tuple #[.slice none 0 0, .int .i64 3]) ∧ Below w.heap.size w w' := by
  unfold maxLen at hn
  rcases h with h | h
  · go_enter Try.func19, Try.ntmps19
    go_wp2
    go_ret2
    exact ⟨rfl, bl1 _ _⟩
  · by_cases h0 : f < 0
    · go_enter Try.func19, Try.ntmps19
      go_wp2
      go_ret2
      exact ⟨rfl, bl1 _ _⟩
    · have h0' : 0 ≤ f := by omega
      clear h0
      rcases h with h | h
      · go_enter Try.func19, Try.ntmps19
        go_wp2
        go_ret2
        exact ⟨rfl, bl1 _ _⟩
      · by_cases h1 : t < f
        · go_enter Try.func19, Try.ntmps19
          go_wp2
          go_ret2
          exact ⟨rfl, bl1 _ _⟩
        · have h1' : f ≤ t := by omega
          clear h1
          go_enter Try.func19, Try.ntmps19
          go_wp2
          go_ret2
          exact ⟨rfl, bl1 _ _⟩

/-- What Replace answers. -/
def Replaced (w : World) (xs : List Int) (e : Ending) (w' : World) : Prop :=
  ∃ v, e = .returned (.tuple #[v, .int .i64 0]) ∧ w'.ownsRow w.heap.size 5 1 v xs.length (xs.map (Value.int .u8)) ∧ Below w.heap.size w w'

theorem owns_base {w : World} {base base' n : Nat} {e : TypeId} {size : Nat} {v : Value} {xs : List Value} (h : w.ownsRow base e size v n xs) (hb : base' ≤ base) : w.ownsRow base' e size v n xs := by
  obtain ⟨hl, h1 | ⟨g, c, cur, hv, hg, hr⟩⟩ := h
  · exact ⟨hl, .inl h1⟩
  · exact ⟨hl, .inr ⟨g, c, cur, hv, Nat.le_trans hb hg, hr⟩⟩

def Bs.val (r : Bs) : Value := .slice r.a r.n r.c

theorem concat3 (w : World) (o : Obj) (r1 r2 r3 : Bs) (h1 : OkB w r1) (h2 : OkB w r2) (h3 : OkB w r3) (ht : r1.n + r2.n + r3.n ≤ 1000) (e : TypeId) :
    Calls Try.prog 27 #[.slice (some ⟨w.heap.size + 1, 0, none⟩) 3 3] (((w.alloc o).alloc (.cells #[r1.val, r2.val, r3.val] e)).drew) (OwnBs w (r1.zs ++ r2.zs ++ r3.zs)) := by
  obtain ⟨W, hW⟩ : ∃ W, W = ((w.alloc o).alloc (.cells #[r1.val, r2.val, r3.val] e)).drew := ⟨_, rfl⟩
  have hb : Below w.heap.size w W := by rw [hW]; exact (bl2 w _ _).drew
  have hc : ∀ (j : Nat) u, #[r1.val, r2.val, r3.val][j]? = some u → W.cell? ⟨w.heap.size + 1, j, none⟩ = some u := by
    intro j u hu
    rw [hW]
    show ((w.alloc o).alloc (.cells #[r1.val, r2.val, r3.val] e)).cell? ⟨w.heap.size + 1, j, none⟩ = some u
    rw [World.cell?_alloc_at _ _ _ j (by simp)]
    exact hu
  rw [← hW]
  clear hW
  have hr : ∀ (j : Nat) (hj : j < [r1, r2, r3].length), OkB W [r1, r2, r3][j] ∧ W.cell? ⟨w.heap.size + 1, j, none⟩ = some [r1, r2, r3][j].val := by
    intro j hj
    have hj' : j = 0 ∨ j = 1 ∨ j = 2 := by simp at hj; omega
    rcases hj' with rfl | rfl | rfl
    · exact ⟨h1.below hb, hc 0 _ rfl⟩
    · exact ⟨h2.below hb, hc 1 _ rfl⟩
    · exact ⟨h3.below hb, hc 2 _ rfl⟩
  have h := concat_any (w.heap.size + 1) [r1, r2, r3] 3 W rfl (by omega) (fun j hj => (hr j hj).1) (by simp [tot]; omega) (fun j hj => (hr j hj).2)
  refine h.mono fun e w' ⟨v, he, ho, hb2⟩ => ⟨v, he, ?_, Below.more hb hb2⟩
  simpa using owns_base ho hb.size

set_option maxHeartbeats 1000000 in
theorem replace_at (b off n cap : Nat) (a' : Option Addr) (n' cap' : Nat) (zs zs' : List Int) (f t : Nat) (w : World) (hm : cap ≤ maxLen) (hle : n ≤ cap) (hl : zs.length = n) (h80 : n ≤ 80) (hat : AtCells w (some ⟨b, off, none⟩) (zs.map (.int .u8)))
    (hc : OkB w ⟨a', n', cap', zs'⟩) (h40 : n' ≤ 40) (hft : f ≤ t) (htn : t ≤ n) (htc : t < cap) :
    Calls Try.prog 19 #[.slice (some ⟨b, off, none⟩) n cap, .agg #[.int .i64 f, .int .i64 t], .slice a' n' cap'] w (Replaced w (zs.take f ++ zs' ++ zs.drop t)) := by
  have HK := Lib.hid (concat3 w (.cells #[.int .i64 f, .int .i64 t] 24) ⟨some ⟨b, off, none⟩, f, cap, zs.take f⟩ ⟨a', n', cap', zs'⟩ ⟨some ⟨b, off + t, none⟩, n - t, cap - t, zs.drop t⟩
    ⟨by simp; omega, by simp; omega, (fun h => by cases h), by rw [List.map_take]; exact hat.take f⟩ hc ⟨by simp; omega, by simp; omega, (fun h => by cases h), by rw [List.map_drop]; exact hat.drop t⟩ (by simp only; omega) 49)
  unfold maxLen at hm
  have i1 : (0 : Int) ≤ f := by omega
  have i2 : (f : Int) ≤ t := by omega
  have i3 : (t : Int) ≤ n := by omega
  have i4 : (f : Int) ≤ cap := by omega
  clear hat hc hl
  generalize zs.take f ++ zs' ++ zs.drop t = res at HK ⊢
  go_enter Try.func19, Try.ntmps19
  go_wp2
  go_region_with (go_at_call 27; refine HK.out.mono ?_; rintro e w1 ⟨v1, rfl, hown1, hb1⟩)
  all_goals
    go_wp2
    go_ret2
    exact ⟨_, rfl, hown1, hb1⟩

set_option maxHeartbeats 1000000 in
theorem replace_end (ad : Addr) (n : Nat) (a' : Option Addr) (n' cap' : Nat) (zs zs' : List Int) (f : Nat) (w : World) (hm : n ≤ maxLen) (hl : zs.length = n) (h80 : n ≤ 80) (hat : AtCells w (some ad) (zs.map (.int .u8)))
    (hc : OkB w ⟨a', n', cap', zs'⟩) (h40 : n' ≤ 40) (hft : f ≤ n) :
    Calls Try.prog 19 #[.slice (some ad) n n, .agg #[.int .i64 f, .int .i64 n], .slice a' n' cap'] w (Replaced w (zs.take f ++ zs' ++ zs.drop n)) := by
  have hd : zs.drop n = [] := List.drop_of_length_le (by omega)
  rw [hd]
  have HK := Lib.hid (concat3 w (.cells #[.int .i64 f, .int .i64 n] 24) ⟨some ad, f, n, zs.take f⟩ ⟨a', n', cap', zs'⟩ ⟨some ad, 0, 0, []⟩
    ⟨by simp; omega, by simp; omega, (fun h => by cases h), by rw [List.map_take]; exact hat.take f⟩ hc ⟨rfl, Nat.le_refl _, (fun h => by cases h), AtCells.nil _ _⟩ (by simp only; omega) 49)
  unfold maxLen at hm
  have i1 : (0 : Int) ≤ f := by omega
  have i2 : (f : Int) ≤ n := by omega
  clear hat hc hl hd
  generalize zs.take f ++ zs' ++ [] = res at HK ⊢
  go_enter Try.func19, Try.ntmps19
  go_wp2
  go_region_with (go_at_call 27; refine HK.out.mono ?_; rintro e w1 ⟨v1, rfl, hown1, hb1⟩)
  all_goals
    go_wp2
    go_ret2
    exact ⟨_, rfl, hown1, hb1⟩

set_option maxHeartbeats 1000000 in
theorem replace_nil (a' : Option Addr) (n' cap' : Nat) (zs' : List Int) (w : World)
    (hc : OkB w ⟨a', n', cap', zs'⟩) (h40 : n' ≤ 40) :
    Calls Try.prog 19 #[.slice none 0 0, .agg #[.int .i64 0, .int .i64 0], .slice a' n' cap'] w (Replaced w zs') := by
  have HK := Lib.hid (concat3 w (.cells #[.int .i64 0, .int .i64 0] 24) ⟨none, 0, 0, []⟩ ⟨a', n', cap', zs'⟩ ⟨none, 0, 0, []⟩
    ⟨rfl, Nat.le_refl _, fun _ => ⟨rfl, rfl⟩, AtCells.nil _ _⟩ hc ⟨rfl, Nat.le_refl _, fun _ => ⟨rfl, rfl⟩, AtCells.nil _ _⟩ (by simp only; omega) 49)
  simp only [List.nil_append, List.append_nil] at HK
  clear hc
  go_enter Try.func19, Try.ntmps19
  go_wp2
  go_region_with (go_at_call 27; refine HK.out.mono ?_; rintro e w1 ⟨v1, rfl, hown1, hb1⟩)
  all_goals
    go_wp2
    go_ret2
    exact ⟨_, rfl, hown1, hb1⟩

/-- Replace, where it may. -/
theorem replace_ok (a a' : Option Addr) (n cap n' cap' : Nat) (zs zs' : List Int) (f t : Int) (w : World) (hm : cap ≤ maxLen) (h1 : OkB w ⟨a, n, cap, zs⟩) (h80 : n ≤ 80)
    (hc : OkB w ⟨a', n', cap', zs'⟩) (h40 : n' ≤ 40) (hf : 0 ≤ f) (hft : f ≤ t) (htn : t ≤ n) (hsp : ∀ x, a = some x → 0 < cap → x.spot = none) :
    Calls Try.prog 19 #[.slice a n cap, .agg #[.int .i64 f, .int .i64 t], .slice a' n' cap'] w (Replaced w (zs.take f.toNat ++ zs' ++ zs.drop t.toNat)) := by
  obtain ⟨i, rfl⟩ : ∃ i : Nat, f = i := ⟨f.toNat, by omega⟩
  obtain ⟨j, rfl⟩ : ∃ j : Nat, t = j := ⟨t.toNat, by omega⟩
  obtain ⟨q1, q2, q3, q4⟩ := h1
  simp only at q1 q2 q3 q4
  rw [Int.toNat_natCast, Int.toNat_natCast]
  cases a with
  | none =>
    obtain ⟨rfl, rfl⟩ := q3 rfl
    obtain rfl : zs = [] := List.length_eq_zero_iff.1 q1
    obtain rfl : j = 0 := by omega
    obtain rfl : i = 0 := by omega
    simpa using replace_nil a' n' cap' zs' w hc h40
  | some ad =>
    by_cases hj : j = cap
    · subst hj
      obtain rfl : n = j := by omega
      exact replace_end ad n a' n' cap' zs zs' i w hm q1 h80 q4 hc h40 (by omega)
    · obtain ⟨b, off, spot⟩ := ad
      obtain rfl : spot = none := hsp _ rfl (by omega)
      exact replace_at b off n cap a' n' cap' zs zs' i j w hm q2 q1 h80 q4 hc h40 (by omega) (by omega) (by omega)

end Go.Proofs.Ytlkcnfkfccfhmaa
