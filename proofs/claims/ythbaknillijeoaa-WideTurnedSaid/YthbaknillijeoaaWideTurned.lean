/-
  WideTurned: for every list of bytes, in either order, it returns true.
-/
import Derived.Test.YthbaknillijeoaaWideD
import Derived.Laws.AppendOwnNone
import Derived.Deep.QuietTactic
import Derived.BigQuiet
namespace Go.Proofs.Ythbaknillijeoaa
open Go.RowKit

/-- Each two turned round. -/
def turn : List Int → List Int
  | x :: y :: t => y :: x :: turn t
  | l => l

theorem turn_append : ∀ (n : Nat) (a b : List Int), a.length = 2 * n → turn (a ++ b) = turn a ++ turn b
  | 0, a, b, h => by have : a = [] := List.length_eq_zero_iff.1 (by omega); subst this; rfl
  | n + 1, a, b, h => by
    match a, h with
    | x :: y :: t, h =>
      have := turn_append n t b (by simp at h; omega)
      simp [turn, this]
theorem turn_small (l : List Int) (h : l.length ≤ 1) : turn l = l := by
  match l, h with
  | [], _ => rfl
  | [x], _ => rfl
theorem turn_length : ∀ (n : Nat) (l : List Int), l.length ≤ n → (turn l).length = l.length
  | 0, l, h => by have : l = [] := List.length_eq_zero_iff.1 (by omega); subst this; rfl
  | n + 1, l, h => by
    match l, h with
    | [], _ => rfl
    | [x], _ => rfl
    | x :: y :: t, h => simp [turn, turn_length n t (by simp at h; omega)]
theorem turn_at (l : List Int) (k : Nat) (h : 2 * k + 1 < l.length) : (turn l).getD (2 * k) 0 = l.getD (2 * k + 1) 0 ∧ (turn l).getD (2 * k + 1) 0 = l.getD (2 * k) 0 := by
  induction k generalizing l with
  | zero =>
    match l, h with
    | x :: y :: t, _ => simp [turn]
  | succ k ih =>
    match l, h with
    | x :: y :: t, h =>
      have := ih t (by simp at h; omega)
      have e : 2 * (k + 1) = 2 * k + 1 + 1 := by omega
      rw [e]
      simpa [turn] using this

/-- The bytes, turned round up to place i. -/
def cur (l : List Int) (i : Nat) : List Int := turn (l.take i) ++ l.drop i

theorem cur_zero (l : List Int) : cur l 0 = l := by simp [cur, turn]
theorem cur_end (l : List Int) (k : Nat) (hk : 2 * k ≤ l.length) (h : ¬ 2 * k + 1 < l.length) : cur l (2 * k) = turn l := by
  have h1 := turn_append k (l.take (2 * k)) (l.drop (2 * k)) (by simp; omega)
  rw [List.take_append_drop, turn_small (l.drop (2 * k)) (by simp; omega)] at h1
  exact h1.symm
theorem drop_two (l : List Int) (i : Nat) (h : i + 1 < l.length) : l.drop i = l.getD i 0 :: l.getD (i + 1) 0 :: l.drop (i + 2) := by
  rw [List.drop_eq_getElem_cons (by omega), List.drop_eq_getElem_cons h]
  simp [show i < l.length by omega, h]
theorem take_two (l : List Int) (i : Nat) (h : i + 1 < l.length) : l.take (i + 2) = l.take i ++ [l.getD i 0, l.getD (i + 1) 0] := by
  rw [U8.take_succ l (i + 1) h, U8.take_succ l i (by omega)]; simp

theorem cur_length (l : List Int) (k : Nat) : (cur l k).length = l.length := by
  unfold cur; rw [List.length_append, turn_length _ _ (Nat.le_refl _)]; simp; omega

theorem cur_step (l : List Int) (k : Nat) (h : 2 * k + 1 < l.length) :
    (cur l (2 * k)).getD (2 * k) 0 = l.getD (2 * k) 0 ∧ (cur l (2 * k)).getD (2 * k + 1) 0 = l.getD (2 * k + 1) 0 ∧
    ((cur l (2 * k)).set (2 * k) (l.getD (2 * k + 1) 0)).set (2 * k + 1) (l.getD (2 * k) 0) = cur l (2 * (k + 1)) := by
  have hl : (turn (l.take (2 * k))).length = 2 * k := by rw [turn_length _ _ (Nat.le_refl _)]; simp; omega
  unfold cur
  rw [drop_two l (2 * k) h, show 2 * (k + 1) = 2 * k + 2 by omega, take_two l (2 * k) h, turn_append k _ _ (by simp; omega)]
  refine ⟨?_, ?_, ?_⟩
  · rw [List.getD_eq_getElem?_getD, List.getElem?_append_right (by omega), hl]; simp
  · rw [List.getD_eq_getElem?_getD, List.getElem?_append_right (by omega), hl]; simp
  · rw [List.set_append_right _ _ (by omega), hl, List.set_append_right _ _ (by omega), hl]
    simp [turn]

theorem turn_unit (l : List Int) (big : Bool) (k : Nat) (h : 2 * k + 1 < l.length) : U16.unitAt (turn l) (!big) (2 * k) = U16.unitAt l big (2 * k) := by
  obtain ⟨h1, h2⟩ := turn_at l k h
  unfold U16.unitAt
  rw [h1, h2]
  cases big <;> simp [U16.unit] <;> omega

theorem turn_piece (l : List Int) (big : Bool) (n k : Nat) (hn : l.length = n) : U16.piece (turn l) (!big) n (2 * k) = U16.piece l big n (2 * k) := by
  unfold U16.piece
  by_cases h : n < 2 * k + 2
  · rw [if_pos h, if_pos h]
  · rw [if_neg h, if_neg h, turn_unit l big k (by omega)]
    by_cases h4 : 2 * k + 4 ≤ n
    · rw [show 2 * k + 2 = 2 * (k + 1) by omega, turn_unit l big (k + 1) (by omega)]
    · have e1 : ∀ (a c d : Prop), (a ∧ 2 * k + 4 ≤ n ∧ c ∧ d) = False := fun a c d => by simp; intro _ h; omega
      simp only [e1, if_false]

theorem turn_items (l : List Int) (big : Bool) (n : Nat) (hn : l.length = n) : ∀ fuel k, U16.itemsFrom (turn l) (!big) n fuel (2 * k) = U16.itemsFrom l big n fuel (2 * k) := by
  intro fuel
  induction fuel with
  | zero => intro k; rfl
  | succ f ih =>
    intro k
    simp only [U16.itemsFrom]
    by_cases hp : 2 * k < n
    · rw [if_pos hp, if_pos hp]
      have he := turn_piece l big n k hn
      have hi : U16.itemAt (turn l) (!big) n (2 * k) = U16.itemAt l big n (2 * k) := by unfold U16.itemAt; rw [he]
      rw [hi, he]
      congr 1
      have hc : (U16.piece l big n (2 * k)).2 = 1 ∨ (U16.piece l big n (2 * k)).2 = 2 ∨ (U16.piece l big n (2 * k)).2 = 4 := by
        unfold U16.piece; (repeat' split) <;> simp
      by_cases h1 : n < 2 * k + 2
      · rw [U16.itemsFrom_end _ _ _ _ _ (by omega), U16.itemsFrom_end _ _ _ _ _ (by omega)]
      · have hc' : (U16.piece l big n (2 * k)).2 = 2 ∨ (U16.piece l big n (2 * k)).2 = 4 := by
          unfold U16.piece; rw [if_neg h1]; (repeat' split) <;> simp
        rcases hc' with h | h
        · rw [h]; exact ih (k + 1)
        · rw [h]; exact ih (k + 2)
    · rw [if_neg hp, if_neg hp]

theorem turn_all (l : List Int) (big : Bool) (n : Nat) (hn : l.length = n) : U16.items (turn l) (!big) n = U16.items l big n := turn_items l big n hn n 0

theorem turn_byte {l : List Int} (h : U16.Byte l) : U16.Byte (turn l) := by
  have key : ∀ n (l : List Int), l.length ≤ n → U16.Byte l → U16.Byte (turn l) := by
    intro n
    induction n with
    | zero => intro l hl h; have : l = [] := List.length_eq_zero_iff.1 (by omega); subst this; exact h
    | succ n ih =>
      intro l hl h
      match l, hl, h with
      | [], _, h => exact h
      | [x], _, h => exact h
      | x :: y :: t, hl, h =>
        have := ih t (by simp at hl; omega) (fun z hz => h z (by simp [hz]))
        intro z hz
        simp only [turn, List.mem_cons] at hz
        rcases hz with rfl | rfl | hz
        · exact h _ (by simp)
        · exact h _ (by simp)
        · exact this z hz
  exact key _ l (Nat.le_refl _) h

theorem cur_step' (l : List Int) (j : Nat) (hj : j % 2 = 0) (h : j + 1 < l.length) :
    (cur l j).getD j 0 = l.getD j 0 ∧ (cur l j).getD (j + 1) 0 = l.getD (j + 1) 0 ∧ ((cur l j).set j (l.getD (j + 1) 0)).set (j + 1) (l.getD j 0) = cur l (j + 2) := by
  obtain ⟨k, rfl⟩ : ∃ k, j = 2 * k := ⟨j / 2, by omega⟩
  have := cur_step l k (by omega)
  rwa [show 2 * (k + 1) = 2 * k + 2 by omega] at this
theorem cur_end' (l : List Int) (j : Nat) (hj : j % 2 = 0) (hk : j ≤ l.length) (h : ¬ j + 1 < l.length) : cur l j = turn l := by
  obtain ⟨k, rfl⟩ : ∃ k, j = 2 * k := ⟨j / 2, by omega⟩
  exact cur_end l k hk h

theorem ints_set2 (xs : List Int) (j : Nat) (u : Int) : (xs.map (Value.int .u8)).set j (.int .u8 u) = (xs.set j u).map (Value.int .u8) := by rw [List.map_set]

/-- The cells of what is turned, and that they may be written. -/
theorem turned_cells {B g cc m : Nat} {xs : List Int} {wr : World} (h : wr.ownsRow B 5 1 (.slice (some ⟨g, 0, none⟩) m cc) m (xs.map (Value.int .u8))) (j : Nat) (hj : j < m) (hx : xs.length = m) :
    wr.cell? ⟨g, j, none⟩ = some (.int .u8 (xs.getD j 0)) ∧ wr.frozen? ⟨g, j, none⟩ = false := by
  refine ⟨?_, h.frozenAt j⟩
  rw [h.cellAt j (by omega)]
  simp [show j < xs.length by omega]

theorem turned_set {B g cc m : Nat} {xs : List Int} {wr : World} (h : wr.ownsRow B 5 1 (.slice (some ⟨g, 0, none⟩) m cc) m (xs.map (Value.int .u8))) (i j : Nat) (x y : Int) :
    ((wr.setCell ⟨g, i, none⟩ (.int .u8 x)).setCell ⟨g, j, none⟩ (.int .u8 y)).ownsRow B 5 1 (.slice (some ⟨g, 0, none⟩) m cc) m (((xs.set i x).set j y).map (Value.int .u8)) := by
  have h1 := (h.stored i (.int .u8 x)).1
  have h2 := (h1.stored j (.int .u8 y)).1
  rw [ints_set2, ints_set2] at h2
  exact h2

theorem owns_head {w : World} {base n c : Nat} {e : TypeId} {size : Nat} {a : Addr} {xs : List Value} (h : w.ownsRow base e size (.slice (some a) n c) n xs) : ∃ g, a = ⟨g, 0, none⟩ ∧ base ≤ g := by
  obtain ⟨_, ⟨h1, _⟩ | ⟨g, c', cur, h1, hb, _⟩⟩ := h
  · simp at h1
  · simp at h1; exact ⟨g, h1.1, hb⟩

/-- What the loop that turns leaves. -/
def Turned (B : Nat) (w0 : World) (vc : Value) (m : Nat) (xs : List Int) (wr : World) : Prop := wr.ownsRow B 5 1 vc m (xs.map (Value.int .u8)) ∧ Below B w0 wr

set_option maxHeartbeats 4000000 in
theorem wideTurned_walk (big : Bool) (a : Option Addr) (n cap : Nat) (zs : List Int) (w : World) (hn : zs.length = n) (hc : n ≤ cap) (hm : cap ≤ maxLen) (hat : AtCells w a (zs.map (.int .u8))) (hby : U16.Byte zs) (hnil : a = none → cap = 0) :
    Calls Try.prog 8 #[.slice a n cap, .bool big] w fun e w' => e = .returned (.bool true) ∧ Below w.heap.size w w' := by
  obtain ⟨m, hmm⟩ : ∃ m, m = min n 200 := ⟨_, rfl⟩
  have hm200 : m ≤ 200 := by omega
  have hat' := hat.take m
  rw [← List.map_take] at hat'
  have hn' : (zs.take m).length = m := by simp; omega
  have hby' := hby.take m
  have hmc : m ≤ cap := by omega
  generalize zs.take m = ys at hat' hn' hby'
  obtain ⟨i0, hi, hz0, hz1, hz2⟩ := info_parts Try.infoU8
  have HI := Lib.hid (And.intro hi (And.intro hz0 (And.intro hz1 hz2)))
  have HF := Lib.hid (wshort_any a n cap w hc hm)
  rw [← hmm] at HF
  have HY := Lib.hid (And.intro hat' (And.intro hby' hn'))
  have hll := U16.items_length ys big m
  have H1 := Lib.hid (show ∀ wx, Below w.heap.size w wx → Calls Try.prog 18 #[.slice a m cap, .bool big] wx (OwnItems wx (U16.items ys big m)) from fun wx hx => witems_any big a m cap ys wx hn' hmc (by omega) (hat'.below hx) hby')
  have H2 := Lib.hid (show ∀ (wx : World) (B : Nat) (vc : Value), wx.ownsRow B 5 1 vc m ((turn ys).map (Value.int .u8)) → Calls Try.prog 18 #[vc, .bool !big] wx (OwnItems wx (U16.items ys big m)) from fun wx B vc hx => by
    obtain ⟨a2, c2, rfl, hc2⟩ := owns_slice hx
    have h := witems_any (!big) a2 m c2 (turn ys) wx (by rw [turn_length _ _ (Nat.le_refl _), hn']) hc2 (by omega) (AtCells.of_owns hx) (turn_byte hby')
    rw [turn_all ys big m hn'] at h
    exact h)
  generalize hL : U16.items ys big m = L at hll H1 H2
  obtain ⟨q, hq⟩ : ∃ q, q = L.length := ⟨_, rfl⟩
  have HQ := Lib.hid hq
  rw [← hq] at hll
  have h63 : 0 + m ≤ maxLen := by unfold maxLen; omega
  have h47 : (0 + m) * 1 ≤ 140737488355328 := by omega
  have HM := Lib.hid (And.intro h63 h47)
  have HE := Lib.hid (World.ownsRow_lit (base := w.heap.size) (e := 5) (size := 1) w #[] 0 (Nat.le_refl _) (by unfold maxLen; omega) rfl)
  have HBA := Lib.hid ((Below.refl w.heap.size w).alloc (Nat.le_refl _) (.cells #[] 5))
  have HNIL := Lib.hid (show a = none → m = 0 ∧ cap = 0 from fun h => by have := hnil h; omega)
  clear hat' hn' hby' hat hn hmm hm hc hL hq hby hnil hi hz0 hz1 hz2 h63 h47
  have H0 : ∀ (v' : Value) (w2 : World), w2.ownsRow w.heap.size 5 1 v' m (ys.map (Value.int .u8)) → Below w.heap.size w w2 → Turned w.heap.size w v' m (cur ys (2 * 0)) w2 := fun v' w2 h1 h2 => ⟨by rw [Nat.mul_zero, cur_zero]; exact h1, h2⟩
  have H00 := Lib.hid H0
  clear H0
  rcases a with _ | ad
  · obtain ⟨rfl, rfl⟩ := HNIL.out rfl
    go_enter Try.func8, Try.ntmps8
    go_wp2_with (first
      | (go_at_call 17; refine HF.out.mono ?_; rintro e w' ⟨rfl, rfl⟩)
      | (at_builtin; refine wpList_append_own_none rfl _ _ 25 rfl w.heap.size 5 i0 1 Try.underlying25 HI.out.1 _ _ _ rfl HE.out rfl ?_))
    have hys : ys = [] := List.length_eq_zero_iff.1 HY.out.2.2
    have HT := Lib.hid (H00.out (.slice (some ⟨w.heap.size, 0, none⟩) 0 0) _ (by rw [hys]; exact HE.out) HBA.out)
    have HTY := Lib.hid (show turn ys = cur ys (2 * 0) by rw [hys]; rfl)
    clear hys
    go_loopw [6] (fun i wr => i = .int .i64 0 ∧ Turned w.heap.size w (.slice (some ⟨w.heap.size, 0, none⟩) 0 0) 0 (turn ys) wr) (fun i _ => 0 - (intOf i).toNat)
    case atStart => exact ⟨rfl, by rw [HTY.out]; exact HT.out⟩
    case round =>
      obtain ⟨rfl, htu⟩ := hrel
      have HTU := Lib.hid htu
      clear htu
      have tok : True := trivial
      go_wp2_with (first
        | (go_at_call 18; have _t := tok; refine (H1.out _ HTU.out.2).mono ?_; rintro e w3 ⟨v1, rfl, hown1, hb1⟩; rw [← HQ.out] at hown1; obtain ⟨a1, c1, rfl, hci⟩ := owns_slice hown1; have HO1 := Lib.hid hown1; have HOC := Lib.hid (owns_below HTU.out.1 hb1); clear hown1 hci tok _t)
        | (go_at_call 18; refine (H2.out _ _ _ HOC.out).mono ?_; rintro e w4 ⟨v2, rfl, hown2, hb2⟩; rw [← HQ.out] at hown2; obtain ⟨a2, c2, rfl, hci⟩ := owns_slice hown2; have HO2 := Lib.hid hown2; clear hown2 hci))
      have HA := Lib.hid ((AtCells.of_owns HO1.out).below hb2)
      have HA2 := Lib.hid (AtCells.of_owns HO2.out)
      have HBX := Lib.hid ((HTU.out.2.trans (hb1.mono HTU.out.2.size)).trans (hb2.mono (Nat.le_trans HTU.out.2.size hb1.size)))
      go_loopw [54] (fun i wr => ∃ k : Nat, k ≤ q ∧ i = .int .i64 k ∧ Below w4.heap.size w4 wr) (fun i _ => q - (intOf i).toNat)
      case atStart => exact ⟨0, Nat.zero_le _, rfl, Below.refl _ _⟩
      case round =>
        obtain ⟨k, hk, rfl, hbl⟩ := hrel
        by_cases hlt : k < q
        · obtain ⟨x, hx⟩ : ∃ x, L[k]? = some x := ⟨_, List.getElem?_eq_getElem (by rw [← HQ.out]; exact hlt)⟩
          obtain ⟨b, off, rfl, c0, c1, c2⟩ := item_cells (HA.out.below hbl) hx
          obtain ⟨b', off', rfl, d0, d1, d2⟩ := item_cells (HA2.out.below hbl) hx
          obtain ⟨r, o, nn⟩ := x
          simp only at c0 c1 c2 d0 d1 d2
          clear hx
          have hki : (k : Int) < (q : Int) := by omega
          go_wp2_with fail
          go_quiet (fail)
          go_wp2
          go_roundw
          case rel => exact ⟨k + 1, by omega, by go_num, below_drewN hbl _⟩
          case measure => simp [intOf]; omega
        · obtain rfl : k = q := by omega
          clear hk hlt
          go_wp2_with (go_at_call 20; refine (wawake_any _).mono ?_; rintro e w5 ⟨rfl, hb5⟩)
          go_ret
          exact ⟨rfl, (HBX.out.trans (hbl.mono HBX.out.size)).trans (hb5.mono (Nat.le_trans HBX.out.size hbl.size))⟩
  · have HYL := Lib.hid (show (ys.map (Value.int .u8)).length = m * 1 by rw [List.length_map, HY.out.2.2, Nat.mul_one])
    have HYC := Lib.hid (show ∀ j u, (ys.map (Value.int .u8))[j]? = some u → (w.alloc (.cells #[] 5)).cell? (ad.add j) = some u from fun j u hj => by
      obtain ⟨b, off, he, hcc⟩ := (HY.out.1.alloc (.cells #[] 5)) j u hj
      simp only [Option.some.injEq] at he
      subst he
      by_cases h0 : j = 0
      · subst h0; simpa [Addr.add] using hcc
      · simpa [Addr.add, h0] using hcc)
    go_enter Try.func8, Try.ntmps8
    go_wp2_with (first
      | (go_at_call 17; refine HF.out.mono ?_; rintro e w' ⟨rfl, rfl⟩)
      | (at_builtin; refine wpList_append_own _ rfl _ _ 25 rfl w.heap.size 5 i0 (.int .u8 0) 1 1 Try.underlying25 HI.out.1 HI.out.2.1 HI.out.2.2.1 HI.out.2.2.2 rfl (by decide) _ _ _ rfl HE.out _ _ _ (ys.map (Value.int .u8)) rfl (HYL.out) (HYC.out) (ints_oneCell _ _) HM.out.1 HM.out.2 HBA.out.size ?_; intro v' w2 hown' hg' _))
    simp only [Nat.zero_add, List.nil_append] at hown'
    have HT := Lib.hid (H00.out _ _ hown' (HBA.out.grown hg' HBA.out.size (fun k hk => (HE.out.lt k hk).1)))
    clear hown' hg'
    obtain ⟨ac, cc, rfl, _⟩ := owns_slice HT.out.1
    go_loopw [6] (fun i wr => ∃ j : Nat, i = .int .i64 j ∧ j ≤ m ∧ j % 2 = 0 ∧ Turned w.heap.size w (.slice ac m cc) m (cur ys j) wr) (fun i _ => m - (intOf i).toNat)
    case atStart => exact ⟨0, rfl, Nat.zero_le _, rfl, HT.out⟩
    case round =>
      obtain ⟨j, rfl, hjm, hj2, htu⟩ := hrel
      by_cases hlt : j + 1 < m
      · obtain ⟨g, hgb, hsl⟩ : ∃ g, ac = some ⟨g, 0, none⟩ ∧ w.heap.size ≤ g := by
          have ho := htu.1
          rcases ac with _ | ac
          · obtain ⟨_, ⟨_, h0⟩ | ⟨g, c', cu, h1, _⟩⟩ := ho
            · omega
            · simp at h1
          · obtain ⟨g, rfl, hb⟩ := owns_head ho; exact ⟨g, rfl, hb⟩
        subst hgb
        have hcl : (cur ys j).length = m := by obtain ⟨k, rfl⟩ : ∃ k, j = 2 * k := ⟨j / 2, by omega⟩; rw [cur_length]; exact HY.out.2.2
        obtain ⟨c0, f0⟩ := turned_cells htu.1 j (by omega) hcl
        obtain ⟨c1, f1⟩ := turned_cells htu.1 (j + 1) hlt hcl
        obtain ⟨s0, s1, s2⟩ := cur_step' ys j hj2 (by rw [HY.out.2.2]; exact hlt)
        rw [s0] at c0
        rw [s1] at c1
        obtain ⟨x, hx⟩ : ∃ x, x = ys.getD j 0 := ⟨_, rfl⟩
        obtain ⟨y, hy⟩ : ∃ y, y = ys.getD (j + 1) 0 := ⟨_, rfl⟩
        rw [← hx] at c0 s2
        rw [← hy] at c1 s2
        have HTU := Lib.hid (And.intro htu s2)
        have hjl : j < m := by omega
        have hji : (j : Int) < (m : Int) := by omega
        have hji2 : (j : Int) + 1 < (m : Int) := by omega
        clear htu s0 s1 s2 hx hy hcl
        go_wp2
        go_roundw
        case rel =>
          refine ⟨j + 2, by go_num, by omega, by omega, ?_, ?_⟩
          · have h := turned_set HTU.out.1.1 j (j + 1) y x
            rw [HTU.out.2] at h
            exact h
          · exact (HTU.out.1.2.setCell (p := ⟨g, j, none⟩) hsl _).setCell (p := ⟨g, j + 1, none⟩) hsl _
        case measure => simp [intOf]; omega
      · have hce := cur_end' ys j hj2 (by rw [HY.out.2.2]; exact hjm) (by rw [HY.out.2.2]; exact hlt)
        rw [hce] at htu
        have HTU := Lib.hid htu
        have hnl : (m : Int) ≤ (j : Int) + 1 := by omega
        clear hce htu hlt
        have tok : True := trivial
        go_wp2_with (first
          | (go_at_call 18; have _t := tok; refine (H1.out _ HTU.out.2).mono ?_; rintro e w3 ⟨v1, rfl, hown1, hb1⟩; rw [← HQ.out] at hown1; obtain ⟨a1, c1, rfl, hci⟩ := owns_slice hown1; have HO1 := Lib.hid hown1; have HOC := Lib.hid (owns_below HTU.out.1 hb1); clear hown1 hci tok _t)
          | (go_at_call 18; refine (H2.out _ _ _ HOC.out).mono ?_; rintro e w4 ⟨v2, rfl, hown2, hb2⟩; rw [← HQ.out] at hown2; obtain ⟨a2, c2, rfl, hci⟩ := owns_slice hown2; have HO2 := Lib.hid hown2; clear hown2 hci))
        have HA := Lib.hid ((AtCells.of_owns HO1.out).below hb2)
        have HA2 := Lib.hid (AtCells.of_owns HO2.out)
        have HBX := Lib.hid ((HTU.out.2.trans (hb1.mono HTU.out.2.size)).trans (hb2.mono (Nat.le_trans HTU.out.2.size hb1.size)))
        go_loopw [54] (fun i wr => ∃ k : Nat, k ≤ q ∧ i = .int .i64 k ∧ Below w4.heap.size w4 wr) (fun i _ => q - (intOf i).toNat)
        case atStart => exact ⟨0, Nat.zero_le _, rfl, Below.refl _ _⟩
        case round =>
          obtain ⟨k, hk, rfl, hbl⟩ := hrel
          by_cases hlt : k < q
          · obtain ⟨x, hx⟩ : ∃ x, L[k]? = some x := ⟨_, List.getElem?_eq_getElem (by rw [← HQ.out]; exact hlt)⟩
            obtain ⟨b, off, rfl, c0, c1, c2⟩ := item_cells (HA.out.below hbl) hx
            obtain ⟨b', off', rfl, d0, d1, d2⟩ := item_cells (HA2.out.below hbl) hx
            obtain ⟨r, o, nn⟩ := x
            simp only at c0 c1 c2 d0 d1 d2
            clear hx
            have hki : (k : Int) < (q : Int) := by omega
            go_wp2_with fail
            go_quiet (fail)
            go_wp2
            go_roundw
            case rel => exact ⟨k + 1, by omega, by go_num, below_drewN hbl _⟩
            case measure => simp [intOf]; omega
          · obtain rfl : k = q := by omega
            clear hk hlt
            go_wp2_with (go_at_call 20; refine (wawake_any _).mono ?_; rintro e w5 ⟨rfl, hb5⟩)
            go_ret
            exact ⟨rfl, (HBX.out.trans (hbl.mono HBX.out.size)).trans (hb5.mono (Nat.le_trans HBX.out.size hbl.size))⟩

end Go.Proofs.Ythbaknillijeoaa
