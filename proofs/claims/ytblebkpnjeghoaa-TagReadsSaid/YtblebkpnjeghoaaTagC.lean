/-
  Contracts of layer 8: part whole, opening.
-/
import Derived.Test.YtblebkpnjeghoaaTagB
namespace Go.Proofs.Ytblebkpnjeghoaa
open Go.RowKit
set_option linter.unusedVariables false

theorem part_any {b off n cap : Nat} {l : List Int} {w : World} (R : RRow w b off n cap l) (k : Nat) (hk : k < n) {t : Nat × Nat} (ht : prt (l.drop k) = t) :
    Says 101 #[.slice (some ⟨b, off, none⟩) n cap, .int .i64 k] (parI t.1 k ((k : Int) + t.2)) w w := by
  have hdl : (l.drop k).length = n - k := by rw [dropl, R.len]
  have hg : (l.drop k).getD 0 0 = l.getD k 0 := by simp
  have hd1 : (l.drop k).drop 1 = l.drop (k + 1) := dd ..
  unfold prt at ht
  rw [hg] at ht
  obtain ⟨z, hz⟩ : ∃ z, l.getD k 0 = z := ⟨_, rfl⟩
  rw [hz] at ht
  cases hs : spaceB z
  case true =>
    rw [if_pos hs] at ht
    subst ht
    have := runP_le spaceB (l.drop k)
    exact part_sp R k hk z hz hs _ rfl (by omega)
  rw [if_neg (by rw [hs]; decide)] at ht
  cases hst : startB z
  case true =>
    rw [if_pos hst] at ht
    subst ht
    have := leadP_le (l.drop k)
    exact part_nm R k hk z hz hs hst _ rfl (by omega)
  rw [if_neg (by rw [hst]; decide)] at ht
  by_cases h61 : z = 61
  · rw [if_pos h61] at ht
    subst ht
    exact part_eq R k hk z hz hs hst h61
  rw [if_neg h61] at ht
  by_cases h34 : z = 34
  · rw [if_pos (.inl h34), h34] at ht
    unfold quo at ht
    rw [hd1] at ht
    cases hf : fnd [34] (l.drop (k + 1)) with
    | none => rw [hf] at ht; subst ht; exact part_qd0 R k hk z hz hs hst h34 hf
    | some q =>
      rw [hf] at ht
      subst ht
      have := (fnd_le _ _ _ hf).1
      rw [dropl, R.len] at this
      simp at this
      have h := part_qd1 R k hk z hz hs hst h34 q hf (by omega)
      rw [show (k : Int) + 1 + q + 1 = (k : Int) + ((q + 2 : Nat) : Int) by omega] at h
      exact h
  by_cases h39 : z = 39
  · rw [if_pos (.inr h39), h39] at ht
    unfold quo at ht
    rw [hd1] at ht
    cases hf : fnd [39] (l.drop (k + 1)) with
    | none => rw [hf] at ht; subst ht; exact part_qs0 R k hk z hz hs hst h39 hf
    | some q =>
      rw [hf] at ht
      subst ht
      have := (fnd_le _ _ _ hf).1
      rw [dropl, R.len] at this
      simp at this
      have h := part_qs1 R k hk z hz hs hst h39 q hf (by omega)
      rw [show (k : Int) + 1 + q + 1 = (k : Int) + ((q + 2 : Nat) : Int) by omega] at h
      exact h
  rw [if_neg (by rintro (h | h); exact h34 h; exact h39 h)] at ht
  have e1 : (decide ((l.drop k).length = (⟨#[62]⟩ : ByteArray).size) && sw (sg ⟨#[62]⟩) (l.drop k)) = (decide ((l.drop k).length = 1) && sw gt (l.drop k)) := rfl
  have e2 : (decide ((l.drop k).length = (⟨#[47, 62]⟩ : ByteArray).size) && sw (sg ⟨#[47, 62]⟩) (l.drop k)) = (decide ((l.drop k).length = 2) && sw sEc (l.drop k)) := rfl
  cases hG : (decide ((l.drop k).length = 1) && sw gt (l.drop k))
  case true =>
    rw [if_pos (by unfold clsB; rw [hG]; rfl), hdl] at ht
    subst ht
    have h := part_c1 R k hk z hz hs hst h61 h34 h39 (e1.trans hG)
    rw [show ((n : Nat) : Int) = (k : Int) + ((n - k : Nat) : Int) by omega] at h
    rwa [show (k : Int) + ((n - k : Nat) : Int) = ((n : Nat) : Int) by omega] at h ⊢
  cases hE : (decide ((l.drop k).length = 2) && sw sEc (l.drop k))
  case true =>
    rw [if_pos (by unfold clsB; rw [hG, hE]; rfl), hdl] at ht
    subst ht
    have h := part_c2 R k hk z hz hs hst h61 h34 h39 (e1.trans hG) (e2.trans hE)
    simp only []
    rwa [show (k : Int) + ((n - k : Nat) : Int) = ((n : Nat) : Int) by omega]
  rw [if_neg (by unfold clsB; rw [hG, hE]; decide)] at ht
  subst ht
  exact part_j R k hk z hz hs hst h61 h34 h39 (e1.trans hG) (e2.trans hE)

/-- What opening answers. -/
def opnV (k : Nat) (o : Option Nat) : Value := match o with
  | some j => .tuple #[parI 1 k ((k : Int) + j), .bool true]
  | none => .tuple #[parI 0 0 0, .bool false]

/-- What is known of the signs ahead of a place. -/
def OpnAt (s : List Int) (j : Nat) : Prop := (1 ≤ j → sw sEo s = false) ∧ (2 ≤ j → sw sLt s = false)

set_option maxHeartbeats 1000000 in
theorem opening_any {b off n cap : Nat} {l : List Int} {w : World} (R : RRow w b off n cap l) (k : Nat) (hk : k ≤ n) {o : Option Nat} (ho : opn (l.drop k) = o) :
    Says 100 #[.slice (some ⟨b, off, none⟩) n cap, .int .i64 k] (opnV k o) w w := by
  have hm := R.max
  have hc := R.le
  unfold maxLen at hm
  have R0 := R.below (two_ok w parB (.cells #[.string ⟨#[60, 47]⟩, .string ⟨#[60]⟩] 9))
  have HS1 := Lib.hid (fun v (hv : sw sEo (l.drop k) = v) => startsB R0 sEoS k hk hv)
  have HS2 := Lib.hid (fun v (hv : sw sLt (l.drop k) = v) => startsB R0 sLtS k hk hv)
  have hl1 : sw sEo (l.drop k) = true → k + 2 ≤ n := fun h => by have := sw_length h; rw [dropl, R.len] at this; simp [sEo] at this; omega
  have hl2 : sw sLt (l.drop k) = true → k + 1 ≤ n := fun h => by have := sw_length h; rw [dropl, R.len] at this; simp [sLt] at this; omega
  have HL := Lib.hid (And.intro hl1 hl2)
  have HO := Lib.hid ho
  clear R R0 hl1 hl2 ho
  go_enter Try.func100, Try.ntmps100
  go_wp2
  go_loopw [7, 10] (fun _s i wr => ∃ j : Nat, j ≤ 2 ∧ i = .int .i64 j ∧ Below ((w.alloc parB).alloc (.cells #[.string ⟨#[60, 47]⟩, .string ⟨#[60]⟩] 9)).heap.size ((w.alloc parB).alloc (.cells #[.string ⟨#[60, 47]⟩, .string ⟨#[60]⟩] 9)) wr ∧ OpnAt (l.drop k) j) (fun _ i _ => 2 - (intOf i).toNat)
  case atStart => exact ⟨0, by omega, rfl, Below.refl _ _, ⟨fun h => by omega, fun h => by omega⟩⟩
  case round =>
    obtain ⟨j, hj, rfl, hb, HJ⟩ := hrel
    have hsz : w.heap.size + 2 ≤ wr.heap.size := by have := hb.size; simp at this; omega
    have y0 : wr.cell? ⟨w.heap.size + 1, 0, none⟩ = some (.string ⟨#[60, 47]⟩) := by obtain ⟨c1, _⟩ := bcell hb; simp [go_sem, c1]
    have y1 : wr.cell? ⟨w.heap.size + 1, 1, none⟩ = some (.string ⟨#[60]⟩) := by obtain ⟨c1, _⟩ := bcell hb; simp [go_sem, c1]
    have hbw : Below w.heap.size w wr := (two_ok w _ _).trans (hb.mono (by simp; omega))
    rcases (show j = 0 ∨ j = 1 ∨ j = 2 by omega) with rfl | rfl | rfl
    · cases hv : sw sEo (l.drop k)
      · have HC := Lib.hid (HS1.out _ hv wr hb)
        have HK := Lib.hid hv
        clear hv
        go_wp2_with (go_at_call 83; (with_reducible refine HC.out.mono ?_); rintro e w1 ⟨rfl, hb1⟩)
        go_roundw
        case rel => exact ⟨1, by omega, by go_num, hb1, ⟨fun _ => HK.out, fun h => by omega⟩⟩
        case measure => simp [intOf]
      · have HC := Lib.hid (HS1.out _ hv wr hb)
        have hk2 := HL.out.1 hv
        have HV := Lib.hid (show o = some 2 by rw [← HO.out]; unfold opn; rw [if_pos hv])
        clear hv
        go_wp2_with (go_at_call 83; (with_reducible refine HC.out.mono ?_); rintro e w1 ⟨rfl, hb1⟩; obtain ⟨c1, c2⟩ := bcell hb1)
        have e0 : w1.cell? ⟨w.heap.size, 0, none⟩ = some (.int .i64 0) := by simp [go_sem, c1]
        have e1 : w1.cell? ⟨w.heap.size, 1, none⟩ = some (.int .i64 0) := by simp [go_sem, c1]
        have e2 : w1.cell? ⟨w.heap.size, 2, none⟩ = some (.int .i64 0) := by simp [go_sem, c1]
        have HB2 : Below w.heap.size w w1 := (two_ok w _ _).trans (hb1.mono (by simp; omega))
        rw [HV.out]
        refine bodyPost_ret (v := .tuple #[parI 1 k ((k : Int) + 2), .bool true]) ?_ rfl ⟨rfl, ?_⟩
        · simp [results, Try.results100, go_sem, e0, e1, e2, parI]
        · exact (((HB2.setCell (by simp) _).setCell (by simp) _).setCell (by simp) _)
    · cases hv : sw sLt (l.drop k)
      · have HC := Lib.hid (HS2.out _ hv wr hb)
        have HK := Lib.hid (And.intro (HJ.1 (by omega)) hv)
        clear hv
        go_wp2_with (go_at_call 83; (with_reducible refine HC.out.mono ?_); rintro e w1 ⟨rfl, hb1⟩)
        go_roundw
        case rel => exact ⟨2, by omega, by go_num, hb1, ⟨fun _ => HK.out.1, fun _ => HK.out.2⟩⟩
        case measure => simp [intOf]
      · have HC := Lib.hid (HS2.out _ hv wr hb)
        have hk2 := HL.out.2 hv
        have HV := Lib.hid (show o = some 1 by rw [← HO.out]; unfold opn; rw [if_neg (by rw [HJ.1 (by omega)]; decide), if_pos hv])
        clear hv
        go_wp2_with (go_at_call 83; (with_reducible refine HC.out.mono ?_); rintro e w1 ⟨rfl, hb1⟩; obtain ⟨c1, c2⟩ := bcell hb1)
        have e0 : w1.cell? ⟨w.heap.size, 0, none⟩ = some (.int .i64 0) := by simp [go_sem, c1]
        have e1 : w1.cell? ⟨w.heap.size, 1, none⟩ = some (.int .i64 0) := by simp [go_sem, c1]
        have e2 : w1.cell? ⟨w.heap.size, 2, none⟩ = some (.int .i64 0) := by simp [go_sem, c1]
        have HB2 : Below w.heap.size w w1 := (two_ok w _ _).trans (hb1.mono (by simp; omega))
        rw [HV.out]
        refine bodyPost_ret (v := .tuple #[parI 1 k ((k : Int) + 1), .bool true]) ?_ rfl ⟨rfl, ?_⟩
        · simp [results, Try.results100, go_sem, e0, e1, e2, parI]
        · exact (((HB2.setCell (by simp) _).setCell (by simp) _).setCell (by simp) _)
    · have HV := Lib.hid (show o = none by rw [← HO.out]; unfold opn; rw [if_neg (by rw [HJ.1 (by omega)]; decide), if_neg (by rw [HJ.2 (by omega)]; decide)])
      obtain ⟨c1, c2⟩ := bcell hb
      clear y0 y1
      go_wp2
      have e0 : wr.cell? ⟨w.heap.size, 0, none⟩ = some (.int .i64 0) := by simp [go_sem, c1]
      have e1 : wr.cell? ⟨w.heap.size, 1, none⟩ = some (.int .i64 0) := by simp [go_sem, c1]
      have e2 : wr.cell? ⟨w.heap.size, 2, none⟩ = some (.int .i64 0) := by simp [go_sem, c1]
      rw [HV.out]
      refine bodyPost_ret (v := .tuple #[parI 0 0 0, .bool false]) ?_ rfl ⟨rfl, ?_⟩
      · simp [results, Try.results100, go_sem, e0, e1, e2, parI]
      · first | exact hbw | exact (((hbw.setCell (by simp) _).setCell (by simp) _).setCell (by simp) _)

end Go.Proofs.Ytblebkpnjeghoaa
