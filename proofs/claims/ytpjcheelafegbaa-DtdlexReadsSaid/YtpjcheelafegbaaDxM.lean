/-
  Contracts of layer 9: item, items, Items, Words.
-/
import Derived.Test.YtpjcheelafegbaaDxL
namespace Go.Proofs.Ytpjcheelafegbaa
open Go.RowKit
set_option linter.unusedVariables false

section
variable {A0 : Nat} {w : World} {p : Nat} {n cap : Nat} {l : List Int} {k : Nat} {gv : Value} {G : List ByteArray} {b off : Nat}

/-- **item, at any place.** -/
theorem item_sub (h : Sub A0 w p (some ⟨b, off, none⟩) n cap l k gv G) (hk : k < n) {t : Nat × Nat} (ht : itP (l.drop k) = t) :
    Calls Try.prog 68 #[.pointer (some ⟨p, 0, none⟩), .int .i64 (k : Nat)] w (ItemSays A0 p (some ⟨b, off, none⟩) n cap l k gv w t) := by
  have hdl : (l.drop k).length = n - k := by rw [dropl, h.len]
  have hg : (l.drop k).getD 0 0 = l.getD k 0 := by simp
  have hd1 : (l.drop k).drop 1 = l.drop (k + 1) := dd ..
  have hd2 : ∀ q, (l.drop k).drop (1 + q) = l.drop (k + 1 + q) := fun q => by rw [dd, Nat.add_assoc]
  unfold itP at ht
  rw [hg, hd1] at ht
  obtain ⟨z, hz⟩ : ∃ z, l.getD k 0 = z := ⟨_, rfl⟩
  rw [hz] at ht
  cases hs : spaceB z
  case true =>
    rw [if_pos hs] at ht
    subst ht
    have := runP_le spaceB (l.drop k)
    exact item_sp h hk z hz hs _ rfl (by omega)
  rw [if_neg (by rw [hs]; decide)] at ht
  cases hD : sw sDe (l.drop k)
  case true =>
    rw [if_pos (by rw [hD]; rfl)] at ht
    cases hm : mtP (l.drop k) with
    | some m => rw [hm] at ht; subst ht; exact item_mD1 h hk z hz hs hD m hm
    | none => rw [hm] at ht; subst ht; exact item_mD0 h hk z hz hs hD hm
  cases hP : sw sPo (l.drop k)
  case true =>
    rw [if_pos (by rw [hD, hP]; rfl)] at ht
    cases hm : mtP (l.drop k) with
    | some m => rw [hm] at ht; subst ht; exact item_mP1 h hk z hz hs hD hP m hm
    | none => rw [hm] at ht; subst ht; exact item_mP0 h hk z hz hs hD hP hm
  rw [if_neg (by rw [hD, hP]; decide)] at ht
  cases hE : sw sPe (l.drop k)
  case false =>
    rw [if_neg (by rw [hE]; simp)] at ht
    subst ht
    exact item_j h hk z hz hs hD hP hE
  obtain ⟨q, hq⟩ : ∃ q, leadP (l.drop (k + 1)) = q := ⟨_, rfl⟩
  rw [hq, hd2] at ht
  by_cases hq0 : q = 0
  · rw [if_neg (by rw [hq0]; simp)] at ht
    subst ht
    exact item_pe0 h hk z hz hs hD hP hE (by rw [hq, hq0])
  cases hS : sw sSc (l.drop (k + 1 + q))
  case false =>
    rw [if_neg (by rw [hS]; simp)] at ht
    subst ht
    exact item_pe1 h hk z hz hs hD hP hE q hq (by omega) hS
  rw [if_pos (by rw [hE, hS]; simp; omega)] at ht
  subst ht
  exact item_pe2 h hk z hz hs hD hP hE q hq (by omega) hS
end

set_option maxHeartbeats 1000000 in
theorem items_any {a : Option Addr} {n cap : Nat} {l : List Int} {w : World} (R : NRow w a n cap l) (hn : n ≤ 1000) :
    Calls Try.prog 41 #[.slice a n cap] w (OwnD w (rowP itP 0 l)) := by
  have HNS := Lib.hid (newSubset_any R hn)
  have HALL := Lib.hid (fun (w1 : World) (p : Nat) (hw : w1.heap.size = p + 1) (hs : Sub (p + 1) w1 p a n cap l 0 (.slice none 0 0) []) => all_items (n := n) (l := l) R.len hn itP itP_reads p p w1 (by omega)
    (fun k gv w' => ∃ G, Sub (p + 1) w' p a n cap l k gv G) (.slice none 0 0) rfl ⟨[], hs⟩
    (fun k gv w' w'' ⟨G, h1⟩ h2 h3 h4 => ⟨G, h1.same h2 (fun b hb => h3 b (by omega)) h4⟩)
    (fun k gv w' hk ⟨G, h1⟩ hx hle => by
      obtain ⟨b, off, rfl, RR⟩ := h1.row.some (by omega)
      refine (item_sub h1 hk rfl).mono ?_
      rintro e w'' ⟨gv', G', he, hsub, hst⟩
      exact ⟨gv', he, ⟨G', hsub⟩, hst⟩))
  clear R
  go_enter Try.func41, Try.ntmps41
  go_wp2_with (first
    | (go_at_call 67; (with_reducible refine HNS.out.mono ?_); rintro e w1 ⟨⟨p, rfl, hp, hsub, hsz⟩, hb1⟩; have HSB := Lib.hid (And.intro hsz hsub); clear hsz hsub)
    | (go_at_call 66; (with_reducible refine (HALL.out _ p HSB.out.1 HSB.out.2).mono ?_); rintro e w2 ⟨v, rfl, hown, hk⟩))
  go_ret
  have h1 := hb1.size
  exact ⟨_, rfl, owns_lower hown h1, hk.below hb1 hp h1⟩

theorem rowP_facts {p : List Int → Nat × Nat} (hp : Reads p) (l : List Int) : (rowP p 0 l).length ≤ l.length + 5 ∧ ∀ x ∈ rowP p 0 l, x.2.1 ≤ l.length ∧ x.2.2 ≤ l.length := by
  have h1 := rowF_len hp l.length 0 l
  have h2 := rowF_chain hp l.length 0 l (Nat.le_refl _)
  refine ⟨by unfold rowP; omega, ?_⟩
  rw [Nat.zero_add] at h2
  have key : ∀ (P : List PartA) (k e : Nat), chainD k P e → k ≤ e ∧ ∀ x ∈ P, x.2.1 ≤ e ∧ x.2.2 ≤ e := by
    intro P
    induction P with
    | nil => intro k e h; exact ⟨Nat.le_of_eq h, fun x hx => by simp at hx⟩
    | cons y P ih =>
      rintro k e ⟨h3, h4, h5⟩
      obtain ⟨i1, i2⟩ := ih _ _ h5
      refine ⟨by omega, fun x hx => ?_⟩
      rcases List.mem_cons.1 hx with rfl | hx
      · omega
      · exact i2 x hx
  exact (key _ _ _ h2).2

set_option maxHeartbeats 400000 in
theorem Words_any {a : Option Addr} {n cap : Nat} {l : List Int} {w : World} (R : NRow w a n cap l) (hn : n ≤ 900) (f t : Int) :
    Calls Try.prog 18 #[.slice a n cap, .int .i64 f, .int .i64 t] w (OwnD w (inP (rowP wdP 0) l f t)) := by
  have HW := Lib.hid (within_words R hn f t (rowP wdP 0) (fun a' n' cap' l' w' R' hn' => words_any R' (by omega)) (rowP_facts wdP_reads))
  clear R
  go_enter Try.func18, Try.ntmps18
  go_wp2_with (go_at_call 34; (with_reducible refine HW.out.mono ?_); rintro e w1 ⟨v, rfl, hown, hb1⟩)
  go_ret
  exact ⟨_, rfl, hown, hb1⟩
set_option maxHeartbeats 400000 in
theorem Items_any {a : Option Addr} {n cap : Nat} {l : List Int} {w : World} (R : NRow w a n cap l) (hn : n ≤ 900) (f t : Int) :
    Calls Try.prog 16 #[.slice a n cap, .int .i64 f, .int .i64 t] w (OwnD w (inP (rowP itP 0) l f t)) := by
  have HW := Lib.hid (within_items R hn f t (rowP itP 0) (fun a' n' cap' l' w' R' hn' => items_any R' (by omega)) (rowP_facts itP_reads))
  clear R
  go_enter Try.func16, Try.ntmps16
  go_wp2_with (go_at_call 34; (with_reducible refine HW.out.mono ?_); rintro e w1 ⟨v, rfl, hown, hb1⟩)
  go_ret
  exact ⟨_, rfl, hown, hb1⟩

end Go.Proofs.Ytpjcheelafegbaa
