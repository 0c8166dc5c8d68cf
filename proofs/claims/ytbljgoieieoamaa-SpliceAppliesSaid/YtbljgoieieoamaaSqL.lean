/-
  Apply, by what is plain.
-/
import Derived.Test.YtbljgoieieoamaaSqK
import Derived.Test.YtbljgoieieoamaaSqO
namespace Go.Proofs.Ytbljgoieieoamaa
open Go.Shelf Go.RowKit Go.Lib Go.Sort
set_option linter.unusedVariables false

/-- What Apply makes, where nothing is refused. -/
structure Yes (B : List Int) (L : List Chg) (C : List Int) (Kp : List PC) : Prop where
  good : ∀ x ∈ L, ¬ badC x
  free : takenC 0 (isort ltC L) = false
  app : apP B 0 [] [] ((isort ltC L).map img) = some (C, Kp)

/-- A row of bytes, as Apply takes it. -/
structure RowB (W : World) (a : Option Addr) (len cap : Nat) (B : List Int) : Prop where
  nil : a = none → cap = 0
  length : B.length = len
  few : len ≤ 1000
  le : len ≤ cap
  max : cap ≤ maxLen
  at_ : AtCells W a (B.map (.int .u8))
theorem RowB.below {w w' : World} {a : Option Addr} {len cap : Nat} {B : List Int} (h : RowB w a len cap B) (hb : Below w.heap.size w w') : RowB w' a len cap B := ⟨h.nil, h.length, h.few, h.le, h.max, h.at_.below hb⟩

theorem apply_yes {W : World} {a : Option Addr} {len cap : Nat} {B : List Int} (R : RowB W a len cap B) {v : Value} {n base : Nat} {L : List Chg} (own : W.ownsRow base 39 3 v n (cellsC L)) (hL : L.length = n) (hn : n < 20) (held : Held W W.heap.size L) {C : List Int} {Kp : List PC} (h : Yes B L C Kp) :
    Calls Try.prog 14 #[.slice a len cap, v] W fun e w' => ∃ v9 v10 K, e = .returned (.tuple #[v9, v10, .int .i64 0]) ∧ w'.ownsRow W.heap.size 5 1 v9 C.length (C.map (.int .u8)) ∧ w'.ownsRow W.heap.size 39 3 v10 n (cellsC K) ∧ K.map img = Kp ∧ Held w' w'.heap.size K ∧ Below W.heap.size W w' := by
  refine (apC_main a len cap B v n L W R.nil R.length R.few R.le R.max R.at_ hL hn (psC_own own hL hn h.good held) h.good h.free).mono ?_
  rintro e w' ⟨⟨h0, _⟩ | ⟨v9, v10, C', K, hap, rfl, o9, o10, hk, _, hkl⟩, hb⟩
  · rw [h.app] at h0; cases h0
  · rw [h.app] at hap
    simp only [Option.some.injEq, Prod.mk.injEq] at hap
    obtain ⟨rfl, hm⟩ := hap
    have hkn : K.length = n := by rw [hkl, List.length_map, isort_length, hL]
    rw [hkn] at o10
    exact ⟨v9, v10, K, rfl, o9, o10, hm.symm, fun x hx => ⟨fun j u hj => by
      obtain ⟨b, off, ha, _, _, hc⟩ := (hk x hx).cells j u hj
      exact ⟨b, off, ha, by have := cell_lt hc; omega, hc⟩, (hk x hx).le, (hk x hx).max, (hk x hx).few, (hk x hx).nil⟩, hb⟩

theorem apply_ref {W : World} {a : Option Addr} {len cap : Nat} {B : List Int} (R : RowB W a len cap B) {v : Value} {n base : Nat} {L : List Chg} (own : W.ownsRow base 39 3 v n (cellsC L)) (hL : L.length = n) (hn : n < 20) (held : Held W W.heap.size L) (h : ∀ C Kp, ¬ Yes B L C Kp) :
    Calls Try.prog 14 #[.slice a len cap, v] W fun e w' => ∃ k : Int, ¬ k = 0 ∧ e = .returned (.tuple #[.slice none 0 0, .slice none 0 0, .int .i64 k]) ∧ Below W.heap.size W w' := by
  by_cases hbad : ∃ x ∈ L, badC x
  · obtain ⟨a2, c2, rfl, hc2⟩ := owns_slice own
    exact (apC_refused a len cap _ 3 (by decide) W (psC_bad a2 n c2 L W hL hn (AtCells.of_owns own) hbad)).mono fun e w' ⟨h1, h2⟩ => ⟨3, by decide, h1, h2⟩
  · have hgood : ∀ x ∈ L, ¬ badC x := fun x hx hb => hbad ⟨x, hx, hb⟩
    cases htk : takenC 0 (isort ltC L) with
    | true =>
      refine (apC_refused a len cap _ 9 (by decide) W ((psC_own own hL hn hgood held).mono fun e w' h => ?_)).mono fun e w' ⟨h1, h2⟩ => ⟨9, by decide, h1, h2⟩
      obtain ⟨⟨_, h1⟩ | ⟨h1, _⟩, hb⟩ := h
      · exact ⟨h1, hb⟩
      · rw [htk] at h1; cases h1
    | false =>
      refine (apC_main a len cap B v n L W R.nil R.length R.few R.le R.max R.at_ hL hn (psC_own own hL hn hgood held) hgood htk).mono ?_
      rintro e w' ⟨⟨_, h1⟩ | ⟨v9, v10, C', K, hap, _⟩, hb⟩
      · exact ⟨3, by decide, h1, hb⟩
      · exact absurd ⟨hgood, htk, hap⟩ (h _ _)

/-- The changes that a statement takes. -/
def fewL (L : List Chg) : List Chg := (L.take 8).map shC
theorem fewL_length {L : List Chg} {n : Nat} (h : L.length = n) : (fewL L).length = min n 8 := by
  unfold fewL
  rw [List.length_map, List.length_take, h]; omega
theorem fewL_short {L : List Chg} {x : Chg} (hx : x ∈ fewL L) : x.2.2.2.2.length ≤ 80 := by
  obtain ⟨y, _, rfl⟩ := List.mem_map.1 hx
  simp only [shC, List.length_take]; omega
theorem fewL_held {w W : World} {L : List Chg} (h : ∀ x ∈ L, BytesN w x) (hb : Below w.heap.size w W) : Held W W.heap.size (fewL L) := fun x hx => by
  obtain ⟨y, hy, rfl⟩ := List.mem_map.1 hx
  have hN := h y (List.mem_of_mem_take hy)
  refine ⟨fun j u hj => ?_, ?_, hN.max, ?_, hN.nil⟩
  · simp only [shC, List.map_take] at hj
    obtain ⟨b, off, ha, hc⟩ := (hN.at_.take 80) j u hj
    have hlt := cell_lt hc
    refine ⟨b, off, ha, by have := hb.size; omega, ?_⟩
    rw [hb.cell (p := ⟨b, off + j, none⟩) hlt]; exact hc
  · simp only [shC, List.length_take]; have := hN.le; omega
  · simp only [shC, List.length_take]; omega

/-- What leads back makes the bytes again. -/
theorem yes_back {B C : List Int} {L K : List Chg} {Kp : List PC} (h : Yes B L C Kp) (hs : ∀ x ∈ L, x.2.2.2.2.length ≤ 80) (hK : K.map img = Kp) : (∃ A, Yes C K B A) ∧ C.length ≤ B.length + 80 * L.length := by
  have hch := chP_of (isort ltC L) 0 h.free (fun x hx => h.good x (mem_isort.1 hx))
  obtain ⟨C2, K2, hC, hK2, hlen, hc2, hap⟩ := back_ok B ((isort ltC L).map img) 0 [] [] C Kp (Nat.zero_le _) hch (fun x hx => by
    obtain ⟨y, hy, rfl⟩ := List.mem_map.1 hx
    exact hs y (mem_isort.1 hy)) h.app
  rw [List.nil_append] at hC hK2
  subst hC hK2
  simp only [List.length_nil, List.take_zero] at hap hc2
  rw [← hK] at hc2 hap
  obtain ⟨A, hA⟩ := hap []
  have hi := isort_chP K _ hc2
  refine ⟨⟨A, chP_good K _ (by simp) hc2, by rw [hi]; exact chP_taken K _ hc2, by rw [hi]; exact hA⟩, ?_⟩
  rw [List.length_map, isort_length] at hlen
  omega

theorem apP_len : ∀ (B : List Int) (S : List PC) (e : Nat) (C : List Int) (K : List PC) (C' : List Int) (K' : List PC), apP B e C K S = some (C', K') → K'.length = K.length + S.length
  | B, [], e, C, K, C', K', h => by
    simp only [apP, Option.some.injEq, Prod.mk.injEq] at h
    obtain ⟨_, rfl⟩ := h
    simp
  | B, x :: r, e, C, K, C', K', h => by
    simp only [apP] at h
    split at h
    · cases h
    · have := apP_len B r _ _ _ C' K' h
      rw [this]; simp only [List.length_append, List.length_cons, List.length_nil]; omega
theorem kp_len {B C : List Int} {L K : List Chg} {Kp : List PC} {q : Nat} (h : Yes B L C Kp) (hK : K.map img = Kp) (hL : L.length = q) : K.length = q := by
  have := apP_len B _ 0 [] [] C Kp h.app
  rw [← hK, List.length_map, List.length_map, isort_length, hL] at this
  simpa using this

end Go.Proofs.Ytbljgoieieoamaa
