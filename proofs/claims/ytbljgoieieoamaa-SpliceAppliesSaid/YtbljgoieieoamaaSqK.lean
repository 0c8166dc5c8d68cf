/-
  The plain side of layer 12: what leads back makes the bytes again.
-/
import Derived.Test.YtbljgoieieoamaaSqF
namespace Go.Proofs.Ytbljgoieieoamaa
open Go.Shelf Go.RowKit Go.Lib Go.Sort
set_option linter.unusedVariables false

theorem chP_taken : ∀ (L : List Chg) (e : Int), chP e (L.map img) → takenC e L = false
  | [], _, _ => rfl
  | x :: r, e, h => by
    obtain ⟨h1, h2, h3⟩ := h
    simp only [img] at h1 h2 h3
    simp only [takenC, Bool.or_eq_false_iff, decide_eq_false_iff_not]
    exact ⟨by omega, chP_taken r _ h3⟩
theorem chP_good : ∀ (L : List Chg) (e : Int), 0 ≤ e → chP e (L.map img) → ∀ x ∈ L, ¬ badC x
  | [], _, _, _, x, hx => by simp at hx
  | y :: r, e, he, h, x, hx => by
    obtain ⟨h1, h2, h3⟩ := h
    simp only [img] at h1 h2 h3
    rcases List.mem_cons.1 hx with rfl | hx
    · unfold badC; omega
    · exact chP_good r _ (by omega) h3 x hx
theorem putC_last (o : List Chg) (x y : Chg) (h : ltC y x = false) : putC ltC (o ++ [x]) y = o ++ [x] ++ [y] := by
  have hp : placeC ltC y (o ++ [x]) (o ++ [x]).length = (o ++ [x]).length := by
    rw [show (o ++ [x]).length = o.length + 1 by simp]
    unfold placeC
    rw [show (o ++ [x]).getD o.length default = x by simp [List.getD_eq_getElem?_getD], h]
    rfl
  unfold putC
  rw [hp, List.take_length, List.drop_length]
theorem foldl_chP : ∀ (r o : List Chg) (x : Chg), x.1 ≤ x.2.1 → chP x.2.1 (r.map img) → r.foldl (putC ltC) (o ++ [x]) = o ++ [x] ++ r
  | [], o, x, _, _ => by simp
  | y :: r, o, x, hx, h => by
    obtain ⟨h1, h2, h3⟩ := h
    simp only [img] at h1 h2 h3
    rw [List.foldl_cons, putC_last o x y (by unfold ltC; rw [decide_eq_false_iff_not]; omega), foldl_chP r (o ++ [x]) y h2 h3]
    simp
theorem isort_chP (L : List Chg) (e : Int) (h : chP e (L.map img)) : isort ltC L = L := by
  unfold isort
  cases L with
  | nil => rfl
  | cons x r =>
    obtain ⟨_, h2, h3⟩ := h
    have := foldl_chP r [] x h2 h3
    rw [List.foldl_cons, show putC ltC [] x = [x] from rfl]
    simpa using this

/-- What leads back makes the bytes again, from wherever it is looked at. -/
theorem back_ok (B : List Int) : ∀ (S : List PC) (e : Nat) (C : List Int) (K : List PC) (C' : List Int) (K' : List PC), e ≤ B.length → chP e S → (∀ x ∈ S, x.2.2.length ≤ 80) → apP B e C K S = some (C', K') →
    ∃ C2 K2, C' = C ++ C2 ∧ K' = K ++ K2 ∧ C2.length ≤ (B.length - e) + 80 * S.length ∧ chP C.length K2 ∧ ∀ A, ∃ A', apP C' C.length (B.take e) A K2 = some (B, A')
  | [], e, C, K, C', K', he, _, _, h => by
    simp only [apP, Option.some.injEq, Prod.mk.injEq] at h
    obtain ⟨rfl, rfl⟩ := h
    exact ⟨B.drop e, [], rfl, by simp, by simp, trivial, fun A => ⟨A, by simp [apP]⟩⟩
  | (f, t, bs) :: r, e, C, K, C', K', he, hch, h80, h => by
    obtain ⟨h1, h2, h3⟩ := hch
    simp only at h1 h2 h3
    obtain ⟨fn, rfl⟩ : ∃ m : Nat, f = m := ⟨f.toNat, by omega⟩
    obtain ⟨tn, rfl⟩ : ∃ m : Nat, t = m := ⟨t.toNat, by omega⟩
    simp only [apP, Int.toNat_natCast] at h
    split at h
    · cases h
    · rename_i hle
      have htl : tn ≤ B.length := by omega
      have hef : e ≤ fn := by omega
      have hft : fn ≤ tn := by omega
      obtain ⟨M, hM⟩ : ∃ M, M = (B.take fn).drop e := ⟨_, rfl⟩
      obtain ⟨D, hD⟩ : ∃ D, D = (B.take tn).drop fn := ⟨_, rfl⟩
      rw [← hM, ← hD] at h
      have hMl : M.length = fn - e := by rw [hM, List.length_drop, List.length_take]; omega
      have hb := h80 _ (List.mem_cons_self ..)
      simp only at hb
      obtain ⟨C2, K2, rfl, rfl, hlen, hc2, hap⟩ := back_ok B r tn _ _ C' K' htl (by simpa using h3) (fun x hx => h80 x (List.mem_cons_of_mem _ hx)) h
      refine ⟨M ++ bs ++ C2, _ :: K2, by simp, by rw [List.append_assoc, List.singleton_append], ?_, ⟨?_, ?_, ?_⟩, fun A => ?_⟩
      · simp only [List.length_append, List.length_cons] at hlen ⊢; omega
      · simp only [List.length_append]; omega
      · simp only [List.length_append]; omega
      · have : (((C ++ M ++ bs).length : Nat) : Int) = (((C ++ M).length + bs.length : Nat) : Int) := by simp only [List.length_append]
        rw [← this]; exact hc2
      · obtain ⟨A', hA⟩ := hap (A ++ [((((B.take e ++ M).length : Nat) : Int), (((B.take e ++ M).length + D.length : Nat) : Int), bs)])
        refine ⟨A', ?_⟩
        have e1 : ((C ++ M ++ bs ++ C2).take ((C ++ M).length + bs.length)) = C ++ M ++ bs := by
          rw [show (C ++ M).length + bs.length = (C ++ M ++ bs).length by simp only [List.length_append], List.take_left]
        have e2 : ((C ++ M ++ bs ++ C2).take (C ++ M).length) = C ++ M := by
          rw [List.append_assoc (C ++ M), List.take_left]
        have e3 : B.take e ++ M ++ D = B.take tn := by
          have q1 : B.take e ++ M = B.take fn := by
            rw [hM]
            conv => rhs; rw [← List.take_append_drop e (B.take fn)]
            rw [List.take_take, Nat.min_eq_left hef]
          rw [q1, hD]
          conv => rhs; rw [← List.take_append_drop fn (B.take tn)]
          rw [List.take_take, Nat.min_eq_left hft]
        rw [apP, if_neg (by simp only [List.length_append]; omega)]
        simp only [Int.toNat_natCast]
        rw [e1, e2, show (C ++ M).drop C.length = M from List.drop_left, show (C ++ M ++ bs).drop (C ++ M).length = bs from List.drop_left, e3]
        rw [show (C ++ M).length + bs.length = (C ++ M ++ bs).length by simp only [List.length_append]]
        exact hA

end Go.Proofs.Ytbljgoieieoamaa
