/-
  The plain side of layer 12's Apply: from the last one to the first one is the same.
-/
import Derived.Test.YtbljgoieieoamaaSqK
namespace Go.Proofs.Ytbljgoieieoamaa
open Go.Shelf Go.RowKit Go.Lib Go.Sort
set_option linter.unusedVariables false

/-- From the last one to the first one, each where it stands. -/
def revP (B : List Int) : List PC → List Int
  | [] => B
  | x :: r => (revP B r).take x.1.toNat ++ x.2.2 ++ (revP B r).drop x.2.1.toNat
/-- What leads back, from how much was added so far. -/
def backP (B : List Int) : Int → List PC → List PC
  | _, [] => []
  | m, x :: r => (x.1 + m, x.1 + m + (x.2.2.length : Int), (B.take x.2.1.toNat).drop x.1.toNat) :: backP B (m + ((x.2.2.length : Int) - (x.2.1 - x.1))) r

theorem revP_take (B : List Int) : ∀ (S : List PC) (t : Nat), t ≤ B.length → chP t S → (∀ x ∈ S, x.2.1 ≤ (B.length : Int)) → (revP B S).take t = B.take t ∧ t ≤ (revP B S).length
  | [], t, ht, _, _ => ⟨rfl, ht⟩
  | (f, u, bs) :: r, t, ht, h, hb => by
    obtain ⟨h1, h2, h3⟩ := h
    simp only at h1 h2 h3
    have hu := hb _ (List.mem_cons_self ..)
    simp only at hu
    obtain ⟨fn, rfl⟩ : ∃ m : Nat, f = m := ⟨f.toNat, by omega⟩
    obtain ⟨un, rfl⟩ : ∃ m : Nat, u = m := ⟨u.toNat, by omega⟩
    obtain ⟨i1, i2⟩ := revP_take B r un (by omega) h3 (fun x hx => hb x (List.mem_cons_of_mem _ hx))
    simp only [revP, Int.toNat_natCast]
    have hfu : fn ≤ un := by omega
    have htf : t ≤ fn := by omega
    have hl : ((revP B r).take fn).length = fn := by rw [List.length_take]; omega
    refine ⟨?_, ?_⟩
    · rw [List.append_assoc, List.take_append_of_le_length (by rw [hl]; exact htf), List.take_take, Nat.min_eq_left htf]
      have := congrArg (List.take t) i1
      rwa [List.take_take, List.take_take, Nat.min_eq_left (by omega)] at this
    · rw [List.append_assoc, List.length_append, hl]; omega

theorem apP_rev (B : List Int) : ∀ (S : List PC) (e : Nat) (C : List Int) (K : List PC), e ≤ B.length → chP e S → (∀ x ∈ S, x.2.1 ≤ (B.length : Int)) → apP B e C K S = some (C ++ (revP B S).drop e, K ++ backP B ((C.length : Int) - e) S)
  | [], e, C, K, he, _, _ => by simp [apP, revP, backP]
  | (f, u, bs) :: r, e, C, K, he, h, hb => by
    obtain ⟨h1, h2, h3⟩ := h
    simp only at h1 h2 h3
    have hu := hb _ (List.mem_cons_self ..)
    simp only at hu
    obtain ⟨fn, rfl⟩ : ∃ m : Nat, f = m := ⟨f.toNat, by omega⟩
    obtain ⟨un, rfl⟩ : ∃ m : Nat, u = m := ⟨u.toNat, by omega⟩
    have hef : e ≤ fn := by omega
    have hfu : fn ≤ un := by omega
    have hub : un ≤ B.length := by omega
    have hbr := fun x hx => hb x (List.mem_cons_of_mem _ hx)
    obtain ⟨i1, i2⟩ := revP_take B r un hub h3 hbr
    have hf1 : (revP B r).take fn = B.take fn := by
      have := congrArg (List.take fn) i1
      rwa [List.take_take, List.take_take, Nat.min_eq_left hfu] at this
    have hml : ((B.take fn).drop e).length = fn - e := by rw [List.length_drop, List.length_take]; omega
    simp only [apP, revP, backP, Int.toNat_natCast]
    rw [if_neg (by omega), apP_rev B r un _ _ hub h3 hbr, hf1]
    have e1 : (B.take fn ++ bs ++ (revP B r).drop un).drop e = (B.take fn).drop e ++ bs ++ (revP B r).drop un := by
      rw [List.append_assoc, List.drop_append_of_le_length (by rw [List.length_take]; omega), List.append_assoc]
    have e2 : (((C ++ (B.take fn).drop e).length : Nat) : Int) = (fn : Int) + ((C.length : Int) - e) := by
      rw [List.length_append, hml]; omega
    have e3 : (((C ++ (B.take fn).drop e).length + bs.length : Nat) : Int) = (fn : Int) + ((C.length : Int) - e) + (bs.length : Int) := by
      rw [List.length_append, hml]; omega
    have e4 : (((C ++ (B.take fn).drop e ++ bs).length : Nat) : Int) - (un : Int) = (C.length : Int) - e + ((bs.length : Int) - ((un : Int) - fn)) := by
      rw [List.length_append, List.length_append, hml]; omega
    rw [e1, e2, e3, e4]
    simp only [List.append_assoc, List.singleton_append]

theorem apP_none (B : List Int) : ∀ (S : List PC) (e : Nat) (C : List Int) (K : List PC), (∃ x ∈ S, (B.length : Int) < x.2.1) → apP B e C K S = none
  | [], e, C, K, h => by obtain ⟨x, hx, _⟩ := h; simp at hx
  | y :: r, e, C, K, h => by
    simp only [apP]
    split
    · rfl
    · rename_i hy
      obtain ⟨x, hx, hlt⟩ := h
      rcases List.mem_cons.1 hx with rfl | hx
      · exact absurd hlt hy
      · exact apP_none B r _ _ _ ⟨x, hx, hlt⟩

end Go.Proofs.Ytbljgoieieoamaa
