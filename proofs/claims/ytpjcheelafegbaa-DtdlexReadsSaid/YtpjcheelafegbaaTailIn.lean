/-
  A region that draws its order, inside a fence (a round of a range over a function, too): its operations that only read or compute, then a tail in a forced order.
-/
import Derived.StillTail
import Derived.StillTactics
import Derived.OrdersIn
import Derived.TacticsIn
import Derived.OwnWalkIn
import Derived.RangeFuncBox
import Derived.Test.YtpjcheelafegbaaRows
namespace Go.Proofs.Ytpjcheelafegbaa
open Go

/-- An operation that calls nothing and defers nothing. -/
def calmOp : Op → Bool
  | .move _ | .assign _ | .load _ _ | .store _ _ _ | .binOp _ _ _ _ _ | .fieldAddr _ _ _ | .indexAddr _ _ _ => true
  | _ => false
def calmB (l : List Oper) : Bool := l.all fun o => calmOp o.op

theorem run_value {s : Sem Value} {P : Program} {w : World} : ∀ f args w', (do let x ← s; pure (Next.value x) : Sem Next).run P w ≠ .ok (.enter f args) w' := by
  intro f args w'
  simp only [Sem.run_bind]
  cases s.run P w <;> simp [Result.andThen]
theorem run_skip {s : Sem Unit} {P : Program} {w : World} : ∀ f args w', (do s; pure Next.skip : Sem Next).run P w ≠ .ok (.enter f args) w' := by
  intro f args w'
  simp only [Sem.run_bind]
  cases s.run P w <;> simp [Result.andThen]

theorem calm_spec {o : Oper} (h : calmOp o.op = true) : (∀ (P : Program) (w : World) ρ, o.about P w ρ = none) ∧ (∀ ro ρ, o.semAt ro ρ = execOp ρ o) ∧ (∀ (P : Program) (w w' : World) ρ f args, (execOp ρ o).run P w ≠ .ok (.enter f args) w') := by
  have hd : ∀ c, o.op ≠ .defer c := fun c e => by rw [e] at h; cases h
  refine ⟨fun P w ρ => ?_, fun ro ρ => ?_, fun P w w' ρ f args => ?_⟩
  · unfold Oper.about
    cases ho : o.op <;> first | rfl | (rw [ho] at h; cases h)
  · cases ro with
    | none => rfl
    | some l => exact Oper.semAt_some l ρ o hd
  · unfold execOp
    cases ho : o.op <;> first
      | (rw [ho] at h; cases h; done)
      | exact run_value f args w'
      | exact run_skip f args w'
      | simp

section
variable {F : Fence} {n : Nat} {P : Program} {ops : Array Oper} {Q' : Exit → Act → World → Prop} {md : Region.Mode} {w : World}

theorem wpOpIn_still {i : Nat} {a : Act} {K : Act → Prop} {K' : Act → World → Prop} (hcalm : ∀ o : Oper, ops[i]? = some o → calmOp o.op = true) (h : ∀ a, K a → K' a w) (hh : stOp P ops w i K a) : wpOpIn F n P ops Q' i K' a w := by
  unfold stOp at hh
  unfold wpOpIn
  cases ho : ops[i]? with
  | none => simp only [ho] at hh ⊢; exact h _ hh
  | some o =>
    obtain ⟨c1, c2, c3⟩ := calm_spec (hcalm o ho)
    simp only [ho] at hh ⊢
    split
    · rename_i hw
      simp only [hw, if_true] at hh
      unfold Oper.wpIn
      refine ⟨(fun f hf => by rw [c1] at hf; cases hf), ?_⟩
      rw [c2]
      unfold Oper.still at hh
      have c3' := c3 P w
      generalize hr : (execOp a.eval o).run P w = r at hh
      cases r with
      | ok nx w' =>
        cases nx <;> simp only [Oper.stillUpon] at hh <;> simp only [Oper.uponIn]
        case enter f args => exact absurd hr (c3' w' a.eval f args)
        all_goals (obtain ⟨rfl, h2⟩ := hh; exact h _ h2)
      | halt x w' => simp only [Oper.stillUpon] at hh
    · rename_i hw
      simp only [hw] at hh
      exact ⟨(fun f hf => by rw [c1] at hf; cases hf), h _ hh⟩

theorem wpAnyIn_head {m g : Nat} {L : Array Bool → Act → Prop} (hcalm : ∀ (i : Nat) (o : Oper), ops[i]? = some o → calmOp o.op = true) (hL : ∀ listed a, L listed a → wpAnyIn F n P md ops Q' g listed a w) :
    ∀ (f : Nat) (listed : Array Bool) (a : Act), wpAnyL P md ops w m L f listed a → wpAnyIn F n P md ops Q' (f + g) listed a w
  | 0, listed, a, h => by rw [Nat.zero_add]; exact hL _ _ h
  | f + 1, listed, a, h => by
    rw [show f + 1 + g = (f + g) + 1 by omega]
    exact ⟨fun h0 => absurd h0 h.1, fun i hi => wpOpIn_still (hcalm i) (fun a' h' => wpAnyIn_head hcalm hL f _ a' h') (h.2 i hi).2⟩

theorem wpAnyIn_seq : ∀ (l : List Oper) (k : Nat) (listed : Array Bool) (a : Act) (w : World), (∀ j, l[j]? = ops[k + j]?) →
    Region.seqB md ops l.length k listed = true → wpListIn F n P ops Q' l a w → wpAnyIn F n P md ops Q' l.length listed a w
  | [], _, _, _, _, _, hB, h => ⟨by simpa [Region.seqB] using hB, h⟩
  | o :: l, k, listed, a, w, hl, hB, h => by
    have h0 : ops[k]? = some o := by simpa using (hl 0).symm
    simp only [List.length_cons, Region.seqB, Bool.and_eq_true, decide_eq_true_eq] at hB
    refine ⟨fun h1 => (by rw [hB.1] at h1; cases h1), fun i hi => ?_⟩
    rw [hB.1] at hi
    have hik : i = k := by simpa using hi
    subst hik
    have hw : wpOpIn F n P ops Q' i (wpListIn F n P ops Q' l) a w := by unfold wpOpIn; simp only [h0]; exact h
    exact wpOpIn_mono (fun a' w' h' => wpAnyIn_seq l (i + 1) _ a' w' (fun j => by have := hl (j + 1); simpa [Nat.add_assoc, Nat.add_comm 1 j] using this) hB.2 h') hw
end

/-- **A region whose first m operations only read or compute, whatever their order, and whose others come one behind the other.** -/
theorem region_tail_in {F : Fence} {n : Nat} {P : Program} {id : Nat} {Q : Exit → Act → World → Prop} {a : Act} {w : World} {l : List Oper} (m : Nat) (hm : P.follows .mixedOrders = true) (hcalm : calmB l = true) (hB : Region.lexTailB .any l.toArray m = true)
    (h : wpStill P l.toArray { w with drawn := w.drawn + 1 } (fun a' => wpListIn F n P l.toArray Q (l.drop m) a' { w with drawn := w.drawn + 1 }) (l.take m) a) : (Code.region id l.toArray true).wpIn F n P Q a w := by
  simp only [Region.lexTailB, Bool.and_eq_true, decide_eq_true_eq] at hB
  obtain ⟨⟨⟨⟨hsel, hn⟩, hs⟩, hc⟩, hlex⟩ := hB
  have hn' : m < l.length := by simpa using hn
  have htl : (l.take m).length = m := by simp; omega
  have hdl : (l.drop m).length = l.toArray.size - m := by simp
  have hcm : ∀ (i : Nat) (o : Oper), l.toArray[i]? = some o → calmOp o.op = true := fun i o ho => by
    have hmem : o ∈ l := by
      have : l[i]? = some o := by simpa using ho
      exact List.mem_of_getElem? this
    exact List.all_eq_true.1 hcalm o hmem
  have inv0 : HeadInv .any l.toArray m (Array.replicate l.toArray.size false) :=
    ⟨by simp, fun j oj _ hl => (by rw [getD_replicate_false] at hl; cases hl), fun t _ ht => getD_in (by simpa using ht) (getD_replicate_false _ _)⟩
  have H := wpAnyL_lex (md := .any) (g := l.toArray.size - m) hsel hs hc hn (l.take m) 0 _ a (fun j hj => by
    have hj' : j < m := by rw [htl] at hj; exact hj
    simp [hj']) (by simpa using htl) inv0 (by rw [htl]; exact hlex) h
  refine wpIn_region_any hm ?_
  have := wpAnyIn_head (F := F) (n := n) (Q' := Q) (g := l.toArray.size - m) hcm (fun listed a' hL => by
    have := wpAnyIn_seq (F := F) (n := n) (md := .any) (Q' := Q) (l.drop m) m listed a' { w with drawn := w.drawn + 1 } (fun j => by simp [List.getElem?_drop]) (by rw [hdl]; exact hL.1) hL.2
    rwa [hdl] at this) _ _ _ H
  rw [htl, show m + (l.toArray.size - m) = l.toArray.size by omega] at this
  exact this

theorem region_tail_drew {F : Fence} {n : Nat} {P : Program} {id : Nat} {Q : Exit → Act → World → Prop} {a : Act} {w : World} {l : List Oper} (m : Nat) (hm : P.follows .mixedOrders = true) (hcalm : calmB l = true) (hB : Region.lexTailB .any l.toArray m = true)
    (h : wpStill P l.toArray w.drew (fun a' => wpListIn F n P l.toArray Q (l.drop m) a' w.drew) (l.take m) a) : (Code.region id l.toArray true).wpIn F n P Q a w :=
  region_tail_in m hm hcalm hB h

end Go.Proofs.Ytpjcheelafegbaa
