/-
  Contract of the reference's layer 8: a part.
-/
import Derived.Test.YtblebkpnjeghoaaRefA
namespace Go.Proofs.Ytblebkpnjeghoaa
open Go.RowKit
set_option linter.unusedVariables false

abbrev rparB : Obj := .cells #[.int .i64 0, .int .i64 0, .int .i64 0] 80
section
variable {b off n cap : Nat} {l : List Int} {W : World}
theorem refSpaceB {r : Int} {v : Bool} (h : spaceB r = v) (w : World) (hb : Below W.heap.size W w) :
    Says 86 #[.int .i32 r] (.bool v) W w := (refSpace_any r w).mono fun e w' ⟨he, hw⟩ => ⟨by rw [he, h], hw ▸ hb⟩
theorem refLeadB (R : RRow W b off n cap l) (k : Nat) {q : Nat} (hq : leadP (l.drop k) = q) (w : World) (hb : Below W.heap.size W w) :
    Says 87 #[.slice (some ⟨b, off, none⟩) n cap, .int .i64 k] (.int .i64 q) W w :=
  (refLead_any (some ⟨b, off, none⟩) n cap l k w R.len R.le R.max (R.below hb).cells).mono fun e w' ⟨he, hw⟩ => ⟨by rw [he, lead_drop, hq], hw ▸ hb⟩
theorem refStartsB (R : RRow W b off n cap l) (hwf : ∀ j, -2147483648 ≤ l.getD j 0 ∧ l.getD j 0 ≤ 2147483647) {s : ByteArray} (S : Sign s) (k : Nat) (hk : k ≤ n) {v : Bool} (hv : sw (sg s) (l.drop k) = v) (w : World) (hb : Below W.heap.size W w) :
    Says 52 #[.slice (some ⟨b, off, none⟩) n cap, .int .i64 k, .string s] (.bool v) W w :=
  (refStarts_any b off n cap l k s w R.len R.le R.max hk (by have := S.small; omega) S.low (R.below hb).cells hwf).mono fun e w' ⟨he, m, hw⟩ => ⟨by rw [he, hv], hw ▸ below_drewN hb m⟩
theorem quotedB (R : RRow W b off n cap l) (k t : Nat) (hk : k < t) (ht : t ≤ n) (z : Int) (hz : l.getD k 0 = z) {o : Option Nat} (ho : fnd [z] ((l.take t).drop (k + 1)) = o) (w : World) (hb : Below W.heap.size W w) :
    Says 120 #[.slice (some ⟨b, off, none⟩) n cap, .int .i64 k, .int .i64 t] (.int .i64 (quoV k o)) W w :=
  (quoted_any (R.below hb) k t hk ht z hz ho).mono fun e w' ⟨he, m, hw⟩ => ⟨he, hw ▸ below_drewN hb m⟩
theorem RRow.cut {w : World} (R : RRow w b off n cap l) (t : Nat) (ht : t ≤ n) : RRow w b off t cap (l.take t) := ⟨by rw [List.length_take, R.len]; omega, by have := R.le; omega, R.max, by rw [List.map_take]; exact R.cells.take t⟩
end

end Go.Proofs.Ytblebkpnjeghoaa
