/-
  The lowest two bits of an int.
-/
import Derived.Laws.Bits128
namespace Go.Proofs.YtmibajofbagphaaDoor

theorem i64_and3 (n : Int) : bits .and .i64 n 3 = n % 4 := by
  have h3 : (BitVec.ofInt 64 3).toNat = 2 ^ 2 - 1 := by decide
  have key : (BitVec.ofInt 64 n &&& BitVec.ofInt 64 3).toNat = (n % ((2 ^ 64 : Nat) : Int)).toNat % 2 ^ 2 := by
    rw [BitVec.toNat_and, BitVec.toNat_ofInt, h3, Nat.and_two_pow_sub_one_eq_mod]
  show IntKind.i64.wrap ((BitVec.ofInt 64 n &&& BitVec.ofInt 64 3).toNat : Nat) = n % 4
  rw [key, IntKind.wrap_i64]
  omega

theorem kind_three (n : Int) : (bits .and .i64 n 3).tmod 3 = 0 ∨ (bits .and .i64 n 3).tmod 3 = 1 ∨ (bits .and .i64 n 3).tmod 3 = 2 := by
  rw [i64_and3, Int.tmod_eq_emod_of_nonneg (by omega)]
  omega

end Go.Proofs.YtmibajofbagphaaDoor
