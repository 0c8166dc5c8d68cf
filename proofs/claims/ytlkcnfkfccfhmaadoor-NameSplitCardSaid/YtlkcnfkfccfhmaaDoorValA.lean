/-
  Contract: the library's word of eight bytes, at a row of bytes that lies in memory.
-/
import Derived.Test.YtlkcnfkfccfhmaaDoorTabs
import Derived.Lib.Endian
import Derived.Lib.EndianBits
import Derived.Lib.ValidAsc
import Derived.Lib.ValidLaws
import Derived.Laws.BitsAllLaws
namespace Go.Proofs.YtlkcnfkfccfhmaaDoor
open Go.RowKit

/-- From place o of block b on the bytes t lie. -/
def Lies (w : World) (b o : Nat) (t : ByteArray) : Prop := ∀ j, j < t.size → w.cell? ⟨b, o + j, none⟩ = some (.int .u8 (t.get! j).toNat)

theorem Lies.below {w w' : World} {b o : Nat} {t : ByteArray} (h : Lies w b o t) (hb : Below w.heap.size w w') : Lies w' b o t := fun j hj => by
  have := h j hj
  rw [hb.cell (cell_lt this)]; exact this
theorem Lies.zero {w : World} {b o : Nat} {t : ByteArray} (h : Lies w b o t) (h0 : 0 < t.size) : w.cell? ⟨b, o, none⟩ = some (.int .u8 (t.get! 0).toNat) := h 0 h0

theorem get_ext (t : ByteArray) (k j : Nat) (h : k + j < t.size) : (t.extract k t.size).get! j = t.get! (k + j) := by
  have h1 : j < (t.extract k t.size).size := by rw [Lib.ext_size]; omega
  have e1 := U8.at_get (t.extract k t.size) 0 j (by omega)
  have e2 := U8.at_get t k j h
  rw [List.drop_zero, Lib.ext_list] at e1
  rw [e1] at e2
  simp only [Option.some.injEq, Nat.zero_add] at e2
  exact UInt8.toNat_inj.1 (by omega)

theorem Lies.ext {w : World} {b o : Nat} {t : ByteArray} (h : Lies w b o t) (k : Nat) : Lies w b (o + k) (t.extract k t.size) := fun j hj => by
  rw [Lib.ext_size] at hj
  rw [get_ext t k j (by omega), Nat.add_assoc]
  exact h (k + j) (by omega)

set_option maxHeartbeats 2000000 in
set_option maxRecDepth 100000 in
theorem word_exact (b o m : Nat) (t : ByteArray) (w : World) (hm : t.size = m) (h8 : 8 ≤ m) (hl : Lies w b o t) :
    Calls Tryd.prog 47 #[.slice (some ⟨b, o, none⟩) m m] w fun e w' => e = .returned (.int .u64 (Lib.leNat [t.get! 0, t.get! 1, t.get! 2, t.get! 3, t.get! 4, t.get! 5, t.get! 6, t.get! 7])) ∧ ∃ q, w' = w.drewN q := by
  have c0 := hl.zero (by omega)
  have c1 := hl 1 (by omega)
  have c2 := hl 2 (by omega)
  have c3 := hl 3 (by omega)
  have c4 := hl 4 (by omega)
  have c5 := hl 5 (by omega)
  have c6 := hl 6 (by omega)
  have c7 := hl 7 (by omega)
  have l0 := (t.get! 0).toNat_lt
  have l1 := (t.get! 1).toNat_lt
  have l2 := (t.get! 2).toNat_lt
  have l3 := (t.get! 3).toNat_lt
  have l4 := (t.get! 4).toNat_lt
  have l5 := (t.get! 5).toNat_lt
  have l6 := (t.get! 6).toNat_lt
  have l7 := (t.get! 7).toNat_lt
  generalize t.get! 0 = x0 at c0 l0 ⊢
  generalize t.get! 1 = x1 at c1 l1 ⊢
  generalize t.get! 2 = x2 at c2 l2 ⊢
  generalize t.get! 3 = x3 at c3 l3 ⊢
  generalize t.get! 4 = x4 at c4 l4 ⊢
  generalize t.get! 5 = x5 at c5 l5 ⊢
  generalize t.get! 6 = x6 at c6 l6 ⊢
  generalize t.get! 7 = x7 at c7 l7 ⊢
  have hv : ((Lib.leNat [x0, x1, x2, x3, x4, x5, x6, x7] : Nat) : Int) = (x0.toNat : Int) + (x1.toNat : Int) * 256 + (x2.toNat : Int) * 65536 + (x3.toNat : Int) * 16777216 + (x4.toNat : Int) * 4294967296 + (x5.toNat : Int) * 1099511627776 + (x6.toNat : Int) * 281474976710656 + (x7.toNat : Int) * 72057594037927936 := by
    simp only [Lib.leNat]
    push_cast
    omega
  have HV := Lib.hid hv
  have q0 : 0 < m := by omega
  have q1 : (1 : Int) < (m : Int) := by omega
  have q2 : (2 : Int) < (m : Int) := by omega
  have q3 : (3 : Int) < (m : Int) := by omega
  have q4 : (4 : Int) < (m : Int) := by omega
  have q5 : (5 : Int) < (m : Int) := by omega
  have q6 : (6 : Int) < (m : Int) := by omega
  have q7 : (7 : Int) < (m : Int) := by omega
  clear hl hm hv
  go_enter Tryd.func47, Tryd.ntmps47
  go_wp2
  go_quiet (fail)
  go_wp2
  go_ret
  have hv := HV.out
  refine ⟨ret_int ?_, _, rfl⟩
  rw [hv]
  simp (disch := omega) only [u64_or8, u64_or16, u64_or24, u64_or32, u64_or40, u64_or48, u64_or56]

/-- What is asked of it. -/
theorem word_any (b o m : Nat) (t : ByteArray) (hm : t.size = m) (h8 : 8 ≤ m) : ∃ A : Nat, A < 18446744073709551616 ∧ (A &&& 9259542123273814144 = 0 → Lib.Asc t 8) ∧
    ∀ w, Lies w b o t → Calls Tryd.prog 47 #[.slice (some ⟨b, o, none⟩) m m] w fun e w' => e = .returned (.int .u64 A) ∧ ∃ q, w' = w.drewN q :=
  ⟨_, Lib.word_lt t, (Lib.word_asc t (by omega)).1, fun w hl => word_exact b o m t w hm h8 hl⟩

end Go.Proofs.YtlkcnfkfccfhmaaDoor
