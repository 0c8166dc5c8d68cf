/-
  SortStableFunc's family at elements of k cells (k a variable), over any program that bears the bodies: swapRange, rotate.
-/
import Derived.Test.YtlkcnfkfccfhmaaSrM
import Derived.Test.YtlkcnfkfccfhmaaProg
import Derived.Shelf.SlSortCmp.KitK
import Derived.Sort.WalkB2
import Derived.Sort.WalkB12
import Derived.Deep.LoopGhost
namespace Go.Proofs.Ytlkcnfkfccfhmaa
open Go.Shelf Go.RowKit Go.Lib Go.Sort
set_option linter.unusedVariables false

/-- What the walks ask of the program. -/
structure Srt (P : Program) (k : Nat) : Prop where
  mixed : P.follows .mixedOrders = true
  f32 : P.funcs[(32 : Nat)]? = some Try.f32
  f33 : P.funcs[(33 : Nat)]? = some Try.f33
  f35 : P.funcs[(35 : Nat)]? = some Try.f35
  f36 : P.funcs[(36 : Nat)]? = some Try.f36
  t3 : P.underlying 3 = some (TypeDesc.int IntKind.i64)
  a3 : ∀ w, (isAgg 3).run P w = .ok false w
  z3 : ∀ w, (Go.sizeOf 3).run P w = .ok 1 w
  v3 : ∀ w, (zeroValue 3).run P w = .ok (Value.int IntKind.i64 0) w
  t4 : P.underlying 4 = some (TypeDesc.bool)
  a4 : ∀ w, (isAgg 4).run P w = .ok false w
  z4 : ∀ w, (Go.sizeOf 4).run P w = .ok 1 w
  v4 : ∀ w, (zeroValue 4).run P w = .ok (Value.bool false) w
  t41 : P.underlying 41 = some (TypeDesc.slice 45)
  a41 : ∀ w, (isAgg 41).run P w = .ok false w
  z41 : ∀ w, (Go.sizeOf 41).run P w = .ok 1 w
  v41 : ∀ w, (zeroValue 41).run P w = .ok (Value.slice none 0 0) w
  aE : ∀ w, (isAgg 45).run P w = .ok true w
  zE : ∀ w, (Go.sizeOf 45).run P w = .ok k w

variable {P : Program} {α : Type} [Inhabited α]

set_option maxHeartbeats 4000000 in
set_option maxRecDepth 1000000 in
/-- slices.swapRangeCmpFunc at elements of k cells. -/
theorem swapRange_k (k : Nat) (L : Srt P k) (enc : α → List Value) (g : Nat) (cb : Array Value) (blk off cap a b n : Nat) (d0 d : Array α) (w0 w : World)
    (R : RowK enc k w0 blk off d0) (hs : d0.size = d.size) (S : SWK enc k w0 blk off d w) (hab : a + n ≤ b) (hb : b + n ≤ d.size) (hsz : d.size < 4611686018427387904) :
    Calls P 36 #[.slice (some ⟨blk, off, none⟩) d.size cap, .int .i64 a, .int .i64 b, .int .i64 n, .func (.func g) #[] cb] w fun e w' => e = .returned (.tuple #[]) ∧ SWK enc k w0 blk off (swr d a b n) w' := by
  have mixed := L.mixed; have t3 := L.t3; have a3 := L.a3; have z3 := L.z3; have v3 := L.v3; have t4 := L.t4; have a4 := L.a4; have z4 := L.z4; have v4 := L.v4; have t41 := L.t41; have a41 := L.a41; have z41 := L.z41; have v41 := L.v41
  have aE := L.aE; have zE := L.zE
  have F := L.f36
  have S0 : Aside (SWK enc k w0 blk off d w) := S
  clear S
  go_enter F, Try.ntmps36
  go_wp2
  go_loopg [10] n (fun kx s10 wr => ∃ (i : Nat), s10 = .int .i64 i ∧ i ≤ n ∧ n - i ≤ kx ∧ Aside (SWK enc k w0 blk off (swr d a b i) wr))
  case atStart => exact ⟨0, by go_num, Nat.zero_le _, Nat.le_refl _, S0⟩
  case round =>
    clear S0
    obtain ⟨i, rfl, hin, hkx, S1⟩ := hrel
    have hsw : (swr d a b i).size = d.size := swr_size d a b i
    by_cases hlt : i < n
    · have hltz : (i : Int) < (n : Int) := by omega
      go_wp2_with fail
      have ra : IntKind.i64.wrap ((a : Int) + (i : Int)) = (a : Int) + (i : Int) := by rw [IntKind.wrap_i64]; omega
      have rb : IntKind.i64.wrap ((b : Int) + (i : Int)) = (b : Int) + (i : Int) := by rw [IntKind.wrap_i64]; omega
      have ea : ((a : Int) + (i : Int)).toNat = a + i := by omega
      have eb : ((b : Int) + (i : Int)).toNat = b + i := by omega
      have pa : (0 : Int) ≤ (a : Int) + (i : Int) := by omega
      have pb : (0 : Int) ≤ (b : Int) + (i : Int) := by omega
      have ba : (a : Int) + (i : Int) < (d.size : Int) := by omega
      have bb : (b : Int) + (i : Int) < (d.size : Int) := by omega
      have S2 : Aside (SWK enc k w0 blk off (swp (swr d a b i) (a + i) (b + i)) ((wr.drew.setCells blk (off + (a + i) * k) (enc (swr d a b i)[b + i]!)).setCells blk (off + (b + i) * k) (enc (swr d a b i)[a + i]!))) := S1.out.swapped R (a + i) (b + i) (by omega) (by omega)
      have la := S1.out.ld1 R (by omega) P (a + i) (by omega)
      have lb := S1.out.ld1 R (by omega) P (b + i) (by omega)
      have sa := S1.out.st1 R (by omega) P (a + i) (by omega) (swr d a b i)[b + i]!
      have sb := S1.out.st2 R (by omega) P (a + i) (b + i) (by omega) (by omega) (swr d a b i)[b + i]! (swr d a b i)[a + i]!
      have na : (enc (swr d a b i)[a + i]!).length = k := R.hk _
      have nb : (enc (swr d a b i)[b + i]!).length = k := R.hk _
      generalize enc (swr d a b i)[a + i]! = cI at S2 la sb na
      generalize enc (swr d a b i)[b + i]! = cJ at S2 lb sa sb nb
      clear S1
      go_big_region_o
      clear la lb sa sb
      generalize (wr.drew.setCells blk (off + (a + i) * k) cJ).setCells blk (off + (b + i) * k) cI = w2 at S2 ⊢
      go_wp2
      go_roundg (n - (i + 1))
      case measure => omega
      case rel => exact ⟨i + 1, by go_num, by omega, Nat.le_refl _, S2⟩
    · have hltz : ¬ (i : Int) < (n : Int) := by omega
      obtain rfl : i = n := by omega
      go_wp2
      go_end0
      exact ⟨rfl, S1.out⟩

/-- The same, its numbers as a walk spells them. -/
theorem swapRange_z (k : Nat) (L : Srt P k) (enc : α → List Value) (g : Nat) (cb : Array Value) (blk off cap a b n len : Nat) (za zb zn : Int) (d0 d : Array α) (w0 w : World)
    (R : RowK enc k w0 blk off d0) (hs : d0.size = d.size) (S : Aside (SWK enc k w0 blk off d w)) (hlen : d.size = len) (h1 : za = a) (h2 : zb = b) (h3 : zn = n) (hab : a + n ≤ b) (hb : b + n ≤ d.size) (hsz : d.size < 4611686018427387904) :
    Calls P 36 #[.slice (some ⟨blk, off, none⟩) len cap, .int .i64 za, .int .i64 zb, .int .i64 zn, .func (.func g) #[] cb] w fun e w' => e = .returned (.tuple #[]) ∧ Aside (SWK enc k w0 blk off (swr d a b n) w') := by
  subst hlen h1 h2 h3
  exact swapRange_k k L enc g cb blk off cap a b n d0 d w0 w R hs S.out hab hb hsz

set_option maxHeartbeats 4000000 in
set_option maxRecDepth 1000000 in
/-- slices.rotateCmpFunc at elements of k cells. -/
theorem rotate_k (k : Nat) (L : Srt P k) (enc : α → List Value) (g : Nat) (cb : Array Value) (blk off cap a m b : Nat) (d0 d : Array α) (w0 w : World)
    (R : RowK enc k w0 blk off d0) (hs : d0.size = d.size) (S : SWK enc k w0 blk off d w) (ham : a < m) (hmb : m < b) (hb : b ≤ d.size) (hsz : d.size < 4611686018427387904) :
    Calls P 35 #[.slice (some ⟨blk, off, none⟩) d.size cap, .int .i64 a, .int .i64 m, .int .i64 b, .func (.func g) #[] cb] w fun e w' => e = .returned (.tuple #[]) ∧ ∃ d', Rot d a m b d' ∧ SWK enc k w0 blk off d' w' := by
  have mixed := L.mixed; have t3 := L.t3; have a3 := L.a3; have z3 := L.z3; have v3 := L.v3; have t4 := L.t4; have a4 := L.a4; have z4 := L.z4; have v4 := L.v4; have t41 := L.t41; have a41 := L.a41; have z41 := L.z41; have v41 := L.v41
  have F := L.f35
  have e36 : ∀ args w, (callFunc 36 args).run P w = .ok (.enter 36 args) w := enters_of L.f36 (by kernel_rfl) rfl
  have S0 : Aside (SWK enc k w0 blk off d w) := S
  clear S
  go_enter F, Try.ntmps35
  have r1 : IntKind.i64.wrap ((m : Int) - (a : Int)) = (m : Int) - (a : Int) := by rw [IntKind.wrap_i64]; omega
  have r2 : IntKind.i64.wrap ((b : Int) - (m : Int)) = (b : Int) - (m : Int) := by rw [IntKind.wrap_i64]; omega
  go_wp2
  clear r1 r2
  go_loopg [10, 11] (b - a) (fun kx s10 s11 wr => ∃ (i j : Nat) (c : Array α), s10 = .int .i64 i ∧ s11 = .int .i64 j ∧ i + j ≤ kx ∧ Aside (RotI d a m b i j c) ∧ Aside (SWK enc k w0 blk off c wr))
  case atStart => exact ⟨m - a, b - m, d, by congr 1; omega, by congr 1; omega, by omega, RotI.start d a m b ham hmb, S0⟩
  case round =>
    clear S0
    obtain ⟨i, j, c, rfl, rfl, hkx, I, S1⟩ := hrel
    have hcs : c.size = d.size := I.out.perm.1
    have hi0 := I.out.i0; have hj0 := I.out.j0; have him := I.out.im; have hjm := I.out.jm
    have r3 : IntKind.i64.wrap ((m : Int) - (i : Int)) = (m : Int) - (i : Int) := by rw [IntKind.wrap_i64]; omega
    by_cases hij : i = j
    · subst hij
      have hc := swapRange_z k L enc g cb blk off cap (m - i) m i d.size ((m : Int) - (i : Int)) (m : Int) (i : Int) d0 c w0 wr R (by omega) S1 hcs (by omega) rfl rfl (by omega) (by omega) (by omega)
      go_wp2_with (go_at_fn 36; refine hc.mono ?_; rintro e w' ⟨rfl, S2⟩)
      go_end0
      exact ⟨rfl, _, I.out.done ham hmb hb, S2.out⟩
    · have hne : (decide ((i : Int) = (j : Int))) = false := decide_eq_false (by omega)
      have hnez : ¬ (i : Int) = (j : Int) := by omega
      by_cases hlt : j < i
      · have hltz : (j : Int) < (i : Int) := by omega
        have r4 : IntKind.i64.wrap ((i : Int) - (j : Int)) = (i : Int) - (j : Int) := by rw [IntKind.wrap_i64]; omega
        have hc := swapRange_z k L enc g cb blk off cap (m - i) m j d.size ((m : Int) - (i : Int)) (m : Int) (j : Int) d0 c w0 wr R (by omega) S1 hcs (by omega) rfl rfl (by omega) (by omega) (by omega)
        go_wp2_with (go_at_fn 36; refine hc.mono ?_; rintro e w' ⟨rfl, S2⟩)
        go_roundg (i - j + j)
        case measure => omega
        case rel => exact ⟨i - j, j, _, by congr 1; omega, rfl, Nat.le_refl _, I.out.left ham hmb hb hlt, S2⟩
      · have hltz : ¬ (j : Int) < (i : Int) := by omega
        have r4 : IntKind.i64.wrap ((j : Int) - (i : Int)) = (j : Int) - (i : Int) := by rw [IntKind.wrap_i64]; omega
        have r5 : IntKind.i64.wrap ((m : Int) + (j : Int)) = (m : Int) + (j : Int) := by rw [IntKind.wrap_i64]; omega
        have r6 : IntKind.i64.wrap ((m : Int) + (j : Int) - (i : Int)) = (m : Int) + (j : Int) - (i : Int) := by rw [IntKind.wrap_i64]; omega
        have hc := swapRange_z k L enc g cb blk off cap (m - i) (m + j - i) i d.size ((m : Int) - (i : Int)) ((m : Int) + (j : Int) - (i : Int)) (i : Int) d0 c w0 wr R (by omega) S1 hcs (by omega) (by omega) rfl (by omega) (by omega) (by omega)
        go_wp2_with (go_at_fn 36; refine hc.mono ?_; rintro e w' ⟨rfl, S2⟩)
        go_roundg (i + (j - i))
        case measure => omega
        case rel => exact ⟨i, j - i, _, rfl, by congr 1; omega, Nat.le_refl _, I.out.right ham hmb hb (by omega), S2⟩
end Go.Proofs.Ytlkcnfkfccfhmaa
