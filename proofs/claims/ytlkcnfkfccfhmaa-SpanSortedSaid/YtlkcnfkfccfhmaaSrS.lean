/-
  slices.stableCmpFunc and SortStableFunc at elements of k cells, at most 30 of them.
-/
import Derived.Test.YtlkcnfkfccfhmaaSrC
import Derived.Test.YtlkcnfkfccfhmaaSrI
namespace Go.Proofs.Ytlkcnfkfccfhmaa
open Go.Shelf Go.RowKit Go.Lib Go.Sort
set_option linter.unusedVariables false
variable {P : Program} {α : Type} [Inhabited α]

/-- The insertion sort, its numbers as a walk spells them; what it does, said. -/
theorem ins_z (k : Nat) (L : Srt P k) (enc : α → List Value) (cf : α → α → Int) (hO : SWO (ltOf cf)) (g : Nat) (cb : Array Value) (blk off cap a b len : Nat) (za zb : Int) (d0 d : Array α) (w0 w : World)
    (eg : ∀ args w, (callFunc g args).run P w = .ok (.enter g args) w) (R : RowK enc k w0 blk off d0) (hcmp : CmpLays P g cb enc k cf blk off d0.size w0) (hs : d0.size = d.size) (S : Aside (SWK enc k w0 blk off d w))
    (hlen : d.size = len) (h1 : za = a) (h2 : zb = b) (hab : a ≤ b) (hb : b ≤ d.size) (hsz : d.size < 4611686018427387904) :
    Calls P 32 #[.slice (some ⟨blk, off, none⟩) len cap, .int .i64 za, .int .i64 zb, .func (.func g) #[] cb] w fun e w' => e = .returned (.tuple #[]) ∧ ∃ d', Aside (Merged (ltOf cf) a b d d' ∧ SWK enc k w0 blk off d' w') := by
  subst hlen h1 h2
  refine (ins_k k L enc cf g cb blk off cap a b d0 d w0 w eg R hcmp hs S.out hab hb hsz).mono fun e w' ⟨he, h⟩ => ⟨he, _, ⟨?_, h⟩⟩
  exact insertionSort_holds hO d a b hab hb

/-- The parts of a stable sort, together. -/
theorem stable_two {lt : α → α → Bool} {d d1 d2 : Array α} {m : Nat} (hm : m ≤ d.size) (h1 : Merged lt 0 m d d1) (h2 : Merged lt m d.size d1 d2) : PermIn 0 d.size d d2 ∧ SortedIn lt 0 m d2 ∧ SortedIn lt m d.size d2 := by
  have hs : d1.size = d.size := h1.1.1
  refine ⟨permIn_trans _ _ _ _ _ (permIn_mono _ _ _ _ _ _ (Nat.le_refl _) hm (Nat.le_refl _) h1.1) (permIn_mono _ _ _ _ _ _ (Nat.zero_le _) (Nat.le_refl _) (by omega) h2.1), ?_, h2.2⟩
  exact sorted_congr h1.2 fun x _ hx => h2.1.2.1 x (Or.inl hx)

set_option maxHeartbeats 4000000 in
set_option maxRecDepth 1000000 in
theorem stable_k (k : Nat) (L : Srt P k) (U : SrtU P) (F : P.funcs[(28 : Nat)]? = some Try.f28) (enc : α → List Value) (cf : α → α → Int) (hO : SWO (ltOf cf)) (g : Nat) (cb : Array Value) (blk off cap n : Nat) (d : Array α) (w : World)
    (eg : ∀ args w, (callFunc g args).run P w = .ok (.enter g args) w) (R : RowK enc k w blk off d) (hcmp : CmpLays P g cb enc k cf blk off d.size w) (hlen : d.size = n) (hn : n ≤ 30) :
    Calls P 28 #[.slice (some ⟨blk, off, none⟩) n cap, .int .i64 n, .func (.func g) #[] cb] w fun e w' => e = .returned (.tuple #[]) ∧ ∃ d', PermIn 0 d.size d d' ∧ SortedIn (ltOf cf) 0 d.size d' ∧ SWK enc k w blk off d' w' := by
  have mixed := L.mixed; have t3 := L.t3; have a3 := L.a3; have z3 := L.z3; have v3 := L.v3; have t4 := L.t4; have a4 := L.a4; have z4 := L.z4; have v4 := L.v4; have t41 := L.t41; have a41 := L.a41; have z41 := L.z41; have v41 := L.v41
  have e32 : ∀ args w, (callFunc 32 args).run P w = .ok (.enter 32 args) w := enters_of L.f32 (by kernel_rfl) rfl
  have e33 : ∀ args w, (callFunc 33 args).run P w = .ok (.enter 33 args) w := enters_of L.f33 (by kernel_rfl) rfl
  have INS := Lib.hid (fun (a b : Nat) (za zb : Int) (d' : Array α) (w' : World) (hs : d.size = d'.size) (S : Aside (SWK enc k w blk off d' w')) (h1 : za = a) (h2 : zb = b) (hab : a ≤ b) (hb : b ≤ n) => ins_z k L enc cf hO g cb blk off cap a b n za zb d d' w w' eg R hcmp hs S (by omega) h1 h2 hab (by omega) (by omega))
  have SYM := Lib.hid (sym_any k L U enc cf hO g cb blk off cap n d w eg R hcmp hlen (by omega) 30)
  have S0 : Aside (SWK enc k w blk off d w) := SWK.start R.hH
  have HL := Lib.hid hlen
  have HR := Lib.hid R
  clear R hcmp hlen eg L U hO
  by_cases h20 : n < 20
  · have hc := INS.out 0 n 0 n d w rfl S0 rfl rfl (Nat.zero_le _) (Nat.le_refl _)
    have hz : ¬ (20 : Int) ≤ (n : Int) := by omega
    have hz2 : ¬ (20 : Int) < (n : Int) := by omega
    go_enter F, Try.ntmps28
    go_wp2
    refine wp_loop_rounds 1 ?_
    rw [rounds_succ]
    go_wp2_with (go_at_fn 32; refine hc.mono ?_; rintro e w' ⟨rfl, d1, hr⟩)
    refine wp_loop_rounds 1 ?_
    rw [rounds_succ]
    go_wp2
    go_end0
    exact ⟨rfl, d1, by rw [HL.out]; exact hr.out.1.1, by rw [HL.out]; exact hr.out.1.2, hr.out.2⟩
  · have hz : (20 : Int) ≤ (n : Int) := by omega
    have hz40 : ¬ (40 : Int) ≤ (n : Int) := by omega
    have hc := INS.out 0 20 0 20 d w rfl S0 rfl rfl (Nat.zero_le _) (by omega)
    by_cases h21 : n = 20
    · have hz2 : ¬ (20 : Int) < (n : Int) := by omega
      have H21 := Lib.hid h21
      clear h21 h20
      have h20' : 20 ≤ n := by omega
      go_enter F, Try.ntmps28
      go_wp2
      refine wp_loop_rounds 2 ?_
      rw [rounds_succ]
      go_wp2_with fail
      refine hc.mono ?_
      rintro e w1 ⟨rfl, d1, hr1⟩
      have hc2 := INS.out 20 n 20 n d1 w1 hr1.out.1.1.1.symm hr1.out.2 rfl rfl (by omega) (Nat.le_refl _)
      clear hc
      go_wp2
      rw [rounds_succ]
      go_wp2_with fail
      refine hc2.mono ?_
      rintro e w2 ⟨rfl, d2, hr2⟩
      clear hc2
      go_wp2
      refine wp_loop_rounds 1 ?_
      rw [rounds_succ]
      go_wp2
      go_end0
      have h2 := hr2.out
      rw [← HL.out] at h2
      have h := stable_two (lt := ltOf cf) (by rw [HL.out]; omega) hr1.out.1 h2.1
      exact ⟨rfl, d2, h.1, by rw [HL.out, H21.out]; exact h.2.1, h2.2⟩
    · have hz2 : (20 : Int) < (n : Int) := by omega
      clear h21
      have hz3 : ¬ (40 : Int) < (n : Int) := by omega
      go_enter F, Try.ntmps28
      go_wp2
      refine wp_loop_rounds 2 ?_
      rw [rounds_succ]
      go_wp2_with fail
      refine hc.mono ?_
      rintro e w1 ⟨rfl, d1, hr1⟩
      have hc2 := INS.out 20 n 20 n d1 w1 hr1.out.1.1.1.symm hr1.out.2 rfl rfl (by omega) (Nat.le_refl _)
      clear hc
      go_wp2
      rw [rounds_succ]
      go_wp2_with fail
      refine hc2.mono ?_
      rintro e w2 ⟨rfl, d2, hr2⟩
      clear hc2
      have h2 := hr2.out
      have h2' := h2.1
      rw [← HL.out] at h2'
      have h := stable_two (lt := ltOf cf) (by rw [HL.out]; omega) hr1.out.1 h2'
      have hd2 : d2.size = n := by rw [← HL.out]; exact h.1.1
      have hc3 := SYM.out 0 20 n 0 20 n d2 w2 rfl rfl rfl (by omega) (by omega) (by omega) (by omega) hd2 h2.2 h.2.1 (by rw [HL.out] at h; exact h.2.2)
      have H := Lib.hid h
      clear h2 h2' h hr1 hr2 hd2
      go_wp2
      refine wp_loop_rounds 2 ?_
      rw [rounds_succ]
      go_wp2
      refine wp_loop_rounds 1 ?_
      rw [rounds_succ]
      go_wp2_with fail
      refine hc3.mono ?_
      rintro e w3 ⟨rfl, d3, hr3⟩
      clear hc3
      go_wp2
      rw [rounds_succ]
      go_wp2
      go_end0
      have h3 := hr3.out
      rw [← HL.out] at h3
      exact ⟨rfl, d3, permIn_trans _ _ _ _ _ H.out.1 h3.1.1, h3.1.2, h3.2⟩

set_option maxHeartbeats 1000000 in
theorem sortStable_k (k : Nat) (L : Srt P k) (U : SrtU P) (F : P.funcs[(28 : Nat)]? = some Try.f28) (F2 : P.funcs[(24 : Nat)]? = some Try.f24) (enc : α → List Value) (cf : α → α → Int) (hO : SWO (ltOf cf)) (g : Nat) (cb : Array Value) (blk off cap n : Nat) (d : Array α) (w : World)
    (eg : ∀ args w, (callFunc g args).run P w = .ok (.enter g args) w) (R : RowK enc k w blk off d) (hcmp : CmpLays P g cb enc k cf blk off d.size w) (hlen : d.size = n) (hn : n ≤ 30) :
    Calls P 24 #[.slice (some ⟨blk, off, none⟩) n cap, .func (.func g) #[] cb] w fun e w' => e = .returned (.tuple #[]) ∧ ∃ d', PermIn 0 d.size d d' ∧ SortedIn (ltOf cf) 0 d.size d' ∧ SWK enc k w blk off d' w' := by
  have mixed := L.mixed; have t3 := L.t3; have a3 := L.a3; have z3 := L.z3; have v3 := L.v3; have t4 := L.t4; have a4 := L.a4; have z4 := L.z4; have v4 := L.v4; have t41 := L.t41; have a41 := L.a41; have z41 := L.z41; have v41 := L.v41
  have e28 : ∀ args w, (callFunc 28 args).run P w = .ok (.enter 28 args) w := enters_of F (by kernel_rfl) rfl
  have hc := stable_k k L U F enc cf hO g cb blk off cap n d w eg R hcmp hlen hn
  clear R hcmp eg L U hO F
  go_enter F2, Try.ntmps24
  go_wp2_with (go_at_fn 28; refine hc.mono ?_; rintro e w' ⟨rfl, h⟩)
  go_end0
  exact ⟨rfl, h⟩

set_option maxHeartbeats 1000000 in
theorem ins_none (p : Option Addr) (cap : Nat) (fv : Value) (w : World) :
    Calls Try.prog 32 #[.slice p 0 cap, .int .i64 0, .int .i64 0, fv] w fun e w' => e = .returned (.tuple #[]) ∧ w = w' := by
  go_enter Try.func32, Try.ntmps32
  go_wp2
  refine wp_loop_rounds 1 ?_
  rw [rounds_succ]
  go_wp2
  go_end0
  exact ⟨rfl, rfl⟩

set_option maxHeartbeats 1000000 in
theorem stable_none (p : Option Addr) (cap : Nat) (fv : Value) (w : World) :
    Calls Try.prog 28 #[.slice p 0 cap, .int .i64 0, fv] w fun e w' => e = .returned (.tuple #[]) ∧ w = w' := by
  go_enter Try.func28, Try.ntmps28
  go_wp2
  refine wp_loop_rounds 1 ?_
  rw [rounds_succ]
  go_wp2_with (go_at_call 32; (with_reducible refine (ins_none _ _ _ _).mono ?_); rintro e w' ⟨rfl, rfl⟩)
  refine wp_loop_rounds 1 ?_
  rw [rounds_succ]
  go_wp2
  go_end0
  exact ⟨rfl, rfl⟩

set_option maxHeartbeats 1000000 in
theorem sortStable_none (p : Option Addr) (cap : Nat) (fv : Value) (w : World) :
    Calls Try.prog 24 #[.slice p 0 cap, fv] w fun e w' => e = .returned (.tuple #[]) ∧ w = w' := by
  go_enter Try.func24, Try.ntmps24
  go_wp2_with (go_at_call 28; (with_reducible refine (stable_none _ _ _ _).mono ?_); rintro e w' ⟨rfl, rfl⟩)
  go_end0
  exact ⟨rfl, rfl⟩
end Go.Proofs.Ytlkcnfkfccfhmaa
