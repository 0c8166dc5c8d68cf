/-
  slices.symMergeCmpFunc at elements of k cells, its first two ways: a row of one element on a side.
-/
import Derived.Test.YtlkcnfkfccfhmaaSrA
namespace Go.Proofs.Ytlkcnfkfccfhmaa
open Go.Shelf Go.RowKit Go.Lib Go.Sort
set_option linter.unusedVariables false
variable {P : Program} {α : Type} [Inhabited α]

/-- What the walks ask of uint. -/
structure SrtU (P : Program) : Prop where
  t56 : P.underlying 56 = some (TypeDesc.int IntKind.u64)
  a56 : ∀ w, (isAgg 56).run P w = .ok false w
  z56 : ∀ w, (Go.sizeOf 56).run P w = .ok 1 w
  v56 : ∀ w, (zeroValue 56).run P w = .ok (Value.int IntKind.u64 0) w

set_option maxHeartbeats 4000000 in
set_option maxRecDepth 1000000 in
theorem sym_one (k : Nat) (L : Srt P k) (U : SrtU P) (enc : α → List Value) (cf : α → α → Int) (hO : SWO (ltOf cf)) (g : Nat) (cb : Array Value) (blk off cap a b : Nat) (d0 d : Array α) (w0 w : World)
    (eg : ∀ args w, (callFunc g args).run P w = .ok (.enter g args) w) (R : RowK enc k w0 blk off d0) (hcmp : CmpLays P g cb enc k cf blk off d0.size w0) (hs : d0.size = d.size) (S : SWK enc k w0 blk off d w)
    (hab : a + 1 < b) (hb : b ≤ d.size) (hsz : d.size < 4611686018427387904) (hso : SortedIn (ltOf cf) (a + 1) b d) :
    Calls P 33 #[.slice (some ⟨blk, off, none⟩) d.size cap, .int .i64 a, .int .i64 ((a : Int) + 1), .int .i64 b, .func (.func g) #[] cb] w fun e w' => e = .returned (.tuple #[]) ∧ ∃ d', Merged (ltOf cf) a b d d' ∧ SWK enc k w0 blk off d' w' := by
  have mixed := L.mixed; have t3 := L.t3; have a3 := L.a3; have z3 := L.z3; have v3 := L.v3; have t4 := L.t4; have a4 := L.a4; have z4 := L.z4; have v4 := L.v4; have t41 := L.t41; have a41 := L.a41; have z41 := L.z41; have v41 := L.v41
  have t56 := U.t56; have a56 := U.a56; have z56 := U.z56; have v56 := U.v56
  have u3 := run_underlying L.t3; have u56 := run_underlying U.t56
  have aE := L.aE; have zE := L.zE
  have F := L.f33
  have HC : Aside _ := hcmp
  have HO : Aside _ := hO
  have HSO : Aside _ := hso
  have S0 : Aside (SWK enc k w0 blk off d w) := S
  clear S hcmp hO hso
  have r1 : IntKind.i64.wrap ((a : Int) + 1 - (a : Int)) = 1 := by rw [IntKind.wrap_i64]; omega
  go_enter F, Try.ntmps33
  go_wp2
  go_loopg [10, 11] (b - a) (fun kx s10 s11 wr => ∃ (i j : Nat), s10 = .int .i64 i ∧ s11 = .int .i64 j ∧ j - i ≤ kx ∧ i ≤ j ∧ j ≤ b ∧ a + 1 ≤ i ∧ Aside (Bsr (fun x => ltOf cf d[x]! d[a]!) (a + 1) b i j) ∧ Aside (SWK enc k w0 blk off d wr))
  case atStart => exact ⟨a + 1, b, by go_num, rfl, by omega, by omega, Nat.le_refl _, Nat.le_refl _, Bsr.start _ _ _ (by omega), S0⟩
  case round =>
    clear S0
    obtain ⟨i, j, rfl, rfl, hkx, hij, hjb, hai, I, S1⟩ := hrel
    by_cases hlt : i < j
    · have hltz : (i : Int) < (j : Int) := by omega
      obtain ⟨h, hh⟩ : ∃ h, h = (i + j) / 2 := ⟨_, rfl⟩
      have EH : Aside (((i : Int) + (j : Int)) / 2 = (h : Int)) := by show _ = _; omega
      have hih : i ≤ h := by omega
      have hhj : h < j := by omega
      clear hh
      obtain ⟨xh, hxh⟩ : ∃ x, d[h]! = x := ⟨_, rfl⟩
      obtain ⟨xa, hxa⟩ : ∃ x, d[a]! = x := ⟨_, rfl⟩
      have bh : (h : Int) < (d.size : Int) := by omega
      have ba : (a : Int) < (d.size : Int) := by omega
      have lh := S1.out.ld R (by omega) P h (by omega)
      have la := S1.out.ld R (by omega) P a (by omega)
      have hcg := S1.out.cmp HC.out (by omega) xh xa
      rw [hxh] at lh
      rw [hxa] at la
      by_cases hlv : cf xh xa < 0
      · go_wp2_with fail
        rw [EH.out]
        go_quiet_grown (first | (go_at_fn g; refine Calls.grown_of (hcg _ _)))
        go_wp2
        go_roundg (j - (h + 1))
        case measure => omega
        case rel =>
          exact ⟨h + 1, j, by go_num, rfl, Nat.le_refl _, by omega, hjb, by omega, I.out.up (up_mono HO.out HSO.out) h (by omega) (by omega) (by rw [hxh, hxa]; exact decide_eq_true hlv), S1.out.grown nq osq⟩
      · go_wp2_with fail
        rw [EH.out]
        go_quiet_grown (first | (go_at_fn g; refine Calls.grown_of (hcg _ _)))
        go_wp2
        go_roundg (h - i)
        case measure => omega
        case rel =>
          exact ⟨i, h, rfl, rfl, Nat.le_refl _, by omega, by omega, hai, I.out.down (up_mono HO.out HSO.out) h (by omega) (by omega) (by rw [hxh, hxa]; exact decide_eq_false (by omega)), S1.out.grown nq osq⟩
    · have hltz : ¬ (i : Int) < (j : Int) := by omega
      obtain rfl : i = j := by omega
      go_wp2
      go_loopg [13] (i - 1 - a) (fun kx s13 wr2 => ∃ (t : Nat), s13 = .int .i64 ((a : Int) + (t : Int)) ∧ t ≤ i - 1 - a ∧ i - 1 - a - t ≤ kx ∧ Aside (SWK enc k w0 blk off (upTo d a t) wr2))
      case atStart => exact ⟨0, by go_num, Nat.zero_le _, Nat.le_refl _, S1⟩
      case round =>
        clear S1
        obtain ⟨t, rfl, hti, hkx2, S1⟩ := hrel
        have hus : (upTo d a t).size = d.size := upTo_size d a t
        have ri : IntKind.i64.wrap ((i : Int) - 1) = (i : Int) - 1 := by rw [IntKind.wrap_i64]; omega
        by_cases hlt2 : t < i - 1 - a
        · have hltz : (a : Int) + (t : Int) < (i : Int) - 1 := by omega
          go_wp2_with fail
          have ra : IntKind.i64.wrap ((a : Int) + (t : Int) + 1) = (a : Int) + (t : Int) + 1 := by rw [IntKind.wrap_i64]; omega
          have ea : ((a : Int) + (t : Int)).toNat = a + t := by omega
          have eb : ((a : Int) + (t : Int) + 1).toNat = a + t + 1 := by omega
          have pa : (0 : Int) ≤ (a : Int) + (t : Int) := by omega
          have pb : (0 : Int) ≤ (a : Int) + (t : Int) + 1 := by omega
          have ba : (a : Int) + (t : Int) < (d.size : Int) := by omega
          have bb : (a : Int) + (t : Int) + 1 < (d.size : Int) := by omega
          have S2 : Aside (SWK enc k w0 blk off (swp (upTo d a t) (a + t) (a + t + 1)) ((wr.drew.setCells blk (off + (a + t) * k) (enc (upTo d a t)[a + t + 1]!)).setCells blk (off + (a + t + 1) * k) (enc (upTo d a t)[a + t]!))) := S1.out.swapped R (a + t) (a + t + 1) (by omega) (by omega)
          have la := S1.out.ld1 R (by omega) P (a + t) (by omega)
          have lb := S1.out.ld1 R (by omega) P (a + t + 1) (by omega)
          have sa := S1.out.st1 R (by omega) P (a + t) (by omega) (upTo d a t)[a + t + 1]!
          have sb := S1.out.st2 R (by omega) P (a + t) (a + t + 1) (by omega) (by omega) (upTo d a t)[a + t + 1]! (upTo d a t)[a + t]!
          have na : (enc (upTo d a t)[a + t]!).length = k := R.hk _
          have nb : (enc (upTo d a t)[a + t + 1]!).length = k := R.hk _
          generalize enc (upTo d a t)[a + t]! = cI at S2 la sb na
          generalize enc (upTo d a t)[a + t + 1]! = cJ at S2 lb sa sb nb
          clear S1
          go_big_region_o
          clear la lb sa sb
          generalize (wr.drew.setCells blk (off + (a + t) * k) cJ).setCells blk (off + (a + t + 1) * k) cI = w2 at S2 ⊢
          go_wp2
          go_roundg (i - 1 - a - (t + 1))
          case measure => omega
          case rel => exact ⟨t + 1, by go_num, by omega, Nat.le_refl _, S2⟩
        · have hltz : ¬ (a : Int) + (t : Int) < (i : Int) - 1 := by omega
          obtain rfl : t = i - 1 - a := by omega
          go_wp2
          (try simp only [Exit.inBlock, Exit.then]); refine bodyPost_ret (results_none rfl _ _ _) rfl ?_
          exact ⟨rfl, _, merge_up HO.out hb HSO.out I.out, S1.out⟩

set_option maxHeartbeats 4000000 in
set_option maxRecDepth 1000000 in
theorem sym_last (k : Nat) (L : Srt P k) (U : SrtU P) (enc : α → List Value) (cf : α → α → Int) (hO : SWO (ltOf cf)) (g : Nat) (cb : Array Value) (blk off cap a m : Nat) (d0 d : Array α) (w0 w : World)
    (eg : ∀ args w, (callFunc g args).run P w = .ok (.enter g args) w) (R : RowK enc k w0 blk off d0) (hcmp : CmpLays P g cb enc k cf blk off d0.size w0) (hs : d0.size = d.size) (S : SWK enc k w0 blk off d w)
    (ham : a + 1 < m) (hb : m < d.size) (hsz : d.size < 4611686018427387904) (hso : SortedIn (ltOf cf) a m d) :
    Calls P 33 #[.slice (some ⟨blk, off, none⟩) d.size cap, .int .i64 a, .int .i64 m, .int .i64 ((m : Int) + 1), .func (.func g) #[] cb] w fun e w' => e = .returned (.tuple #[]) ∧ ∃ d', Merged (ltOf cf) a (m + 1) d d' ∧ SWK enc k w0 blk off d' w' := by
  have mixed := L.mixed; have t3 := L.t3; have a3 := L.a3; have z3 := L.z3; have v3 := L.v3; have t4 := L.t4; have a4 := L.a4; have z4 := L.z4; have v4 := L.v4; have t41 := L.t41; have a41 := L.a41; have z41 := L.z41; have v41 := L.v41
  have t56 := U.t56; have a56 := U.a56; have z56 := U.z56; have v56 := U.v56
  have u3 := run_underlying L.t3; have u56 := run_underlying U.t56
  have aE := L.aE; have zE := L.zE
  have F := L.f33
  have HC : Aside _ := hcmp
  have HO : Aside _ := hO
  have HSO : Aside _ := hso
  have S0 : Aside (SWK enc k w0 blk off d w) := S
  clear S hcmp hO hso
  have r1 : IntKind.i64.wrap ((m : Int) + 1 - (m : Int)) = 1 := by rw [IntKind.wrap_i64]; omega
  have r2 : IntKind.i64.wrap ((m : Int) - (a : Int)) = (m : Int) - (a : Int) := by rw [IntKind.wrap_i64]; omega
  have hn1 : ((m : Int) - (a : Int) == 1) = false := beq_eq_false_iff_ne.2 (by omega)
  go_enter F, Try.ntmps33
  go_wp2
  go_loopg [14, 15] (m - a) (fun kx s10 s11 wr => ∃ (i j : Nat), s10 = .int .i64 i ∧ s11 = .int .i64 j ∧ j - i ≤ kx ∧ i ≤ j ∧ j ≤ m ∧ a ≤ i ∧ Aside (Bsr (fun x => !ltOf cf d[m]! d[x]!) a m i j) ∧ Aside (SWK enc k w0 blk off d wr))
  case atStart => exact ⟨a, m, rfl, rfl, by omega, by omega, Nat.le_refl _, Nat.le_refl _, Bsr.start _ _ _ (by omega), S0⟩
  case round =>
    clear S0
    obtain ⟨i, j, rfl, rfl, hkx, hij, hjb, hai, I, S1⟩ := hrel
    by_cases hlt : i < j
    · have hltz : (i : Int) < (j : Int) := by omega
      obtain ⟨h, hh⟩ : ∃ h, h = (i + j) / 2 := ⟨_, rfl⟩
      have EH : Aside (((i : Int) + (j : Int)) / 2 = (h : Int)) := by show _ = _; omega
      have hih : i ≤ h := by omega
      have hhj : h < j := by omega
      clear hh
      obtain ⟨xh, hxh⟩ : ∃ x, d[h]! = x := ⟨_, rfl⟩
      obtain ⟨xa, hxa⟩ : ∃ x, d[m]! = x := ⟨_, rfl⟩
      have bh : (h : Int) < (d.size : Int) := by omega
      have ba : (m : Int) < (d.size : Int) := by omega
      have lh := S1.out.ld R (by omega) P h (by omega)
      have la := S1.out.ld R (by omega) P m (by omega)
      have hcg := S1.out.cmp HC.out (by omega) xa xh
      rw [hxh] at lh
      rw [hxa] at la
      by_cases hlv : cf xa xh < 0
      · go_wp2_with fail
        rw [EH.out]
        go_quiet_grown (first | (go_at_fn g; refine Calls.grown_of (hcg _ _)))
        go_wp2
        go_roundg (h - i)
        case measure => omega
        case rel =>
          exact ⟨i, h, rfl, rfl, Nat.le_refl _, by omega, by omega, hai, I.out.down (down_mono HO.out HSO.out) h (by omega) (by omega) (by rw [hxh, hxa]; simp only [ltOf]; rw [decide_eq_true hlv]; rfl), S1.out.grown nq osq⟩
      · go_wp2_with fail
        rw [EH.out]
        go_quiet_grown (first | (go_at_fn g; refine Calls.grown_of (hcg _ _)))
        go_wp2
        rotate_left
        · rename_i hz; exfalso; rw [decide_eq_false (show ¬ cf xa xh < 0 by omega)] at hz; cases hz
        go_roundg (j - (h + 1))
        case measure => omega
        case rel =>
          exact ⟨h + 1, j, by go_num, rfl, Nat.le_refl _, by omega, hjb, by omega, I.out.up (down_mono HO.out HSO.out) h (by omega) (by omega) (by rw [hxh, hxa]; simp only [ltOf]; rw [decide_eq_false (by omega)]; rfl), S1.out.grown nq osq⟩
    · have hltz : ¬ (i : Int) < (j : Int) := by omega
      obtain rfl : i = j := by omega
      go_wp2
      go_loopg [17] (m - i) (fun kx s13 wr2 => ∃ (t : Nat), s13 = .int .i64 ((m : Int) - (t : Int)) ∧ t ≤ m - i ∧ m - i - t ≤ kx ∧ Aside (SWK enc k w0 blk off (downTo d m t) wr2))
      case atStart => exact ⟨0, by go_num, Nat.zero_le _, Nat.le_refl _, S1⟩
      case round =>
        clear S1
        obtain ⟨t, rfl, hti, hkx2, S1⟩ := hrel
        have hus : (downTo d m t).size = d.size := downTo_size d m t
        by_cases hlt2 : t < m - i
        · have hltz : (i : Int) < (m : Int) - (t : Int) := by omega
          go_wp2_with fail
          have ra : IntKind.i64.wrap ((m : Int) - (t : Int) - 1) = (m : Int) - (t : Int) - 1 := by rw [IntKind.wrap_i64]; omega
          have ea : ((m : Int) - (t : Int)).toNat = m - t := by omega
          have eb : ((m : Int) - (t : Int) - 1).toNat = m - t - 1 := by omega
          have pa : (0 : Int) ≤ (m : Int) - (t : Int) := by omega
          have pb : (0 : Int) ≤ (m : Int) - (t : Int) - 1 := by omega
          have ba : (m : Int) - (t : Int) < (d.size : Int) := by omega
          have bb : (m : Int) - (t : Int) - 1 < (d.size : Int) := by omega
          have S2 : Aside (SWK enc k w0 blk off (swp (downTo d m t) (m - t) (m - t - 1)) ((wr.drew.setCells blk (off + (m - t) * k) (enc (downTo d m t)[m - t - 1]!)).setCells blk (off + (m - t - 1) * k) (enc (downTo d m t)[m - t]!))) := S1.out.swapped R (m - t) (m - t - 1) (by omega) (by omega)
          have la := S1.out.ld1 R (by omega) P (m - t) (by omega)
          have lb := S1.out.ld1 R (by omega) P (m - t - 1) (by omega)
          have sa := S1.out.st1 R (by omega) P (m - t) (by omega) (downTo d m t)[m - t - 1]!
          have sb := S1.out.st2 R (by omega) P (m - t) (m - t - 1) (by omega) (by omega) (downTo d m t)[m - t - 1]! (downTo d m t)[m - t]!
          have na : (enc (downTo d m t)[m - t]!).length = k := R.hk _
          have nb : (enc (downTo d m t)[m - t - 1]!).length = k := R.hk _
          generalize enc (downTo d m t)[m - t]! = cI at S2 la sb na
          generalize enc (downTo d m t)[m - t - 1]! = cJ at S2 lb sa sb nb
          clear S1
          go_big_region_o
          clear la lb sa sb
          generalize (wr.drew.setCells blk (off + (m - t) * k) cJ).setCells blk (off + (m - t - 1) * k) cI = w2 at S2 ⊢
          go_wp2
          go_roundg (m - i - (t + 1))
          case measure => omega
          case rel => exact ⟨t + 1, by go_num, by omega, Nat.le_refl _, S2⟩
        · have hltz : ¬ (i : Int) < (m : Int) - (t : Int) := by omega
          obtain rfl : t = m - i := by omega
          go_wp2
          (try simp only [Exit.inBlock, Exit.then]); refine bodyPost_ret (results_none rfl _ _ _) rfl ?_
          exact ⟨rfl, _, merge_down HO.out hb HSO.out I.out, S1.out⟩
end Go.Proofs.Ytlkcnfkfccfhmaa
