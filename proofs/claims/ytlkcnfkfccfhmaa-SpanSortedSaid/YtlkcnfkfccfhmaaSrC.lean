/-
  slices.symMergeCmpFunc at elements of k cells: the third way, and all three, by induction on the range.
-/
import Derived.Test.YtlkcnfkfccfhmaaSrB
import Derived.Deep.DeepCutAuto
namespace Go.Proofs.Ytlkcnfkfccfhmaa
open Go.Shelf Go.RowKit Go.Lib Go.Sort
set_option linter.unusedVariables false
variable {P : Program} {α : Type} [Inhabited α]

/-- rotate, its numbers as a walk spells them. -/
theorem rotate_z (k : Nat) (L : Srt P k) (enc : α → List Value) (g : Nat) (cb : Array Value) (blk off cap a m b len : Nat) (za zm zb : Int) (d0 d : Array α) (w0 w : World)
    (R : RowK enc k w0 blk off d0) (hs : d0.size = d.size) (S : Aside (SWK enc k w0 blk off d w)) (hlen : d.size = len) (h1 : za = a) (h2 : zm = m) (h3 : zb = b) (ham : a < m) (hmb : m < b) (hb : b ≤ d.size) (hsz : d.size < 4611686018427387904) :
    Calls P 35 #[.slice (some ⟨blk, off, none⟩) len cap, .int .i64 za, .int .i64 zm, .int .i64 zb, .func (.func g) #[] cb] w fun e w' => e = .returned (.tuple #[]) ∧ ∃ d', Aside (Rot d a m b d' ∧ SWK enc k w0 blk off d' w') := by
  subst hlen h1 h2 h3
  exact rotate_k k L enc g cb blk off cap a m b d0 d w0 w R hs S.out ham hmb hb hsz

/-- What symMerge does at a range of at most N. -/
def SymAt (P : Program) (enc : α → List Value) (k : Nat) (cf : α → α → Int) (g : Nat) (cb : Array Value) (w0 : World) (blk off cap len N : Nat) : Prop :=
  ∀ (a m b : Nat) (za zm zb : Int) (d : Array α) (w : World), za = a → zm = m → zb = b → b - a ≤ N → a < m → m < b → b ≤ d.size → d.size = len → Aside (SWK enc k w0 blk off d w) → SortedIn (ltOf cf) a m d → SortedIn (ltOf cf) m b d →
    Calls P 33 #[.slice (some ⟨blk, off, none⟩) len cap, .int .i64 za, .int .i64 zm, .int .i64 zb, .func (.func g) #[] cb] w fun e w' => e = .returned (.tuple #[]) ∧ ∃ d', Aside (Merged (ltOf cf) a b d d' ∧ SWK enc k w0 blk off d' w')

set_option maxHeartbeats 4000000 in
set_option maxRecDepth 1000000 in
theorem sym_three (k : Nat) (L : Srt P k) (U : SrtU P) (enc : α → List Value) (cf : α → α → Int) (hO : SWO (ltOf cf)) (g : Nat) (cb : Array Value) (blk off cap a m b mid lo hi : Nat) (d0 d : Array α) (w0 w : World)
    (eg : ∀ args w, (callFunc g args).run P w = .ok (.enter g args) w) (R : RowK enc k w0 blk off d0) (hcmp : CmpLays P g cb enc k cf blk off d0.size w0) (hs : d0.size = d.size) (S : SWK enc k w0 blk off d w)
    (ham : a + 1 < m) (hmb : m + 1 < b) (hb : b ≤ d.size) (hsz : d.size < 4611686018427387904) (hs1 : SortedIn (ltOf cf) a m d) (hs2 : SortedIn (ltOf cf) m b d)
    (hmid : mid = (a + b) / 2) (hlo : lo = if mid < m then mid + m - b else a) (hhi : hi = if mid < m then mid else m)
    (ih : SymAt P enc k cf g cb w0 blk off cap d.size (b - a - 1)) :
    Calls P 33 #[.slice (some ⟨blk, off, none⟩) d.size cap, .int .i64 a, .int .i64 m, .int .i64 b, .func (.func g) #[] cb] w fun e w' => e = .returned (.tuple #[]) ∧ ∃ d', Merged (ltOf cf) a b d d' ∧ SWK enc k w0 blk off d' w' := by
  have mixed := L.mixed; have t3 := L.t3; have a3 := L.a3; have z3 := L.z3; have v3 := L.v3; have t4 := L.t4; have a4 := L.a4; have z4 := L.z4; have v4 := L.v4; have t41 := L.t41; have a41 := L.a41; have z41 := L.z41; have v41 := L.v41
  have t56 := U.t56; have a56 := U.a56; have z56 := U.z56; have v56 := U.v56
  have u3 := run_underlying L.t3; have u56 := run_underlying U.t56
  have aE := L.aE; have zE := L.zE
  have F := L.f33
  have e33 : ∀ args w, (callFunc 33 args).run P w = .ok (.enter 33 args) w := enters_of L.f33 (by kernel_rfl) rfl
  have e35 : ∀ args w, (callFunc 35 args).run P w = .ok (.enter 35 args) w := enters_of L.f35 (by kernel_rfl) rfl
  have HC : Aside _ := hcmp
  have HO : Aside _ := hO
  have HS1 : Aside _ := hs1
  have HS2 : Aside _ := hs2
  have IH : Aside _ := ih
  have S0 : Aside (SWK enc k w0 blk off d w) := S
  clear S hcmp hO hs1 hs2 ih
  have EM : Aside (((a : Int) + (b : Int)) / 2 = (mid : Int)) := by show _ = _; omega
  have HM : Aside _ := hmid
  have HL : Aside _ := hlo
  have HH : Aside _ := hhi
  have r1 : IntKind.i64.wrap ((b : Int) - (m : Int)) = (b : Int) - (m : Int) := by rw [IntKind.wrap_i64]; omega
  have r2 : IntKind.i64.wrap ((m : Int) - (a : Int)) = (m : Int) - (a : Int) := by rw [IntKind.wrap_i64]; omega
  have hn1 : ((m : Int) - (a : Int) == 1) = false := beq_eq_false_iff_ne.2 (by omega)
  have hn2 : ((b : Int) - (m : Int) == 1) = false := beq_eq_false_iff_ne.2 (by omega)
  have hmb2 : mid + 1 < b := by omega
  have hma2 : a + 1 < mid := by omega
  have hlh : a ≤ lo ∧ lo ≤ hi ∧ hi ≤ m ∧ hi ≤ mid ∧ mid + m ≤ lo + b := by
    by_cases c : mid < m
    · rw [if_pos c] at hlo hhi; omega
    · rw [if_neg c] at hlo hhi; omega
  have HLH := Lib.hid hlh
  have HBB := Lib.hid (show mid < m → b ≤ mid + m by omega)
  clear hmid hlo hhi hlh
  have r3 : IntKind.i64.wrap ((mid : Int) + (m : Int)) = (mid : Int) + (m : Int) := by rw [IntKind.wrap_i64]; omega
  go_enter F, Try.ntmps33
  go_upto_region 25 with fail
  rw [EM.out]
  go_upto_if 140 with fail
  clear r3
  go_cut [20, 21] (fun s20 s21 wx => s20 = .int .i64 (lo : Int) ∧ s21 = .int .i64 (hi : Int) ∧ w = wx)
  case first => as_aux_lemma =>
    by_cases c : mid < m
    · have cz : (mid : Int) < (m : Int) := by omega
      have L1 := HL.out
      have H1 := HH.out
      rw [if_pos c] at L1 H1
      have r4 : IntKind.i64.wrap ((mid : Int) + (m : Int) - (b : Int)) = (mid : Int) + (m : Int) - (b : Int) := by rw [IntKind.wrap_i64]; omega
      have B1 := HBB.out c
      have L2 : Aside ((mid : Int) + (m : Int) - (b : Int) = (lo : Int)) := by show _ = _; omega
      have H2 : Aside (mid = hi) := by show _ = _; omega
      clear L1 H1 B1
      go_wp2_with fail
      go_meet
      exact ⟨by rw [L2.out], by rw [H2.out], rfl⟩
    · have cz : ¬ (mid : Int) < (m : Int) := by omega
      have L1 := HL.out
      have H1 := HH.out
      rw [if_neg c] at L1 H1
      have L2 : Aside (a = lo) := by show _ = _; omega
      have H2 : Aside (m = hi) := by show _ = _; omega
      clear L1 H1
      go_wp2_with fail
      go_meet
      exact ⟨by rw [L2.out], by rw [H2.out], rfl⟩
  case rest => as_aux_lemma =>
    obtain ⟨rfl, rfl, rfl⟩ := hcut
    have ep : IntKind.i64.wrap ((mid : Int) + (m : Int) - 1) = (mid : Int) + (m : Int) - 1 := by rw [IntKind.wrap_i64]; omega
    go_wp2
    clear ep
    have hlo1 := HLH.out.1; have hlo2 := HLH.out.2.1; have hlo3 := HLH.out.2.2.1; have hlo4 := HLH.out.2.2.2.1; have hlo5 := HLH.out.2.2.2.2
    go_loopg [20, 21] (hi - lo) (fun kx s10 s11 wr => ∃ (i j : Nat), s10 = .int .i64 i ∧ s11 = .int .i64 j ∧ j - i ≤ kx ∧ i ≤ j ∧ j ≤ hi ∧ lo ≤ i ∧ Aside (Bsr (fun x => !ltOf cf d[mid + m - 1 - x]! d[x]!) lo hi i j) ∧ Aside (SWK enc k w0 blk off d wr))
    case atStart => exact ⟨lo, hi, rfl, rfl, Nat.le_refl _, hlo2, Nat.le_refl _, Nat.le_refl _, Bsr.start _ _ _ hlo2, S0⟩
    case round =>
      clear S0
      obtain ⟨i, j, rfl, rfl, hkx, hij, hjb, hai, I, S1⟩ := hrel
      have mono : Aside (∀ x y, lo ≤ x → x < y → y < hi → (!ltOf cf d[mid + m - 1 - y]! d[y]!) = true → (!ltOf cf d[mid + m - 1 - x]! d[x]!) = true) := fun x y h1 h2 h3 h4 => sym_mono HO.out HS1.out HS2.out hlo1 hlo3 (fun z hz1 hz2 => ⟨by omega, by omega, by omega⟩) x y h1 h2 h3 h4
      by_cases hlt : i < j
      · have hltz : (i : Int) < (j : Int) := by omega
        obtain ⟨h, hh⟩ : ∃ h, h = (i + j) / 2 := ⟨_, rfl⟩
        have EH : Aside (((i : Int) + (j : Int)) / 2 = (h : Int)) := by show _ = _; omega
        have hih : i ≤ h := by omega
        have hhj : h < j := by omega
        clear hh
        obtain ⟨xh, hxh⟩ : ∃ x, d[h]! = x := ⟨_, rfl⟩
        obtain ⟨q, hq⟩ : ∃ q, q = mid + m - 1 - h := ⟨_, rfl⟩
        obtain ⟨xa, hxa⟩ : ∃ x, d[q]! = x := ⟨_, rfl⟩
        have bh : (h : Int) < (d.size : Int) := by omega
        have bq : (q : Int) < (d.size : Int) := by omega
        have eq : (mid : Int) + (m : Int) - 1 - (h : Int) = (q : Int) := by omega
        have wq : IntKind.i64.wrap (q : Int) = (q : Int) := by rw [IntKind.wrap_i64]; omega
        have lh := S1.out.ld R (by omega) P h (by omega)
        have la := S1.out.ld R (by omega) P q (by omega)
        have hcg := S1.out.cmp HC.out (by omega) xa xh
        have HQ : Aside (q = mid + m - 1 - h) := hq
        clear hq
        rw [hxh] at lh
        rw [hxa] at la
        by_cases hlv : cf xa xh < 0
        · go_wp2_with fail
          rw [EH.out]
          go_quiet_grown (first | (go_at_fn g; refine Calls.grown_of (hcg _ _)))
          go_wp2
          go_roundg (h - i)
          case measure => omega
          case rel =>
            exact ⟨i, h, rfl, rfl, Nat.le_refl _, by omega, by omega, hai, I.out.down mono.out h (by omega) (by omega) (by rw [← HQ.out, hxh, hxa]; simp only [ltOf]; rw [decide_eq_true hlv]; rfl), S1.out.grown nq osq⟩
        · go_wp2_with fail
          rw [EH.out]
          go_quiet_grown (first | (go_at_fn g; refine Calls.grown_of (hcg _ _)))
          go_wp2
          rotate_left
          · rename_i hz; exfalso; rw [decide_eq_false (show ¬ cf xa xh < 0 by omega)] at hz; cases hz
          go_roundg (j - (h + 1))
          case measure => omega
          case rel =>
            exact ⟨h + 1, j, by go_num, rfl, Nat.le_refl _, by omega, hjb, by omega, I.out.up mono.out h (by omega) (by omega) (by rw [← HQ.out, hxh, hxa]; simp only [ltOf]; rw [decide_eq_false (by omega)]; rfl), S1.out.grown nq osq⟩
      · have hltz : ¬ (i : Int) < (j : Int) := by omega
        obtain rfl : i = j := by omega
        clear mono
        have re : IntKind.i64.wrap ((mid : Int) + (m : Int) - (i : Int)) = (mid : Int) + (m : Int) - (i : Int) := by rw [IntKind.wrap_i64]; omega
        go_upto_region 39 with fail
        clear re hltz hkx
        go_cut [185] (fun s185 wx => s185 = .bool (decide (i < m ∧ i < mid)) ∧ wr = wx)
        case first => as_aux_lemma =>
          by_cases c1 : i < m
          · have c1z : (i : Int) < (m : Int) := by omega
            by_cases c2 : i < mid
            · have c2z : (m : Int) < (mid : Int) + (m : Int) - (i : Int) := by omega
              have E := Lib.hid (decide_eq_true (And.intro c1 c2))
              go_wp2_with fail
              go_meet
              exact ⟨by rw [E.out], rfl⟩
            · have c2z : ¬ (m : Int) < (mid : Int) + (m : Int) - (i : Int) := by omega
              have E := Lib.hid (show decide (i < m ∧ i < mid) = false from decide_eq_false (by omega))
              go_wp2_with fail
              go_meet
              exact ⟨by rw [E.out], rfl⟩
          · have c1z : ¬ (i : Int) < (m : Int) := by omega
            have E := Lib.hid (show decide (i < m ∧ i < mid) = false from decide_eq_false (by omega))
            go_wp2_with fail
            go_meet
            exact ⟨by rw [E.out], rfl⟩
        case rest => as_aux_lemma =>
          obtain ⟨rfl, rfl⟩ := hcut
          go_upto_if 185 with fail
          go_cut [185] (fun s185 wx => ∃ d1, Aside (Halves (ltOf cf) a i mid (mid + m - i) b d d1 ∧ SWK enc k w0 blk off d1 wx))
          case first => as_aux_lemma =>
            by_cases c : i < m ∧ i < mid
            · have hc := rotate_z k L enc g cb blk off cap i m (mid + m - i) d.size (i : Int) (m : Int) ((mid : Int) + (m : Int) - (i : Int)) d0 d w0 wr R hs S1 rfl rfl rfl (by omega) c.1 (by omega) (by omega) hsz
              rw [decide_eq_true c]
              clear c
              go_wp2_with (go_at_fn 35; refine hc.mono ?_; rintro e w' ⟨rfl, d1, hr⟩)
              go_meet
              exact ⟨d1, halves HO.out HM.out (by omega) (by omega) hb HS1.out HS2.out HL.out HH.out I.out hr.out.1.get (permIn_mono _ _ _ _ _ _ (by omega) (by omega) hb hr.out.1.perm), hr.out.2⟩
            · rw [decide_eq_false c]
              have C := Lib.hid c
              clear c
              go_wp2_with fail
              go_meet
              exact ⟨d, halves HO.out HM.out (by omega) (by omega) hb HS1.out HS2.out HL.out HH.out I.out (rotAt_none (by have := C.out; omega) (by omega) (by omega)) (permIn_refl _ _ _), S1.out⟩
          case rest => as_aux_lemma =>
            clear S1
            obtain ⟨d1, hH⟩ := hcut
            have hz1 : d1.size = d.size := hH.out.1.perm.1
            obtain ⟨w1, hw1⟩ : ∃ w1, w1 = wc := ⟨_, rfl⟩
            rw [← hw1] at hH ⊢
            clear hw1
            go_upto_region 41 with fail
            go_cut [199] (fun s199 wx => s199 = .bool (decide (a < i ∧ i < mid)) ∧ w1 = wx)
            case first => as_aux_lemma =>
              by_cases c1 : a < i
              · have c1z : (a : Int) < (i : Int) := by omega
                by_cases c2 : i < mid
                · have c2z : (i : Int) < (mid : Int) := by omega
                  have E := Lib.hid (decide_eq_true (And.intro c1 c2))
                  go_wp2_with fail
                  go_meet
                  exact ⟨by rw [E.out], rfl⟩
                · have c2z : ¬ (i : Int) < (mid : Int) := by omega
                  have E := Lib.hid (show decide (a < i ∧ i < mid) = false from decide_eq_false (by omega))
                  go_wp2_with fail
                  go_meet
                  exact ⟨by rw [E.out], rfl⟩
              · have c1z : ¬ (a : Int) < (i : Int) := by omega
                have E := Lib.hid (show decide (a < i ∧ i < mid) = false from decide_eq_false (by omega))
                go_wp2_with fail
                go_meet
                exact ⟨by rw [E.out], rfl⟩
            case rest => as_aux_lemma =>
              obtain ⟨rfl, rfl⟩ := hcut
              go_upto_if 199 with fail
              go_cut [199] (fun s199 wx => ∃ d2, Aside (Half (ltOf cf) a mid (mid + m - i) b d d2 ∧ SWK enc k w0 blk off d2 wx))
              case first => as_aux_lemma =>
                by_cases c : a < i ∧ i < mid
                · have hc := IH.out a i mid (a : Int) (i : Int) (mid : Int) d1 w1 rfl rfl rfl (by omega) c.1 c.2 (by omega) hz1 hH.out.2 hH.out.1.l1 hH.out.1.l2
                  rw [decide_eq_true c]
                  clear c
                  go_wp2_with (go_at_fn 33; refine hc.mono ?_; rintro e w' ⟨rfl, d2, hr⟩)
                  go_meet
                  exact ⟨d2, hH.out.1.first (by omega) (by omega) (by omega) hb hr.out.1, hr.out.2⟩
                · rw [decide_eq_false c]
                  have C := Lib.hid c
                  clear c
                  go_wp2_with fail
                  go_meet
                  exact ⟨d1, hH.out.1.first (by omega) (by omega) (by omega) hb (hH.out.1.skip (by omega) (by omega) C.out), hH.out.2⟩
              case rest => as_aux_lemma =>
                clear hH
                obtain ⟨d2, hH⟩ := hcut
                have hz2 : d2.size = d.size := hH.out.1.perm.1
                obtain ⟨w2, hw2⟩ : ∃ w2, w2 = wc := ⟨_, rfl⟩
                rw [← hw2] at hH ⊢
                clear hw2
                go_upto_region 43 with fail
                go_cut [213] (fun s213 wx => s213 = .bool (decide (i < m ∧ mid + m < b + i)) ∧ w2 = wx)
                case first => as_aux_lemma =>
                  by_cases c1 : i < m
                  · have c1z : (mid : Int) < (mid : Int) + (m : Int) - (i : Int) := by omega
                    by_cases c2 : mid + m < b + i
                    · have c2z : (mid : Int) + (m : Int) - (i : Int) < (b : Int) := by omega
                      have E := Lib.hid (decide_eq_true (And.intro c1 c2))
                      go_wp2_with fail
                      go_meet
                      exact ⟨by rw [E.out], rfl⟩
                    · have c2z : ¬ (mid : Int) + (m : Int) - (i : Int) < (b : Int) := by omega
                      have E := Lib.hid (show decide (i < m ∧ mid + m < b + i) = false from decide_eq_false (by omega))
                      go_wp2_with fail
                      go_meet
                      exact ⟨by rw [E.out], rfl⟩
                  · have c1z : ¬ (mid : Int) < (mid : Int) + (m : Int) - (i : Int) := by omega
                    have E := Lib.hid (show decide (i < m ∧ mid + m < b + i) = false from decide_eq_false (by omega))
                    go_wp2_with fail
                    go_meet
                    exact ⟨by rw [E.out], rfl⟩
                case rest => as_aux_lemma =>
                  obtain ⟨rfl, rfl⟩ := hcut
                  go_upto_if 213 with fail
                  by_cases c : i < m ∧ mid + m < b + i
                  · have hc := IH.out mid (mid + m - i) b (mid : Int) ((mid : Int) + (m : Int) - (i : Int)) (b : Int) d2 w2 rfl (by omega) rfl (by omega) (by omega) (by omega) (by omega) hz2 hH.out.2 hH.out.1.r1 hH.out.1.r2
                    rw [decide_eq_true c]
                    clear c
                    go_wp2_with (go_at_fn 33; refine hc.mono ?_; rintro e w' ⟨rfl, d3, hr⟩)
                    go_end0
                    exact ⟨rfl, d3, hH.out.1.last (by omega) (by omega) hb hr.out.1, hr.out.2⟩
                  · rw [decide_eq_false c]
                    have C := Lib.hid c
                    clear c
                    go_wp2_with fail
                    go_end0
                    exact ⟨rfl, d2, hH.out.1.last (by omega) (by omega) hb (hH.out.1.skip (by omega) (by omega) (by have := C.out; omega)), hH.out.2⟩

theorem sym_any (k : Nat) (L : Srt P k) (U : SrtU P) (enc : α → List Value) (cf : α → α → Int) (hO : SWO (ltOf cf)) (g : Nat) (cb : Array Value) (blk off cap len : Nat) (d0 : Array α) (w0 : World)
    (eg : ∀ args w, (callFunc g args).run P w = .ok (.enter g args) w) (R : RowK enc k w0 blk off d0) (hcmp : CmpLays P g cb enc k cf blk off d0.size w0) (hs : d0.size = len) (hsz : len < 4611686018427387904) : ∀ N, SymAt P enc k cf g cb w0 blk off cap len N
  | 0 => fun a m b za zm zb d w _ _ _ hN h1 h2 => by omega
  | N + 1 => fun a m b za zm zb d w hza hzm hzb hN h1 h2 hb hl S hs1 hs2 => by
    have ih := sym_any k L U enc cf hO g cb blk off cap len d0 w0 eg R hcmp hs hsz N
    subst hza hzm hzb hl
    by_cases c1 : m = a + 1
    · subst c1
      refine (sym_one k L U enc cf hO g cb blk off cap a b d0 d w0 w eg R hcmp hs S.out h2 hb hsz hs2).mono ?_
      exact fun e w' ⟨he, d', h1, h2⟩ => ⟨he, d', ⟨h1, h2⟩⟩
    · by_cases c2 : b = m + 1
      · subst c2
        refine (sym_last k L U enc cf hO g cb blk off cap a m d0 d w0 w eg R hcmp hs S.out (by omega) (by omega) hsz hs1).mono ?_
        exact fun e w' ⟨he, d', h1, h2⟩ => ⟨he, d', ⟨h1, h2⟩⟩
      · refine (sym_three k L U enc cf hO g cb blk off cap a m b _ _ _ d0 d w0 w eg R hcmp hs S.out (by omega) (by omega) hb hsz hs1 hs2 rfl rfl rfl ?_).mono ?_
        · exact fun a' m' b' za zm zb d' w' e1 e2 e3 hN' => ih a' m' b' za zm zb d' w' e1 e2 e3 (by omega)
        · exact fun e w' ⟨he, d', h1, h2⟩ => ⟨he, d', ⟨h1, h2⟩⟩
end Go.Proofs.Ytlkcnfkfccfhmaa
