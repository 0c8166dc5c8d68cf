/-
  For SniffFits: strings.EqualFold of any string and a name of small ASCII letters and signs.
-/
import Derived.Test.YtmibajofbagphaaDoorSnK
import Derived.Laws.RangeAny
import Derived.LoopN
import Derived.Lib.IndexBytes
import Derived.Lib.Fold
import Derived.Laws.Strings3
import Derived.Laws.RangeString
import Derived.Lib.OthersKept
import Derived.Deep.LoopGhost
import Derived.Deep.CutBlock
import Derived.WalkMore
import Derived.ScopeJumps
namespace Go.Proofs.YtmibajofbagphaaDoor
open Go.RowKit Go.Shelf Go.Lib

/-- Is a byte a name's byte, or its great letter? -/
def foldAt (c d : UInt8) : Bool := decide (c.toNat = d.toNat ∨ (97 ≤ d.toNat ∧ d.toNat ≤ 122 ∧ c.toNat + 32 = d.toNat))
def foldEq : List UInt8 → List UInt8 → Bool
  | [], [] => true
  | c :: s, d :: t => foldAt c d && foldEq s t
  | _, _ => false

theorem foldEq_end (s t : List UInt8) (h : s = [] ∨ t = []) : foldEq s t = decide (s.length = t.length) := by
  rcases h with rfl | rfl
  · cases t <;> simp [foldEq]
  · cases s <;> simp [foldEq]
theorem foldEq_yes {c d : UInt8} {s t : List UInt8} (h : foldAt c d = true) : foldEq (c :: s) (d :: t) = foldEq s t := by simp [foldEq, h]
theorem foldEq_no {c d : UInt8} {s t : List UInt8} (h : foldAt c d = false) : foldEq (c :: s) (d :: t) = false := by simp [foldEq, h]

theorem fold_back (k : Nat) (h : k < 128) (h1 : ¬ (65 ≤ k ∧ k ≤ 90)) (h2 : k ≠ 107) (h3 : k ≠ 115) : foldOf k = (k : Nat) ∨ ∃ z : Nat, z < 128 ∧ z ≠ k ∧ foldOf k = (z : Nat) ∧ foldOf z = (k : Nat) := by
  by_cases h4 : 97 ≤ k ∧ k ≤ 122
  · refine .inr ⟨k - 32, by omega, by omega, ?_, ?_⟩
    · unfold foldOf
      repeat' split
      all_goals omega
    · unfold foldOf
      repeat' split
      all_goals omega
  · refine .inl ?_
    unfold foldOf
    repeat' split
    all_goals omega

theorem act_map (a : Act) (n : Nat) (h : a.tmps.size = n) (hd : a.defers = []) : a = { tmps := ((List.range n).map fun k => a.tmps.getD k undef).toArray, defers := [] } := by
  cases a with
  | mk tmps defers =>
    simp only at h hd
    subst hd h
    congr 1
    apply Array.ext
    · simp
    · intro i h1 h2
      simp [Array.getD, h1]

/-- A name's byte. -/
def Small (l : List UInt8) : Prop := ∀ (j : Nat) b, l[j]? = some b → b.toNat < 128 ∧ ¬ (65 ≤ b.toNat ∧ b.toNat ≤ 90) ∧ b.toNat ≠ 107 ∧ b.toNat ≠ 115

set_option maxHeartbeats 8000000 in
set_option maxRecDepth 1000000 in
theorem fold_any (s t : ByteArray) (w : World) (hs : s.size < 4294967281) (ht : Small t.data.toList) (hF : FoldTab w) :
    Calls Tryd.prog 34 #[.string s, .string t] w fun e w' => e = .returned (.bool (foldEq s.data.toList t.data.toList)) ∧ Below w.heap.size w w' := by
  have HT := Lib.hid ht
  have HFT := Lib.hid hF
  clear ht hF
  obtain ⟨R, hR⟩ : ∃ R, R = foldEq s.data.toList t.data.toList := ⟨_, rfl⟩
  rw [← hR]
  have HR := Lib.hid hR
  clear hR
  obtain ⟨M, hM⟩ : ∃ M : Nat, min (s.size : Int) (t.size : Int) = (M : Int) := ⟨min s.size t.size, by omega⟩
  have hMs : M ≤ s.size := by omega
  have hMt : M ≤ t.size := by omega
  have hMe : M = s.size ∨ M = t.size := by omega
  obtain ⟨J, hJ⟩ : ∃ J : Act → World → Prop, ∀ a' w', J a' w' ↔ (w' = w ∧ ∃ (i : Nat) (u : Nat → Value), a' = { tmps := ((List.range 123).map u).toArray, defers := [] } ∧ u 0 = .string s ∧ u 1 = .string t ∧ u 5 = .int .i64 (i : Nat) ∧ i < M ∧ R = false ∧ ∃ b, s.data.toList[i]? = some b ∧ 128 ≤ b.toNat) := ⟨_, fun _ _ => Iff.rfl⟩
  have HJ := Lib.hid hJ
  clear hJ
  go_enter Tryd.func34, Tryd.ntmps34
  go_wp2
  refine wp_scope_jumps 0 J (fun _ _ => 0) rfl ?_ ?_
  · go_wp2
    go_loopg [5] M (fun g s5 wx => w = wx ∧ ∃ i : Nat, i + g = M ∧ s5 = .int .i64 i ∧ foldEq (s.data.toList.drop i) (t.data.toList.drop i) = R)
    case atStart => exact ⟨rfl, 0, by omega, rfl, HR.out.symm⟩
    case round =>
      obtain ⟨rfl, i, hig, rfl, hinv⟩ := hrel
      have HI := Lib.hid hinv
      clear hinv hM
      cases gk with
      | zero =>
        have hiM : ¬ ((i : Int) < (M : Int)) := by omega
        obtain rfl : i = M := by omega
        have hE : R = decide (s.size = t.size) := by
          rw [← HI.out, foldEq_end _ _ (by
            rcases hMe with h | h
            · exact Or.inl (List.drop_eq_nil_of_le (by rw [← Lib.size_eq]; omega))
            · exact Or.inr (List.drop_eq_nil_of_le (by rw [← Lib.size_eq]; omega))), List.length_drop, List.length_drop, ← Lib.size_eq, ← Lib.size_eq]
          exact decide_eq_decide.2 (by omega)
        by_cases hst : s.size = t.size
        · have hb : ((s.size : Int) == (t.size : Int)) = true := beq_iff_eq.2 (by omega)
          go_wp2
          simp only [Exit.inBlock, Exit.then, Exit.jump]
          go_ret
          exact ⟨by rw [hE]; simp [hst], Below.refl _ _⟩
        · have hb : ((s.size : Int) == (t.size : Int)) = false := beq_eq_false_iff_ne.2 (by omega)
          go_wp2
          simp only [Exit.inBlock, Exit.then, Exit.jump]
          go_ret
          exact ⟨by rw [hE]; simp [hst], Below.refl _ _⟩
      | succ g =>
        have hiM : (i : Int) < (M : Int) := by omega
        have hisz : (i : Int) < (s.size : Int) := by omega
        have hitz : (i : Int) < (t.size : Int) := by omega
        obtain ⟨x, hx⟩ : ∃ x : UInt8, s[i]'(by omega) = x := ⟨_, rfl⟩
        obtain ⟨y, hy⟩ : ∃ y : UInt8, t[i]'(by omega) = y := ⟨_, rfl⟩
        have hxl : s.data.toList[i]? = some x := by rw [← hx]; exact Lib.data_getElem? s i (by omega)
        have hyl : t.data.toList[i]? = some y := by rw [← hy]; exact Lib.data_getElem? t i (by omega)
        have hy128 : y.toNat < 128 := (HT.out i y hyl).1
        have hysm := (HT.out i y hyl).2.1
        have HX := Lib.hid (And.intro hxl hyl)
        have hxb : x.toNat < 256 := x.toNat_lt
        clear hxl hyl
        by_cases hx128 : x.toNat < 128
        · have hor : bits .or .u8 (x.toNat : Int) (y.toNat : Int) = ((x.toNat ||| y.toNat : Nat) : Int) := u8_or_nat _ _ (by omega) (by omega)
          have hor128 : ¬ ((128 : Int) ≤ ((x.toNat ||| y.toNat : Nat) : Int)) := by have := Nat.or_lt_two_pow (n := 7) hx128 hy128; omega
          go_wp2
          all_goals (try simp only [beq_iff_eq, beq_eq_false_iff_ne, ne_eq] at *)
          all_goals first
            | (go_roundg g
               case measure => omega
               case rel => exact ⟨rfl, i + 1, by omega, by first | rfl | simp, by rw [← HI.out, Lib.drop_at HX.out.1, Lib.drop_at HX.out.2, foldEq_yes (decide_eq_true (by omega))]⟩)
            | (simp only [Exit.inBlock, Exit.then, Exit.jump]
               go_ret
               refine ⟨?_, Below.refl _ _⟩
               rw [← HI.out, Lib.drop_at HX.out.1, Lib.drop_at HX.out.2, foldEq_no (decide_eq_false (by omega))]
               rfl)
        · have hor : bits .or .u8 (x.toNat : Int) (y.toNat : Int) = ((x.toNat ||| y.toNat : Nat) : Int) := u8_or_nat _ _ (by omega) (by omega)
          have hor128 : (128 : Int) ≤ ((x.toNat ||| y.toNat : Nat) : Int) := by have := Nat.left_le_or (n := x.toNat) (m := y.toNat); omega
          have hF : R = false := by
            rw [← HI.out, Lib.drop_at HX.out.1, Lib.drop_at HX.out.2, foldEq_no (decide_eq_false (by omega))]

          go_wp2_with fail
          go_step3
          exact ⟨rfl, (HJ.out _ _).2 ⟨rfl, i, _, act_map _ 123 rfl rfl, rfl, rfl, rfl, by omega, hF, x, HX.out.1, by omega⟩⟩
  · intro a' w' hj
    obtain ⟨rfl, i, u, rfl, u0, u1, u5, hiM, rfl, b, hb, hb128⟩ := (HJ.out _ _).1 hj
    clear hj HJ
    have hl : (List.range 123).map u = [u 0, u 1, u 2, u 3, u 4, u 5, u 6, u 7, u 8, u 9, u 10, u 11, u 12, u 13, u 14, u 15, u 16, u 17, u 18, u 19, u 20, u 21, u 22, u 23, u 24, u 25, u 26, u 27, u 28, u 29, u 30, u 31, u 32, u 33, u 34, u 35, u 36, u 37, u 38, u 39, u 40, u 41, u 42, u 43, u 44, u 45, u 46, u 47, u 48, u 49, u 50, u 51, u 52, u 53, u 54, u 55, u 56, u 57, u 58, u 59, u 60, u 61, u 62, u 63, u 64, u 65, u 66, u 67, u 68, u 69, u 70, u 71, u 72, u 73, u 74, u 75, u 76, u 77, u 78, u 79, u 80, u 81, u 82, u 83, u 84, u 85, u 86, u 87, u 88, u 89, u 90, u 91, u 92, u 93, u 94, u 95, u 96, u 97, u 98, u 99, u 100, u 101, u 102, u 103, u 104, u 105, u 106, u 107, u 108, u 109, u 110, u 111, u 112, u 113, u 114, u 115, u 116, u 117, u 118, u 119, u 120, u 121, u 122] := rfl
    rw [hl, u0, u1, u5]
    clear hl u0 u1 u5
    have hism : (i : Int) ≤ (s.size : Int) := by omega
    have hitm : (i : Int) ≤ (t.size : Int) := by omega
    obtain ⟨y, hy⟩ : ∃ y : UInt8, t.data.toList[i]? = some y := ⟨_, Lib.data_getElem? t i (by omega)⟩
    obtain ⟨hy128, hyn, hy1, hy2⟩ := HT.out i y hy
    have hSs : (s.extract i s.size).size = s.size - i := by simp [ByteArray.size_extract]
    have hTs : (t.extract i t.size).size = t.size - i := by simp [ByteArray.size_extract]
    have hS0 : (s.extract i s.size).data.toList[0]? = some b := by
      rw [Lib.extract_to_end, List.getElem?_drop]
      simpa using hb
    have hT0 : (t.extract i t.size).data.toList[0]? = some y := by
      rw [Lib.extract_to_end, List.getElem?_drop]
      simpa using hy
    clear hM hMe
    obtain ⟨S', hS'⟩ : ∃ S', S' = s.extract i s.size := ⟨_, rfl⟩
    obtain ⟨T', hT'⟩ : ∃ T', T' = t.extract i t.size := ⟨_, rfl⟩
    go_wp2_with fail
    rw [← hS'] at hSs hS0 ⊢
    rw [← hT'] at hTs hT0 ⊢
    clear hS' hT'
    have hpS : 0 < S'.size := by omega
    have hpT : (1 : Int) ≤ (T'.size : Int) := by omega
    have hpT0 : ((T'.size : Int) == 0) = false := beq_eq_false_iff_ne.2 (by omega)
    have hS0' : (S'[0]'hpS) = b := by
      have := Lib.data_getElem? S' 0 hpS
      rw [this] at hS0
      exact Option.some.inj hS0
    obtain ⟨hr1, _⟩ := decode_high S' 0 hpS (by rw [hS0']; exact hb128)
    have hr2 := decode_le S' 0
    have hnx := fun ty => run_next_any (P := Tryd.prog) w' S' 0 ty hpS
    have HD := Lib.hid (fun wx => Tryd.utf8_DecodeRuneInString_ascii T' y wx hT0 hy128)
    have hbl : ∀ p, Below w'.heap.size w' (w'.iter S' p) := fun p => (Below.refl _ _).alloc (Nat.le_refl _) _
    have HBL := Lib.hid hbl
    have HFT2 := Lib.hid (fun p => HFT.out.below (hbl p))
    clear hS0 hS0' hT0 hbl hb hb128 hy hSs hTs hism hitm hiM hMs hMt
    obtain ⟨r, hr⟩ : ∃ r : Nat, r = (Utf8.decode S' 0).1 := ⟨_, rfl⟩
    obtain ⟨d, hd⟩ : ∃ d : Nat, d = 0 + (Utf8.decode S' 0).2 := ⟨_, rfl⟩
    rw [← hr] at hr1 hr2
    simp only [← hr, ← hd] at hnx
    clear hr hd
    have hyr : (y.toNat : Int) < (r : Int) := by omega
    have hyr1 : ((y.toNat : Int) == (r : Int)) = false := beq_eq_false_iff_ne.2 (by omega)
    have hr3 : ¬ ((r : Int) < 128) := by omega
    have hfb := fold_back y.toNat hy128 hyn hy1 hy2
    have HSF := Lib.hid (sfold y.toNat hy128 _ (HFT2.out d))
    refine wp_loop_rounds 1 ?_
    rw [rounds_succ]
    rcases hfb with hfy | ⟨z, hz128, hzy, hfy, hfz⟩
    · rw [hfy] at HSF
      clear hfy
      go_wp2_with fail
      refine (HD.out _).mono ?_
      rintro e w2 ⟨rfl, rfl⟩
      go_wp2_with fail
      refine HSF.out.mono ?_
      rintro e w3 ⟨rfl, rfl⟩
      go_wp2_with fail
      refine wp_loop_rounds 1 ?_
      rw [rounds_succ]
      go_wp2_with fail
      simp only [Exit.inBlock, Exit.then, Exit.jump]
      go_ret
      exact ⟨rfl, HBL.out d⟩
    · have HSZ := Lib.hid (sfold z hz128 _ (HFT2.out d))
      rw [hfy] at HSF
      rw [hfz] at HSZ
      have hzr : (z : Int) < (r : Int) := by omega
      have hzy1 : ((z : Int) == (y.toNat : Int)) = false := beq_eq_false_iff_ne.2 (by omega)
      clear hfy hfz
      go_wp2_with fail
      refine (HD.out _).mono ?_
      rintro e w2 ⟨rfl, rfl⟩
      go_wp2_with fail
      refine HSF.out.mono ?_
      rintro e w3 ⟨rfl, rfl⟩
      go_wp2_with fail
      refine wp_loop_rounds 2 ?_
      rw [rounds_succ]
      go_wp2_with fail
      refine HSZ.out.mono ?_
      rintro e w4 ⟨rfl, rfl⟩
      go_wp2_with fail
      rw [rounds_succ]
      go_wp2_with fail
      simp only [Exit.inBlock, Exit.then, Exit.jump]
      go_ret
      exact ⟨rfl, HBL.out d⟩

end Go.Proofs.YtmibajofbagphaaDoor
