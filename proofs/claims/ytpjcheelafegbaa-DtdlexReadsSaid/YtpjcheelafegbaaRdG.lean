/-
  Contracts of the reference's layer 9: kind, blank, text, pubid.
-/
import Derived.Test.YtpjcheelafegbaaRdF
import Derived.Test.YtpjcheelafegbaaDxX
import Derived.Test.YtpjcheelafegbaaStrB
import Derived.IntWalk
namespace Go.Proofs.Ytpjcheelafegbaa
open Go.RowKit
set_option linter.unusedVariables false

/-- A box's cells that were just laid. -/
structure HBxR (W : World) (g : Nat) (cs : List Value) : Prop where
  c : ∀ (i : Nat) (u : Value), cs[i]? = some u → W.cell? ⟨g, i, none⟩ = some u
theorem HBxR.new (W : World) (cs : List Value) (e : TypeId) : HBxR (W.alloc (.cells cs.toArray e)) W.heap.size cs :=
  ⟨fun i u h => by have := new_cells W cs e i u h; rwa [addr_add, Nat.zero_add] at this⟩
theorem pubid_refR {r : Int} {b : Bool} (h : pubidB r = b) (w : World) :
    Calls Try.prog 74 #[.int .i32 r] w fun e w' => e = .returned (.bool b) ∧ Below w.heap.size w w' := h ▸ refPubid_any r w
/-- The kind of part number k; 0: there is none. -/
def kindN (P : List PartA) (k : Nat) : Nat := (P.getD k (0, 0, 0)).1
theorem kindN_some {P : List PartA} {k : Nat} {x : PartA} (h : P[k]? = some x) : kindN P k = x.1 := by unfold kindN; rw [List.getD_eq_getElem?_getD, h]; rfl
theorem kindN_none {P : List PartA} {k : Nat} (h : P.length ≤ k) : kindN P k = 0 := by unfold kindN; rw [List.getD_eq_getElem?_getD, List.getElem?_eq_none h]; rfl
/-- Behind a Space, if there is one there. -/
def blankN (P : List PartA) (k : Nat) : Nat := if kindN P k = 3 then k + 1 else k

set_option maxHeartbeats 1000000 in
theorem rkind_any (P : List PartA) (q : Nat) (hq : P.length = q) (a : Option Addr) (c k : Nat) (w : World) (hqb : q ≤ 1000) (hat : AtCells w a (parsCells P)) :
    Calls Try.prog 47 #[.slice a q c, .int .i64 k] w fun e w' => e = .returned (.int .i64 (kindN P k)) ∧ w = w' := by
  have e0 : ¬ ((k : Int) < 0) := by omega
  by_cases hk : k < q
  · obtain ⟨x, hx⟩ : ∃ x, P[k]? = some x := ⟨_, List.getElem?_eq_getElem (by omega)⟩
    obtain ⟨b, off, rfl, c0, _, _⟩ := par_cells hat hx
    have HK := Lib.hid (kindN_some hx)
    have q1 : decide (q ≤ k) = false := decide_eq_false (by omega)
    clear hx hat hq
    go_enter Try.func47, Try.ntmps47
    go_wp2
    go_ret
    exact ⟨by rw [HK.out]; rfl, rfl⟩
  · have HK := Lib.hid (kindN_none (P := P) (k := k) (by omega))
    have q1 : decide (q ≤ k) = true := decide_eq_true (by omega)
    clear hat hq
    go_enter Try.func47, Try.ntmps47
    go_wp2
    go_ret
    exact ⟨by rw [HK.out]; rfl, rfl⟩

set_option maxHeartbeats 1000000 in
theorem rblank_any (P : List PartA) (q : Nat) (hq : P.length = q) (a : Option Addr) (c k : Nat) (hk : k ≤ 2000) (w : World) (hqb : q ≤ 1000) (hat : AtCells w a (parsCells P)) :
    Calls Try.prog 50 #[.slice a q c, .int .i64 k] w fun e w' => e = .returned (.int .i64 (blankN P k)) ∧ w = w' := by
  have HC := Lib.hid (rkind_any P q hq a c k w hqb hat)
  have HB := Lib.hid (show blankN P k = if kindN P k = 3 then k + 1 else k from rfl)
  obtain ⟨x, hx⟩ : ∃ x, kindN P k = x := ⟨_, rfl⟩
  rw [hx] at HC HB
  clear hx hat hq
  by_cases h3 : x = 3
  · subst h3
    go_enter Try.func50, Try.ntmps50
    go_wp2_with (go_at_call 47; (refine HC.out.mono ?_); rintro e w1 ⟨rfl, rfl⟩)
    go_ret
    have e1 : blankN P k = k + 1 := by rw [HB.out]; rfl
    exact ⟨ret_num (by rw [e1]; omega), rfl⟩
  · have q3 : ((x : Int) == 3) = false := by simp; omega
    go_enter Try.func50, Try.ntmps50
    go_wp2_with (go_at_call 47; (refine HC.out.mono ?_); rintro e w1 ⟨rfl, rfl⟩)
    go_ret
    have e1 : blankN P k = k := by rw [HB.out, if_neg h3]
    exact ⟨ret_num (by rw [e1]), rfl⟩

/-- Runes as bytes, of those below 128. -/
def txt1 (r : Int) : Int := if 0 < r ∧ r < 128 then r else 0
def txt (s : List Int) : List Int := s.map txt1
theorem Try.infoU8R : (Try.prog.info? 5).map (fun i => (i.zero, i.size, i.bytes)) = some (some (.int .u8 0), 1, 1) := by kernel_rfl
theorem txt_snoc {l : List Int} {f i : Nat} (hf : f ≤ i) (hi : i < l.length) : txt ((l.take (i + 1)).drop f) = txt ((l.take i).drop f) ++ [txt1 (l.getD i 0)] := by
  unfold txt
  rw [List.take_succ_eq_append_getElem hi, List.drop_append_of_le_length (by rw [List.length_take]; omega), List.map_append, List.getD_eq_getElem?_getD, List.getElem?_eq_getElem hi]
  rfl

set_option maxRecDepth 20000 in
set_option maxHeartbeats 4000000 in
theorem rtext_any {b off n cap : Nat} {l : List Int} {w : World} (R : RRow w b off n cap l) (hn : n ≤ 1000) (k f t : Nat) (hft : f ≤ t) (htn : t ≤ n) :
    Calls Try.prog 48 #[.slice (some ⟨b, off, none⟩) n cap, parI k f t] w fun e w' => e = .returned (.string (strOfNums (txt ((l.take t).drop f)))) ∧ Below w.heap.size w w' := by
  obtain ⟨i0, hi, hz0, hz1, hz2⟩ := info_parts Try.infoU8R
  have HI := Lib.hid (And.intro hi (And.intro hz0 (And.intro hz1 hz2)))
  have hm := R.max
  have hc := R.le
  unfold maxLen at hm
  have HR := Lib.hid (fun (w' : World) hb => R.below (w' := w') hb)
  have HL := Lib.hid R.len
  obtain ⟨bx, hbx⟩ : ∃ bx : Obj, bx = .cells #[.int .i64 (k : Nat), .int .i64 (f : Nat), .int .i64 (t : Nat)] 36 := ⟨_, rfl⟩
  have HB0 := Lib.hid (show Below w.heap.size w (w.alloc (.cells #[.int .i64 (k : Nat), .int .i64 (f : Nat), .int .i64 (t : Nat)] 36)) from one_ok w _)
  have HBX := Lib.hid (HBxR.new w [.int .i64 (k : Nat), .int .i64 (f : Nat), .int .i64 (t : Nat)] 36)
  have HCV := Lib.hid (fun (w' : World) (v : Option Addr) (c : Nat) (zs : List Int) (m : Nat) (hm : zs.length = m) (h : AtCells w' v (zs.map (Value.int .u8))) => run_strB (P := Try.prog) w' 54 5 9 Try.underlying54 Try.underlying5 Try.underlying9 v m c zs hm h)
  clear hi hz0 hz1 hz2 R hbx
  go_enter Try.func48, Try.ntmps48
  go_wp2
  go_loopw [5, 6, 7] (fun v iv _c wr => ∃ (i : Nat) (v' : Value), iv = .int .i64 i ∧ v' = v ∧ f ≤ i ∧ i ≤ t ∧ Hid (wr.ownsRow (w.heap.size + 1) 5 1 v' (txt ((l.take i).drop f)).length ((txt ((l.take i).drop f)).map (Value.int .u8)) ∧ Below (w.heap.size + 1) (w.alloc (.cells #[.int .i64 (k : Nat), .int .i64 (f : Nat), .int .i64 (t : Nat)] 36)) wr)) (fun _ iv _ _ => t - (intOf iv).toNat)
  case atStart => exact ⟨f, _, rfl, rfl, Nat.le_refl _, hft, Lib.hid ⟨by rw [show (l.take f).drop f = [] from List.drop_eq_nil_of_le (by rw [List.length_take]; omega)]; exact World.ownsRow_nil _ _ _ _, Below.refl _ _⟩⟩
  case round =>
    obtain ⟨i, v0, rfl, rfl, hfi, hit, HO⟩ := hrel
    have hbl := Lib.hid (HB0.out.trans (HO.out.2.mono (Nat.le_succ _)))
    have b1 := (HO.out.2.cell (p := ⟨w.heap.size, 1, none⟩) (by simp)).trans (HBX.out.c 1 _ rfl)
    have b2 := (HO.out.2.cell (p := ⟨w.heap.size, 2, none⟩) (by simp)).trans (HBX.out.c 2 _ rfl)
    have hwlt : w.heap.size < wr.heap.size := by have := HO.out.2.size; simp at this; omega
    by_cases hlt : i < t
    · have hcl := rcell (HR.out _ hbl.out) i (by omega) rfl
      have HSN := Lib.hid (txt_snoc (l := l) (f := f) (i := i) hfi (by rw [HL.out]; omega))
      obtain ⟨z, hz⟩ : ∃ z, l.getD i 0 = z := ⟨_, rfl⟩
      rw [hz] at hcl HSN
      obtain ⟨tx, htx⟩ : ∃ tx, tx = txt ((l.take i).drop f) := ⟨_, rfl⟩
      rw [← htx] at HSN HO
      have hlen : tx.length ≤ 1000 := by rw [htx]; unfold txt; rw [List.length_map, List.length_drop, List.length_take]; omega
      have HM := Lib.hid hlen
      have HTX := Lib.hid htx
      clear hz hlen htx
      by_cases hz : 0 < z ∧ z < 128
      · obtain ⟨z1, z2⟩ := hz
        have HT1 := Lib.hid (show txt1 z = z by unfold txt1; rw [if_pos ⟨z1, z2⟩])
        have ew : IntKind.u8.wrap z = z := IntWalk.u8_in _ (by omega)
        go_wp2_with (at_builtin; refine wpList_append_own _ rfl _ _ 54 rfl (w.heap.size + 1) 5 i0 _ 1 1 Try.underlying54 HI.out.1 HI.out.2.1 HI.out.2.2.1 HI.out.2.2.2 rfl (by decide) _ _ _ rfl (HO.out.1.alloc _) _ _ _ [.int .u8 z] rfl rfl (new_cells _ _ _) (by simp [Value.oneCell']) (by have := HM.out; unfold maxLen; omega) (by have := HM.out; omega) (by simp; omega) ?_; intro v' w4 hown' hg' _; have HF := Lib.hid (And.intro hown' (below_grown_alloc HO.out.2 (by omega) hg' (fun g hg => (HO.out.1.lt g hg).1))); clear hown' hg')
        go_roundw
        case rel => exact ⟨i + 1, _, by go_num, rfl, by omega, by omega, Lib.hid ⟨by rw [HSN.out, HT1.out, List.length_append, List.map_append]; exact HF.out.1, HF.out.2⟩⟩
        case measure => simp [intOf]; omega
      · have HT1 := Lib.hid (show txt1 z = 0 by unfold txt1; rw [if_neg hz])
        have hcs : ¬ 0 < z ∨ (0 < z ∧ ¬ z < 128) := by omega
        clear hz
        rcases hcs with h1 | ⟨h1, h2⟩
        all_goals
          go_wp2_with (at_builtin; refine wpList_append_own _ rfl _ _ 54 rfl (w.heap.size + 1) 5 i0 _ 1 1 Try.underlying54 HI.out.1 HI.out.2.1 HI.out.2.2.1 HI.out.2.2.2 rfl (by decide) _ _ _ rfl (HO.out.1.alloc _) _ _ _ [.int .u8 0] rfl rfl (new_cells _ _ _) (by simp [Value.oneCell']) (by have := HM.out; unfold maxLen; omega) (by have := HM.out; omega) (by simp; omega) ?_; intro v' w4 hown' hg' _; have HF := Lib.hid (And.intro hown' (below_grown_alloc HO.out.2 (by omega) hg' (fun g hg => (HO.out.1.lt g hg).1))); clear hown' hg')
          go_roundw
          case rel => exact ⟨i + 1, _, by go_num, rfl, by omega, by omega, Lib.hid ⟨by rw [HSN.out, HT1.out, List.length_append, List.map_append]; exact HF.out.1, HF.out.2⟩⟩
          case measure => simp [intOf]; omega
    · obtain rfl : i = t := by omega
      obtain ⟨va, vc, rfl, _⟩ := owns_slice HO.out.1
      have hcv := HCV.out wr va vc _ _ rfl (AtCells.of_owns HO.out.1)
      clear hlt
      go_wp2
      go_ret
      exact ⟨rfl, hbl.out⟩

set_option maxRecDepth 20000 in
set_option maxHeartbeats 2000000 in
theorem rpubid_any {b off n cap : Nat} {l : List Int} {w : World} (R : RRow w b off n cap l) (hn : n ≤ 1000) (k f t : Nat) (hft : f + 2 ≤ t) (htn : t ≤ n) {v : Bool} (hv : pubP l (k, f, t) = v) :
    Calls Try.prog 49 #[.slice (some ⟨b, off, none⟩) n cap, parI k f t] w fun e w' => e = .returned (.bool v) ∧ Below w.heap.size w w' := by
  have hm := R.max
  have hc := R.le
  unfold maxLen at hm
  have HR := Lib.hid (fun (w' : World) hb => R.below (w' := w') hb)
  obtain ⟨s, hs⟩ : ∃ s, s = (l.take (t - 1)).drop (f + 1) := ⟨_, rfl⟩
  have hsl : s.length = t - 1 - (f + 1) := by rw [hs, List.length_drop, List.length_take, R.len]; omega
  have HSL := Lib.hid hsl
  have HSG := Lib.hid (show ∀ x, f + 1 + x < t - 1 → s.getD x 0 = l.getD (f + 1 + x) 0 from fun x hx => by
    rw [hs, List.getD_eq_getElem?_getD, List.getD_eq_getElem?_getD, List.getElem?_drop, List.getElem?_take, if_pos hx])
  have HV := Lib.hid (show decide (runP pubidB s = t - 1 - (f + 1)) = v by rw [hs]; exact hv)
  have HB0 := Lib.hid (show Below w.heap.size w (w.alloc (.cells #[.int .i64 (k : Nat), .int .i64 (f : Nat), .int .i64 (t : Nat)] 36)) from one_ok w _)
  have HBX := Lib.hid (HBxR.new w [.int .i64 (k : Nat), .int .i64 (f : Nat), .int .i64 (t : Nat)] 36)
  clear R hv hs hsl
  go_enter Try.func49, Try.ntmps49
  go_wp2
  go_loopw [5] (fun iv wr => ∃ (i j : Nat), iv = .int .i64 i ∧ Hid (i = f + 1 + j) ∧ f + 1 ≤ i ∧ i ≤ t - 1 ∧ Hid (∀ x, x < j → pubidB (s.getD x 0) = true) ∧ Hid (Below (w.heap.size + 1) (w.alloc (.cells #[.int .i64 (k : Nat), .int .i64 (f : Nat), .int .i64 (t : Nat)] 36)) wr)) (fun iv _ => t - (intOf iv).toNat)
  case atStart => exact ⟨f + 1, 0, by go_num, Lib.hid rfl, Nat.le_refl _, by omega, Lib.hid (fun x hx => by omega), Lib.hid (Below.refl _ _)⟩
  case round =>
    obtain ⟨i, j, rfl, HI, hfi, hit, HJ, HO⟩ := hrel
    have hbl := Lib.hid (HB0.out.trans (HO.out.mono (Nat.le_succ _)))
    have b1 := (HO.out.cell (p := ⟨w.heap.size, 1, none⟩) (by simp)).trans (HBX.out.c 1 _ rfl)
    have b2 := (HO.out.cell (p := ⟨w.heap.size, 2, none⟩) (by simp)).trans (HBX.out.c 2 _ rfl)
    by_cases hlt : i < t - 1
    · have hlt2 : (i : Int) < (t : Int) - 1 := by omega
      have hcl := rcell (HR.out _ hbl.out) i (by omega) rfl
      obtain ⟨z, hz⟩ : ∃ z, l.getD i 0 = z := ⟨_, rfl⟩
      rw [hz] at hcl
      have hsz : s.getD j 0 = z := by rw [HSG.out j (by have := HI.out; omega), ← HI.out]; exact hz
      clear hz
      cases hp : pubidB z
      · have HC := Lib.hid (fun w => pubid_refR hp w)
        have HF := Lib.hid (show v = false by
          rw [← HV.out]
          have := runP_of pubidB s j HJ.out (by rw [HSL.out]; have := HI.out; omega) (by rw [hsz]; exact hp)
          rw [this]; exact decide_eq_false (by have := HI.out; omega))
        clear hp hsz
        go_wp2_with (go_at_call 74; (with_reducible refine (HC.out _).mono ?_); rintro e w1 ⟨rfl, hb1⟩)
        go_ret
        rw [HF.out]
        exact ⟨rfl, Below.more hbl.out hb1⟩
      · have HC := Lib.hid (fun w => pubid_refR hp w)
        have HK := Lib.hid (show ∀ x, x < j + 1 → pubidB (s.getD x 0) = true from fun x hx => by
          by_cases h : x = j
          · subst h; rw [hsz]; exact hp
          · exact HJ.out x (by omega))
        clear hp hsz
        go_wp2_with (go_at_call 74; (with_reducible refine (HC.out _).mono ?_); rintro e w1 ⟨rfl, hb1⟩)
        have HB1 := Lib.hid (HO.out.trans (hb1.mono (by have := HO.out.size; simp at this; omega)))
        clear hb1
        go_roundw
        case rel => exact ⟨i + 1, j + 1, by go_num, Lib.hid (by have := HI.out; omega), by omega, by omega, HK, HB1⟩
        case measure => simp [intOf]; omega
    · have hlt2 : ¬ (i : Int) < (t : Int) - 1 := by omega
      have HF := Lib.hid (show v = true by
        rw [← HV.out]
        have := runP_all pubidB s (fun x hx => HJ.out x (by rw [HSL.out] at hx; have := HI.out; omega))
        rw [this, HSL.out]; exact decide_eq_true rfl)
      clear hlt
      go_wp2
      go_ret
      rw [HF.out]
      exact ⟨rfl, hbl.out⟩

end Go.Proofs.Ytpjcheelafegbaa
