/-
  Contracts of layer 9: may all that stands in the quotes of a part stand in a public identifier?
-/
import Derived.Test.YtpjcheelafegbaaDxU
import Derived.Test.YtpjcheelafegbaaClsE
import Derived.StillTailTactics
namespace Go.Proofs.Ytpjcheelafegbaa
open Go.RowKit
set_option linter.unusedVariables false

theorem pubid_bl {r : Int} {b : Bool} (h : pubidB r = b) (w : World) :
    Calls Try.prog 89 #[.int .i32 r] w fun e w' => e = .returned (.bool b) ∧ Below w.heap.size w w' := h ▸ pubid_any r w

/-- The function Pubid as a value. -/
abbrev fn_Pubid : Value := .func (.func 89) #[] #[]

set_option maxHeartbeats 1000000 in
theorem run_Pubid (b off n cap : Nat) (l : List Int) (k : Nat) (w : World) (hn : l.length = n) (hc : n ≤ cap) (hm : cap ≤ maxLen) (hk : k < n) (hat : AtCells w (some ⟨b, off, none⟩) (l.map (.int .i32))) :
    Calls Try.prog 79 #[.slice (some ⟨b, off, none⟩) n cap, .int .i64 k, fn_Pubid] w fun e w' => e = .returned (.int .i64 (runP pubidB (l.drop k))) ∧ Below w.heap.size w w' := by
  unfold maxLen at hm
  have HAT := Lib.hid hat
  have HN := Lib.hid hn
  clear hat hn
  have q1 : decide (n < k) = false := decide_eq_false (by omega)
  have q2 : decide ((k : Int) < 0) = false := decide_eq_false (by omega)
  have hfn := fun w => func_eql_nil w (.func 89) #[] #[]
  go_enter Try.func79, Try.ntmps79
  go_wp2
  go_loopw [7, 8, 25] (fun _i7 _i8 i wr => ∃ j : Nat, j ≤ n - k ∧ i = .int .i64 j ∧ Below w.heap.size w wr ∧ Hid (∀ x, x < j → pubidB ((l.drop k).getD x 0) = true)) (fun _ _ i _ => n - k - (intOf i).toNat)
  case atStart => exact ⟨0, by omega, rfl, Below.refl _ _, Lib.hid (fun x hx => by omega)⟩
  case round =>
    obtain ⟨j, hj, rfl, hbl, HJ⟩ := hrel
    by_cases hlt : j < n - k
    · have hc0 := (((HAT.out.drop k).below hbl))
      rw [← List.map_drop] at hc0
      obtain ⟨b', off', hy, hc1⟩ := hc0.int (k := j) (by have := HN.out; simp; omega)
      simp only [Option.some.injEq, Addr.mk.injEq] at hy
      obtain ⟨rfl, rfl, _⟩ := hy
      obtain ⟨z, hz⟩ : ∃ z, z = (l.drop k).getD j 0 := ⟨_, rfl⟩
      rw [← hz] at hc1
      have HZ := Lib.hid hz
      clear hz hc0
      cases hnz : pubidB z
      · have HC := Lib.hid (fun w => pubid_bl hnz w)
        have HR := Lib.hid (runP_of pubidB (l.drop k) j HJ.out (by have := HN.out; simp; omega) (by rw [← HZ.out]; exact hnz))
        clear hnz
        have HBL := Lib.hid hbl
        clear hbl
        go_wp2_with (go_at_call 89; (with_reducible refine (HC.out _).mono ?_); rintro e w1 ⟨rfl, hb1⟩)
        go_ret
        exact ⟨by rw [HR.out]; rfl, HBL.out.trans (hb1.mono HBL.out.size)⟩
      · have HC := Lib.hid (fun w => pubid_bl hnz w)
        have HK := Lib.hid (show ∀ x, x < j + 1 → pubidB ((l.drop k).getD x 0) = true from fun x hx => by
          by_cases h : x = j
          · subst h; rw [← HZ.out]; exact hnz
          · exact HJ.out x (by omega))
        clear hnz
        have HBL := Lib.hid hbl
        clear hbl
        go_wp2_with (go_at_call 89; (with_reducible refine (HC.out _).mono ?_); rintro e w1 ⟨rfl, hb1⟩)
        have HB2 := Lib.hid (HBL.out.trans (hb1.mono HBL.out.size))
        clear hb1
        go_roundw
        case rel => exact ⟨j + 1, by omega, by go_num, HB2.out, HK⟩
        case measure => simp [intOf]; omega
    · obtain rfl : j = n - k := by omega
      have HR := Lib.hid (runP_all pubidB (l.drop k) (fun x hx => HJ.out x (by have := HN.out; simp at hx; omega)))
      have HL := Lib.hid (show (l.drop k).length = n - k by have := HN.out; simp; omega)
      clear hj hlt
      go_wp2
      go_ret
      exact ⟨ret_num (by rw [HR.out, HL.out]; omega), hbl⟩

set_option maxHeartbeats 1000000 in
theorem run_Pubid0 (b off n cap : Nat) (w : World) (hc : n ≤ cap) (hm : cap ≤ maxLen) :
    Calls Try.prog 79 #[.slice (some ⟨b, off, none⟩) n cap, .int .i64 n, fn_Pubid] w fun e w' => e = .returned (.int .i64 0) ∧ w' = w := by
  unfold maxLen at hm
  have q1 : decide (n < n) = false := decide_eq_false (by omega)
  have q2 : decide ((n : Int) < 0) = false := decide_eq_false (by omega)
  have hfn := fun w => func_eql_nil w (.func 89) #[] #[]
  by_cases hcap : cap = n
  · subst hcap
    go_enter Try.func79, Try.ntmps79
    go_wp2
    go_loopw [7, 8, 25] (fun _i7 _i8 i wr => i = .int .i64 0 ∧ wr = w) (fun _ _ i _ => 0)
    case atStart => exact ⟨rfl, rfl⟩
    case round =>
      obtain ⟨rfl, rfl⟩ := hrel
      go_wp2
      go_ret
      exact ⟨ret_num (by omega), rfl⟩
  · go_enter Try.func79, Try.ntmps79
    go_wp2
    go_loopw [7, 8, 25] (fun _i7 _i8 i wr => i = .int .i64 0 ∧ wr = w) (fun _ _ i _ => 0)
    case atStart => exact ⟨rfl, rfl⟩
    case round =>
      obtain ⟨rfl, rfl⟩ := hrel
      go_wp2
      go_ret
      exact ⟨ret_num (by omega), rfl⟩

theorem runPubidC {b off n cap : Nat} {l : List Int} {w : World} (R : RRow w b off n cap l) (k : Nat) (hk : k ≤ n) :
    Calls Try.prog 79 #[.slice (some ⟨b, off, none⟩) n cap, .int .i64 k, fn_Pubid] w fun e w' => e = .returned (.int .i64 (runP pubidB (l.drop k))) ∧ Below w.heap.size w w' := by
  by_cases h : k < n
  · exact run_Pubid b off n cap l k w R.len R.le R.max h R.cells
  · obtain rfl : k = n := by omega
    have h0 : l.drop k = [] := List.drop_eq_nil_of_le (by rw [R.len]; exact Nat.le_refl _)
    rw [h0]
    exact (run_Pubid0 b off k cap w R.le R.max).mono fun e w' ⟨he, hw⟩ => ⟨he, hw ▸ Below.refl _ _⟩

theorem ret_blV {a b : Bool} (h : a = b) : Ending.returned (.bool a) = .returned (.bool b) := by rw [h]
theorem func_neq_nil2 (w : World) (f : Fn) (a c : Array Value) : (binOp .neq 95 (.func f a c) .nilFunc).run Try.prog w = .ok (.bool true) w := func_neq_nil w f a c

set_option maxHeartbeats 1000000 in
theorem allPubid {b off n cap : Nat} {l : List Int} {w : World} (R : RRow w b off n cap l) :
    Calls Try.prog 88 #[.slice (some ⟨b, off, none⟩) n cap, fn_Pubid] w fun e w' => e = .returned (.bool (decide (runP pubidB l = l.length))) ∧ Below w.heap.size w w' := by
  have HRN := runPubidC R 0 (Nat.zero_le _)
  rw [List.drop_zero] at HRN
  have HRN := Lib.hid HRN
  have HN := Lib.hid R.len
  have hfn := fun w => func_neq_nil w (.func 89) #[] #[]
  clear R
  go_enter Try.func88, Try.ntmps88
  go_wp2_with (go_at_call 79; (refine HRN.out.mono ?_); rintro e w1 ⟨rfl, hb1⟩)
  go_ret
  exact ⟨ret_blV (by rw [HN.out, Bool.eq_iff_iff]; simp; omega), hb1⟩

/-- May what stands within the quotes of a part stand in a public identifier? -/
def pubP (l : List Int) (x : PartA) : Bool := decide (runP pubidB ((l.take (x.2.2 - 1)).drop (x.2.1 + 1)) = x.2.2 - 1 - (x.2.1 + 1))

set_option maxRecDepth 20000 in
set_option maxHeartbeats 1000000 in
theorem pubidD_any {w : World} {rp : Nat} {b off n cap : Nat} {l : List Int} {Q : List PartA} (h : RF w rp (some ⟨b, off, none⟩) n cap l Q) (k f t : Nat) (hft : f + 2 ≤ t) (htn : t ≤ n) (hn : n ≤ 1000) {v : Bool} (hv : pubP l (k, f, t) = v) :
    Calls Try.prog 73 #[.pointer (some ⟨rp, 0, none⟩), parI k f t] w fun e w' => e = .returned (.bool v) ∧ Below w.heap.size w w' := by
  have c0 := h.c0
  have hlt := cell_lt c0
  have hcap := h.le
  have hmax := h.max
  have hne : ¬ rp = w.heap.size := by omega
  obtain ⟨F, hF⟩ : ∃ F, F = f + 1 := ⟨_, rfl⟩
  obtain ⟨T, hT⟩ : ∃ T, T = t - 1 := ⟨_, rfl⟩
  have ew1 : IntKind.i64.wrap ((f : Int) + 1) = (F : Int) := by rw [IntWalk.i64_in _ (by omega)]; omega
  have ew2 : IntKind.i64.wrap ((t : Int) - 1) = (T : Int) := by rw [IntWalk.i64_in _ (by omega)]; omega
  have hb0 := one_ok w (.cells #[.int .i64 (k : Nat), .int .i64 (f : Nat), .int .i64 (t : Nat)] 32)
  have hsl : ((l.take (t - 1)).drop (f + 1)).length = t - 1 - (f + 1) := by have := h.len; simp; omega
  have RR : RRow w b (off + (f + 1)) (t - 1 - (f + 1)) (cap - (f + 1)) ((l.take (t - 1)).drop (f + 1)) := ⟨hsl, by omega, by omega, by
    have hc := h.cells.at_
    intro j u hj
    rw [List.getElem?_map, List.getElem?_drop, List.getElem?_take] at hj
    split at hj
    · obtain ⟨b', off', he, hcl⟩ := hc (f + 1 + j) u (by rw [List.getElem?_map]; exact hj)
      cases he
      exact ⟨b, off + (f + 1), rfl, by rw [Nat.add_assoc]; exact hcl⟩
    · simp at hj⟩
  have HA := Lib.hid (fun W (hW : Below (w.alloc (.cells #[.int .i64 (k : Nat), .int .i64 (f : Nat), .int .i64 (t : Nat)] 32)).heap.size (w.alloc (.cells #[.int .i64 (k : Nat), .int .i64 (f : Nat), .int .i64 (t : Nat)] 32)) W) => allPubid ((RR.below hb0).below hW))
  have HB := Lib.hid hb0
  unfold pubP at hv
  simp only at hv
  rw [hsl] at HA
  rw [hv] at HA
  rw [← hF, ← hT] at HA
  unfold maxLen at hmax
  have hFT : F ≤ T := by omega
  have hTn : T ≤ n := by omega
  have hTc : T ≤ cap := by omega
  have hcf : ¬ cap = F := by omega
  have q1 : decide (T < F) = false := decide_eq_false (by omega)
  have q2 : decide (cap < T) = false := decide_eq_false (by omega)
  have D0 := Lib.hid (show (w.alloc (.cells #[.int .i64 (k : Nat), .int .i64 (f : Nat), .int .i64 (t : Nat)] 32)).cell? ⟨rp, 0, none⟩ = some (.slice (some ⟨b, off, none⟩) n cap) by rw [(bcell hb0).1 _ _ hlt]; exact c0)
  have D1 := Lib.hid (show (w.alloc (.cells #[.int .i64 (k : Nat), .int .i64 (f : Nat), .int .i64 (t : Nat)] 32)).cell? ⟨w.heap.size, 1, none⟩ = some (.int .i64 (f : Nat)) by simp [go_sem])
  have D2 := Lib.hid (show (w.alloc (.cells #[.int .i64 (k : Nat), .int .i64 (f : Nat), .int .i64 (t : Nat)] 32)).cell? ⟨w.heap.size, 2, none⟩ = some (.int .i64 (t : Nat)) by simp [go_sem])
  clear RR hb0 h hsl hv hF hT hft htn
  go_enter Try.func73, Try.ntmps73
  go_wp2
  generalize hW1 : w.alloc (.cells #[.int .i64 (k : Nat), .int .i64 (f : Nat), .int .i64 (t : Nat)] 32) = W1 at *
  generalize hpp : w.heap.size = pp at *
  have d0 := D0.out
  have d1 := D1.out
  have d2 := D2.out
  have HD := Lib.hid ((Below.refl W1.heap.size W1).drew)
  clear D0 D1 D2 hW1 hlt hne
  go_still_tail 11, (by kernel_rfl)
  change wpList _ _ _ _ _ W1.drew
  have hd := HD.out
  generalize W1.drew = w2 at hd ⊢
  have HD2 := Lib.hid hd
  clear hd d0 d1 d2
  go_wp2_with (go_at_call 88; (with_reducible refine (HA.out _ HD2.out).mono ?_); rintro e w1 ⟨rfl, hb1⟩)
  go_ret
  subst hpp
  exact ⟨rfl, HB.out.trans ((HD2.out.trans (hb1.mono HD2.out.size)).mono HB.out.size)⟩

end Go.Proofs.Ytpjcheelafegbaa
