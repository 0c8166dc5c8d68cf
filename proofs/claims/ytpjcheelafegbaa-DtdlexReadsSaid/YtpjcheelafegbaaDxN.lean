/-
  Contract of layer 9: end: the place of the ] that closes a subset.
-/
import Derived.Test.YtpjcheelafegbaaDxM
namespace Go.Proofs.Ytpjcheelafegbaa
open Go.RowKit
set_option linter.unusedVariables false

/-- How far it is to the ] that closes a subset; to the end, if there is none. -/
def sbF : Nat → List Int → Nat
  | 0, _ => 0
  | _ + 1, [] => 0
  | f + 1, r :: s => if r = 93 then 0 else if r = 60 then (match mtP (r :: s) with | some m => m + sbF f ((r :: s).drop m) | none => (r :: s).length) else 1 + sbF f s
def sbP (s : List Int) : Nat := sbF s.length s
theorem sbF_le : ∀ (f : Nat) (s : List Int), sbF f s ≤ s.length := by
  intro f
  induction f with
  | zero => intro s; simp [sbF]
  | succ f ih =>
    intro s
    cases s with
    | nil => simp [sbF]
    | cons r s =>
      rw [sbF]
      split
      · simp
      · split
        · split
          · rename_i m hm
            have h1 := mtP_le hm
            have h2 := ih ((r :: s).drop m)
            rw [dropl] at h2
            omega
          · exact Nat.le_refl _
        · have := ih s
          simp
          omega
theorem sbP_le (s : List Int) : sbP s ≤ s.length := sbF_le _ _
theorem sbF_nil (f : Nat) : sbF f [] = 0 := by cases f <;> rfl

theorem field_to (x y z : Int) (w : World) : (Instr.field 32 (.agg #[.int .i64 x, .int .i64 y, .int .i64 z]) 2).run Try.prog w = .ok (.int .i64 z) w := by kernel_rfl

/-- What a walk over a subset keeps: all but its block and what was made since. -/
structure Walks (A0 : Nat) (w wr : World) (p : Nat) (a : Option Addr) (n cap : Nat) (l : List Int) (j : Nat) (gv : Value) (G : List ByteArray) : Prop where
  sub : Sub A0 wr p a n cap l j gv G
  kept : Kept p w wr
  far : ∀ x, gv.ownBlock = some x → w.heap.size ≤ x
theorem Walks.step {A0 : Nat} {w wr w2 : World} {p : Nat} {a : Option Addr} {n cap : Nat} {l : List Int} {j j' : Nat} {gv gv' : Value} {G G' : List ByteArray} (h : Walks A0 w wr p a n cap l j gv G) (hs : Sub A0 w2 p a n cap l j' gv' G') (st : Step p gv gv' wr w2) : Walks A0 w w2 p a n cap l j' gv' G' := by
  have hz := h.kept.size
  refine ⟨hs, ⟨st.os.trans h.kept.os, st.tape.trans h.kept.tape, st.output.trans h.kept.output, Nat.le_trans hz st.size, fun k hk hp => ?_⟩, fun x hx => ?_⟩
  · rw [st.block k (by omega) hp (fun hc => by have := h.far k hc; omega), h.kept.block k hk hp]
  · rcases st.own with e | e
    · rw [e] at hx; exact h.far x hx
    · have := e x hx; omega

set_option maxRecDepth 20000 in
set_option maxHeartbeats 4000000 in
theorem end_any {A0 : Nat} {w : World} {p : Nat} {a : Option Addr} {n cap : Nat} {l : List Int} (h : Sub A0 w p a n cap l 0 (.slice none 0 0) []) (k : Nat) (hk : k ≤ n) (hn : n ≤ 1000) :
    Calls Try.prog 77 #[.pointer (some ⟨p, 0, none⟩), .int .i64 (k : Nat)] w fun e w' => e = .returned (.int .i64 ((k + sbP (l.drop k) : Nat))) ∧ Kept p w w' := by
  have hln := h.len
  have HLN := Lib.hid hln
  obtain ⟨res, hres⟩ : ∃ res, res = k + sbP (l.drop k) := ⟨_, rfl⟩
  have HALL := Lib.hid (show k + sbF (n - k) (l.drop k) = res by rw [hres]; unfold sbP; rw [dropl, hln])
  rw [← hres]
  have H0 := Lib.hid h
  clear h hln hres
  go_enter Try.func77, Try.ntmps77
  go_wp2
  go_loopw [1] (fun av wr => ∃ (j fu : Nat) (gv : Value) (G : List ByteArray), av = .int .i64 (j : Nat) ∧ j ≤ n ∧ n - j ≤ fu ∧ Hid (Walks A0 w wr p a n cap l j gv G) ∧ Hid (j + sbF fu (l.drop j) = res)) (fun av _ => n - (intOf av).toNat)
  case atStart => exact ⟨k, n - k, .slice none 0 0, [], rfl, hk, Nat.le_refl _, Lib.hid ⟨H0.out.on (Nat.zero_le _), Kept.refl _ _, fun x hx => by simp [Value.ownBlock] at hx⟩, HALL⟩
  case round =>
    clear HALL
    obtain ⟨j, fu, gv, G, rfl, hj, hfu, HW, HA⟩ := hrel
    have c0 := HW.out.sub.c0
    by_cases hlt : j < n
    · obtain ⟨fu, rfl⟩ : ∃ f', fu = f' + 1 := ⟨fu - 1, by omega⟩
      obtain ⟨b, off, rfl, RR⟩ := HW.out.sub.row.some (by omega)
      obtain ⟨b', off', hy, hcl⟩ := RR.cells.int (k := j) (by rw [RR.len]; exact hlt)
      simp only [Option.some.injEq, Addr.mk.injEq] at hy
      obtain ⟨rfl, rfl, _⟩ := hy
      obtain ⟨z, hz⟩ : ∃ z, l.getD j 0 = z := ⟨_, rfl⟩
      rw [hz] at hcl
      have hm := RR.max
      have hc := RR.le
      unfold maxLen at hm
      have i1 : (j : Int) < (n : Int) := by omega
      have HD := Lib.hid (show l.drop j = z :: l.drop (j + 1) by rw [drop_cons (by rw [HLN.out]; exact hlt), hz])
      have HMK := Lib.hid (markup_sub HW.out.sub j (Nat.le_refl _) hlt)
      clear RR hz
      by_cases h93 : z = 93
      · have HR := Lib.hid (show j = res by have := HA.out; rw [HD.out, sbF, if_pos h93] at this; exact this)
        subst h93
        go_wp2
        go_ret
        exact ⟨by rw [← HR.out]; rfl, HW.out.kept⟩
      by_cases h60 : z = 60
      · cases hm2 : mtP (l.drop j) with
        | some m =>
          have hml := mtP_le hm2
          rw [dropl, HLN.out] at hml
          have HT := Lib.hid (show mkT l j = (j : Int) + m by rw [mkT_eq, hm2])
          have HNX := Lib.hid (show (j + m) + sbF fu (l.drop (j + m)) = res by
            have := HA.out
            rw [HD.out, sbF, if_neg h93, if_pos h60, ← HD.out, hm2] at this
            simp only [dd] at this
            omega)
          rw [HT.out] at HMK
          subst h60
          clear hm2
          have hfd := field_to
          go_wp2_with (go_at_call 86; (with_reducible refine HMK.out.mono ?_); rintro e w2 ⟨gv', G', rfl, hsub, hst⟩; have HX := Lib.hid (HW.out.step hsub hst); clear hsub hst)
          clear hfd
          go_roundw
          case rel => exact ⟨j + m, fu, gv', G', by go_num, by omega, by omega, Lib.hid (by have := HX.out; exact ⟨this.sub.on (by omega), this.kept, this.far⟩), HNX⟩
          case measure => simp [intOf]; omega
        | none =>
          have HT := Lib.hid (show mkT l j = 0 by rw [mkT_eq, hm2])
          have HR := Lib.hid (show n = res by
            have := HA.out
            rw [HD.out, sbF, if_neg h93, if_pos h60, ← HD.out, hm2] at this
            simp only [dropl, HLN.out] at this
            omega)
          rw [HT.out] at HMK
          subst h60
          clear hm2
          have hfd := field_to
          go_wp2_with (go_at_call 86; (with_reducible refine HMK.out.mono ?_); rintro e w2 ⟨gv', G', rfl, hsub, hst⟩; have d0 := hsub.c0; have HX := Lib.hid (HW.out.step hsub hst); clear hsub hst)
          go_ret
          exact ⟨by rw [← HR.out]; rfl, HX.out.kept⟩
      · have HNX := Lib.hid (show (j + 1) + sbF fu (l.drop (j + 1)) = res by
          have := HA.out
          rw [HD.out, sbF, if_neg h93, if_neg h60] at this
          omega)
        have q1 : (z != 93) = true := by simpa using h93
        have q2 : (z != 60) = true := by simpa using h60
        go_wp2
        go_roundw
        case rel => exact ⟨j + 1, fu, gv, G, by go_num, by omega, by omega, Lib.hid (by have := HW.out; exact ⟨this.sub.on (by omega), this.kept, this.far⟩), HNX⟩
        case measure => simp [intOf]; omega
    · obtain rfl : j = n := by omega
      have HR := Lib.hid (show j = res by have := HA.out; rw [List.drop_eq_nil_of_le (by rw [HLN.out]; exact Nat.le_refl _), sbF_nil] at this; exact this)
      clear hlt
      go_wp2
      go_ret
      exact ⟨by rw [← HR.out]; rfl, HW.out.kept⟩

end Go.Proofs.Ytpjcheelafegbaa
