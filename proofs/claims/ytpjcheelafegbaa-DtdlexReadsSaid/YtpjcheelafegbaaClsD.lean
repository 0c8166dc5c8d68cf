/-
  Contracts of layer 4: a rune looked for in the constant of marks; Pubid, and the reference's.
-/
import Derived.Test.YtpjcheelafegbaaShelf
import Derived.Test.YtpjcheelafegbaaClsC
import Derived.Lib.IndexLaws
import Derived.Laws.Runes
import Derived.Deep.QuietTactic
import Derived.BigQuiet
import Derived.Lib.OthersKept
import Derived.Lib.RuneCount
import Derived.WalkSmall
import Derived.LoopTactic
namespace Go.Proofs.Ytpjcheelafegbaa
open Go.RowKit

/-- The marks. -/
def marks : ByteArray := ⟨#[45, 39, 40, 41, 43, 44, 46, 47, 58, 61, 63, 59, 33, 42, 35, 64, 36, 95, 37]⟩

theorem encode_two (r : Int) (h : 128 ≤ r) (h1 : r < 2048) : ∃ a b : UInt8, Utf8.encode r = ⟨#[a, b]⟩ ∧ 128 ≤ b.toNat := by
  have hv : Utf8.valid r = true := by rw [validRune_eq]; simp [validRune]; omega
  have hc : ¬ r.toNat < 128 := by omega
  have hc2 : r.toNat < 2048 := by omega
  unfold Utf8.encode
  simp only [hv, if_true, hc, if_false, hc2]
  exact ⟨_, _, rfl, by simp; omega⟩
theorem encode_three (r : Int) (hv : Utf8.valid r = true) (h : 2048 ≤ r) (h1 : r < 65536) : ∃ a b c : UInt8, Utf8.encode r = ⟨#[a, b, c]⟩ ∧ 128 ≤ c.toNat := by
  have hc : ¬ r.toNat < 128 := by omega
  have hc2 : ¬ r.toNat < 2048 := by omega
  have hc3 : r.toNat < 65536 := by omega
  unfold Utf8.encode
  simp only [hv, if_true, hc, if_false, hc2, hc3]
  exact ⟨_, _, _, rfl, by simp; omega⟩
theorem encode_four (r : Int) (hv : Utf8.valid r = true) (h : 65536 ≤ r) : ∃ a b c d : UInt8, Utf8.encode r = ⟨#[a, b, c, d]⟩ ∧ 128 ≤ d.toNat := by
  have hc : ¬ r.toNat < 128 := by omega
  have hc2 : ¬ r.toNat < 2048 := by omega
  have hc3 : ¬ r.toNat < 65536 := by omega
  unfold Utf8.encode
  simp only [hv, if_true, hc, if_false, hc2, hc3]
  exact ⟨_, _, _, _, rfl, by simp; omega⟩

theorem validRune_eq' (r : Int) : Utf8.valid r = Lib.validRune r := by
  rw [validRune_eq]; rfl

theorem indexByte_ascii (c : UInt8) (hc : 128 ≤ c.toNat) : ∀ l : List UInt8, (∀ b ∈ l, b.toNat < 128) → Lib.indexByte l c = -1 := by
  intro l
  induction l with
  | nil => intro _; rfl
  | cons b l ih =>
    intro h
    have hb := h b (by simp)
    have hne : (b == c) = false := by
      rw [beq_eq_false_iff_ne]; rintro rfl; omega
    simp [Lib.indexByte, hne, ih fun x hx => h x (by simp [hx])]

theorem index_tail (s : ByteArray) (c : UInt8) (hc : 128 ≤ c.toNat) (hs : ∀ b ∈ s.data.toList, b.toNat < 128) (w : World) :
    Calls Try.prog 105 #[.string s, .int .u8 (c.toNat : Int)] w fun e w' => e = .returned (.int .i64 (-1)) ∧ w' = w := by
  have := Try.strings_IndexByte s (c.toNat : Int) w
  have e : (c.toNat : Int).toNat.toUInt8 = c := by rw [Int.toNat_natCast]; exact UInt8.ofNat_toNat
  rw [e, indexByte_ascii c hc _ hs] at this
  exact this

set_option maxRecDepth 100000 in
set_option maxHeartbeats 1000000 in
theorem indexRune_two (r : Int) (w : World) (h : 128 ≤ r) (h1 : r < 2048) :
    Calls Try.prog 102 #[.string marks, .int .i32 r] w fun e w' => e = .returned (.int .i64 (-1)) ∧ Below w.heap.size w w' := by
  obtain ⟨a, b, he, hb⟩ := encode_two r h h1
  have hv : Lib.validRune r = true := by simp [Lib.validRune]; omega
  have e1 : (r == 65533) = false := by simp; omega
  have b1 : (((((⟨#[45, 39, 40, 41, 43, 44, 46, 47, 58, 61, 63, 59, 33, 42, 35, 64, 36, 95, 37]⟩ : ByteArray)[1]'(by decide)).toNat : Int) != (((⟨#[a, b]⟩ : ByteArray)[1]'(by show 1 < 2; omega)).toNat : Int))) = true := by
    show ((39 : Int) != (b.toNat : Int)) = true
    simp; omega
  have HB := Lib.hid (show ∀ (w : World) (n m : Nat), Calls Try.prog 105 #[.string (marks.extract 2 19), .int .u8 (((⟨#[a, b]⟩ : ByteArray)[1]'(by show 1 < 2; omega)).toNat : Int)] (w.drewN (n + m)) fun e w' => e = .returned (.int .i64 (-1)) ∧ ∃ m, w' = w.drewN (n + m) from fun w n m => quiet_add_same (index_tail (marks.extract 2 19) _ hb (by decide +kernel) _))
  have h2 : ¬ r < 128 := by omega
  have HV := Lib.hid hb
  clear hb
  unfold marks
  go_enter Try.func102, Try.ntmps102
  go_wp2_with (go_at_call 106; refine (Try.utf8_ValidRune _ _).mono ?_; rintro e w' ⟨rfl, rfl⟩)
  go_step3
  go_wp2
  refine wp_loop_rounds 1 ?_
  rw [rounds_succ]
  go_wp2
  go_step3
  go_wp2
  go_quiet (fail)
  go_wp2
  go_quiet ((go_at_call 105; exact HB.out _ _ _))
  go_wp2
  simp only [Exit.noGoto_ret, Exit.inBlock, Exit.then, Exit.noGoto]
  go_ret
  exact ⟨rfl, bel_drewN (Below.refl _ _) _⟩

set_option maxRecDepth 100000 in
set_option maxHeartbeats 1000000 in
theorem indexRune_three (r : Int) (w : World) (hu : Utf8.valid r = true) (h : 2048 ≤ r) (h1 : r < 65536) (h5 : r ≠ 65533) :
    Calls Try.prog 102 #[.string marks, .int .i32 r] w fun e w' => e = .returned (.int .i64 (-1)) ∧ Below w.heap.size w w' := by
  obtain ⟨a, b, c, he, hb⟩ := encode_three r hu h h1
  have hv : Lib.validRune r = true := by rw [← validRune_eq']; exact hu
  have e1 : (r == 65533) = false := by simp; omega
  have b1 : (((((⟨#[45, 39, 40, 41, 43, 44, 46, 47, 58, 61, 63, 59, 33, 42, 35, 64, 36, 95, 37]⟩ : ByteArray)[2]'(by decide)).toNat : Int) != (((⟨#[a, b, c]⟩ : ByteArray)[2]'(by show 2 < 3; omega)).toNat : Int))) = true := by
    show ((40 : Int) != (c.toNat : Int)) = true
    simp; omega
  have HB := Lib.hid (show ∀ (w : World) (n m : Nat), Calls Try.prog 105 #[.string (marks.extract 3 19), .int .u8 (((⟨#[a, b, c]⟩ : ByteArray)[2]'(by show 2 < 3; omega)).toNat : Int)] (w.drewN (n + m)) fun e w' => e = .returned (.int .i64 (-1)) ∧ ∃ m, w' = w.drewN (n + m) from fun w n m => quiet_add_same (index_tail (marks.extract 3 19) _ hb (by decide +kernel) _))
  have h2 : ¬ r < 128 := by omega
  have HV := Lib.hid hb
  clear hb
  unfold marks
  go_enter Try.func102, Try.ntmps102
  go_wp2_with (go_at_call 106; refine (Try.utf8_ValidRune _ _).mono ?_; rintro e w' ⟨rfl, rfl⟩)
  go_step3
  go_wp2
  refine wp_loop_rounds 1 ?_
  rw [rounds_succ]
  go_wp2
  go_step3
  go_wp2
  go_quiet (fail)
  go_wp2
  go_quiet ((go_at_call 105; exact HB.out _ _ _))
  go_wp2
  simp only [Exit.noGoto_ret, Exit.inBlock, Exit.then, Exit.noGoto]
  go_ret
  exact ⟨rfl, bel_drewN (Below.refl _ _) _⟩

set_option maxRecDepth 100000 in
set_option maxHeartbeats 1000000 in
theorem indexRune_four (r : Int) (w : World) (hu : Utf8.valid r = true) (h : 65536 ≤ r) :
    Calls Try.prog 102 #[.string marks, .int .i32 r] w fun e w' => e = .returned (.int .i64 (-1)) ∧ Below w.heap.size w w' := by
  obtain ⟨a, b, c, d, he, hb⟩ := encode_four r hu h
  have hv : Lib.validRune r = true := by rw [← validRune_eq']; exact hu
  have e1 : (r == 65533) = false := by simp; omega
  have b1 : (((((⟨#[45, 39, 40, 41, 43, 44, 46, 47, 58, 61, 63, 59, 33, 42, 35, 64, 36, 95, 37]⟩ : ByteArray)[3]'(by decide)).toNat : Int) != (((⟨#[a, b, c, d]⟩ : ByteArray)[3]'(by show 3 < 4; omega)).toNat : Int))) = true := by
    show ((41 : Int) != (d.toNat : Int)) = true
    simp; omega
  have HB := Lib.hid (show ∀ (w : World) (n m : Nat), Calls Try.prog 105 #[.string (marks.extract 4 19), .int .u8 (((⟨#[a, b, c, d]⟩ : ByteArray)[3]'(by show 3 < 4; omega)).toNat : Int)] (w.drewN (n + m)) fun e w' => e = .returned (.int .i64 (-1)) ∧ ∃ m, w' = w.drewN (n + m) from fun w n m => quiet_add_same (index_tail (marks.extract 4 19) _ hb (by decide +kernel) _))
  have h2 : ¬ r < 128 := by omega
  have HV := Lib.hid hb
  clear hb
  unfold marks
  go_enter Try.func102, Try.ntmps102
  go_wp2_with (go_at_call 106; refine (Try.utf8_ValidRune _ _).mono ?_; rintro e w' ⟨rfl, rfl⟩)
  go_step3
  go_wp2
  refine wp_loop_rounds 1 ?_
  rw [rounds_succ]
  go_wp2
  go_step3
  go_wp2
  go_quiet (fail)
  go_wp2
  go_quiet ((go_at_call 105; exact HB.out _ _ _))
  go_wp2
  simp only [Exit.noGoto_ret, Exit.inBlock, Exit.then, Exit.noGoto]
  go_ret
  exact ⟨rfl, bel_drewN (Below.refl _ _) _⟩

set_option maxRecDepth 100000 in
set_option maxHeartbeats 1000000 in
theorem indexRune_no (r : Int) (w : World) (hu : Lib.validRune r = false) :
    Calls Try.prog 102 #[.string marks, .int .i32 r] w fun e w' => e = .returned (.int .i64 (-1)) ∧ Below w.heap.size w w' := by
  have e1 : (r == 65533) = false := by
    cases h : (r == 65533)
    · rfl
    · simp at h; subst h; simp [Lib.validRune] at hu
  have h0 : r < 0 ∨ 128 ≤ r := by
    by_cases h : 0 ≤ r ∧ r < 128
    · exfalso; simp [Lib.validRune] at hu; omega
    · omega
  unfold marks
  rcases h0 with h0 | h0
  · have h1 : ¬ 0 ≤ r := by omega
    clear h0
    go_enter Try.func102, Try.ntmps102
    go_wp2_with (go_at_call 106; refine (Try.utf8_ValidRune _ _).mono ?_; rintro e w' ⟨rfl, rfl⟩)
    go_ret
    exact ⟨rfl, Below.refl _ _⟩
  · have h1 : 0 ≤ r := by omega
    have h2 : ¬ r < 128 := by omega
    clear h0
    go_enter Try.func102, Try.ntmps102
    go_wp2_with (go_at_call 106; refine (Try.utf8_ValidRune _ _).mono ?_; rintro e w' ⟨rfl, rfl⟩)
    go_ret
    exact ⟨rfl, Below.refl _ _⟩

/-- The marks' runes, place by place. -/
theorem marks_decode : ∀ p, p < 19 → (Utf8.decode marks p).2 = 1 ∧ (Utf8.decode marks p).1 < 128 := by
  have h : ∀ p : Fin 19, (Utf8.decode marks p.1).2 = 1 ∧ (Utf8.decode marks p.1).1 < 128 := by decide +kernel
  exact fun p hp => h ⟨p, hp⟩

set_option maxRecDepth 100000 in
set_option maxHeartbeats 1000000 in
theorem indexRune_error (w : World) :
    Calls Try.prog 102 #[.string marks, .int .i32 65533] w fun e w' => e = .returned (.int .i64 (-1)) ∧ Below w.heap.size w w' := by
  obtain ⟨s, hs⟩ : ∃ s, s = marks := ⟨_, rfl⟩
  have hsz : s.size = 19 := by rw [hs]; rfl
  have hd : ∀ p, p < 19 → (Utf8.decode s p).2 = 1 ∧ (Utf8.decode s p).1 < 128 := by rw [hs]; exact marks_decode
  rw [← hs]
  have HSZ := Lib.hid hsz
  have HD := Lib.hid hd
  clear hs hsz hd
  go_enter Try.func102, Try.ntmps102
  go_wp2
  go_loopw [] (fun wr => ∃ pos : Nat, pos ≤ 19 ∧ wr.heap[w.heap.size]? = some (.stringIter s pos) ∧ Below w.heap.size w wr) (fun wr => 19 - wr.iterPos w.heap.size)
  case atStart => exact ⟨0, by omega, World.iter_heap w s 0, (Below.refl _ _).alloc (Nat.le_refl _) _⟩
  case round =>
    obtain ⟨pos, hp, hit, hbl⟩ := hrel
    have hsz : w.heap.size < wr.heap.size := (Array.getElem?_eq_some_iff.1 hit).1
    by_cases hlt : pos < 19
    · have hps : pos < s.size := by rw [HSZ.out]; exact hlt
      have hnx : ∀ ty, (Instr.next (.pointer (some ⟨w.heap.size, 0, none⟩)) true ty).run Try.prog wr = _ := fun ty => Lib.run_next_any_at wr w.heap.size s pos ty hit hps
      have hdd := HD.out pos hlt
      have HI2 := Lib.hid (Lib.iterAt_heap wr w.heap.size s pos (pos + (Utf8.decode s pos).2) hit)
      have HBL := Lib.hid (Lib.below_iterAt hbl (k := w.heap.size) (Nat.le_refl _) s (pos + (Utf8.decode s pos).2))
      have HP := Lib.hid (iterPos_of hit)
      have H1 := Lib.hid hdd.1
      have h128 : ((Utf8.decode s pos).1 : Int) < 128 := by have := hdd.2; omega
      have hne : (((Utf8.decode s pos).1 : Int) == 65533) = false := by simp; omega
      clear hdd hit hbl
      obtain ⟨wi, hwi⟩ : ∃ wi, wi = wr.iterAt w.heap.size s (pos + (Utf8.decode s pos).2) := ⟨_, rfl⟩
      rw [← hwi] at hnx HI2 HBL
      clear hwi
      go_wp2
      go_roundw
      case rel => exact ⟨pos + (Utf8.decode s pos).2, by have := H1.out; omega, HI2.out, HBL.out⟩
      case measure => rw [HP.out, iterPos_of HI2.out]; have := H1.out; omega
    · have hps : ¬ pos < s.size := by rw [HSZ.out]; exact hlt
      have hnx : ∀ ty, (Instr.next (.pointer (some ⟨w.heap.size, 0, none⟩)) true ty).run Try.prog wr = _ := fun ty => Lib.run_next_end_at wr w.heap.size s pos ty hit hps
      go_wp2
      go_ret
      exact ⟨rfl, hbl⟩

/-- Is a rune one of the marks? -/
def markB (r : Int) : Bool := [45, 39, 40, 41, 43, 44, 46, 47, 58, 61, 63, 59, 33, 42, 35, 64, 36, 95, 37].any fun c => decide (c = r)

theorem markB_ascii : ∀ r : Int, 0 ≤ r → r < 128 → decide (0 ≤ Lib.indexByte marks.data.toList r.toNat.toUInt8) = markB r := by
  have h : ∀ r : Fin 128, decide (0 ≤ Lib.indexByte marks.data.toList r.1.toUInt8) = markB (r.1 : Int) := by decide +kernel
  intro r h0 h1
  have := h ⟨r.toNat, by omega⟩
  simpa [Int.toNat_of_nonneg h0] using this

theorem markB_else (r : Int) (h : r < 0 ∨ 128 ≤ r) : markB r = false := by
  unfold markB
  rw [List.any_eq_false]
  intro x hx
  simp only [List.mem_cons, List.not_mem_nil, or_false] at hx
  simp; omega

theorem indexRune_else (r : Int) (w : World) (h : r < 0 ∨ 128 ≤ r) :
    Calls Try.prog 102 #[.string marks, .int .i32 r] w fun e w' => e = .returned (.int .i64 (-1)) ∧ Below w.heap.size w w' := by
  by_cases h5 : r = 65533
  · subst h5; exact indexRune_error w
  · cases hu : Lib.validRune r with
    | false => exact indexRune_no r w hu
    | true =>
      have hu' : Utf8.valid r = true := by rw [validRune_eq']; exact hu
      simp [Lib.validRune] at hu
      by_cases h2 : r < 2048
      · exact indexRune_two r w (by omega) h2
      · by_cases h3 : r < 65536
        · exact indexRune_three r w hu' (by omega) h3 h5
        · exact indexRune_four r w hu' (by omega)

set_option maxHeartbeats 400000 in
theorem contains_any (r : Int) (w : World) :
    Calls Try.prog 98 #[.string marks, .int .i32 r] w fun e w' => e = .returned (.bool (markB r)) ∧ Below w.heap.size w w' := by
  by_cases h : 0 ≤ r ∧ r < 128
  · refine (Try.strings_ContainsRune_ascii marks r w h.1 h.2).mono ?_
    rintro e w' ⟨rfl, rfl⟩
    exact ⟨by rw [markB_ascii r h.1 h.2], Below.refl _ _⟩
  · have HF := Lib.hid (markB_else r (by omega))
    have HI := Lib.hid (fun w => indexRune_else r w (by omega))
    clear h
    go_enter Try.func98, Try.ntmps98
    go_wp2_with (go_at_call 102; refine (HI.out _).mono ?_; rintro e w1 ⟨rfl, hb⟩)
    go_ret
    exact ⟨by rw [HF.out]; rfl, hb⟩

end Go.Proofs.Ytpjcheelafegbaa
