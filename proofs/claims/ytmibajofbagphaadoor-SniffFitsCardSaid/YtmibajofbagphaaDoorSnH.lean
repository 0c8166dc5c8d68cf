/-
  Contracts of layer 3: At, String of a text.
-/
import Derived.Test.YtmibajofbagphaaDoorSnG
namespace Go.Proofs.YtmibajofbagphaaDoor
open Go.RowKit

/-- How many begin ahead of a place. -/
def ahead (os : List Int) (q : Nat) (x : Int) : Nat := (os.take q).countP (· < x)
theorem ahead_le (os : List Int) (q : Nat) (x : Int) : ahead os q x ≤ q := by
  unfold ahead
  exact Nat.le_trans List.countP_le_length (List.length_take_le _ _)

set_option maxRecDepth 100000 in
set_option maxHeartbeats 2000000 in
theorem at_any (kd bom : Int) (vr : Value) (ar ao : Option Addr) (q cr co n : Nat) (os : List Int) (x : Int) (w : World)
    (hvr : vr = .slice ar q cr) (hqb : q ≤ 1099511627776) (hco : q + 1 ≤ co) (hcm : co ≤ maxLen) (hR : Rises os q n bom) (ho : AtCells w ao (os.map (Value.int .i64))) :
    Calls Tryd.prog 21 #[.agg #[.int .i64 kd, .int .i64 bom, vr, .slice ao (q + 1) co], .int .i64 x] w fun e w' => e = .returned (.int .i64 (ahead os q x : Nat)) ∧ Below w.heap.size w w' := by
  have hl := hR.len
  obtain ⟨B, O, rfl, _⟩ := ho.int (k := 0) (by omega)
  have hcell : ∀ wx, Below w.heap.size w wx → ∀ j, j < os.length → wx.cell? ⟨B, O + j, none⟩ = some (.int .i64 (os.getD j 0)) := fun wx hx j hj => by
    obtain ⟨_, _, he, hcc⟩ := (ho.below hx).int (k := j) hj
    simp only [Option.some.injEq, Addr.mk.injEq] at he
    obtain ⟨rfl, rfl, _⟩ := he
    exact hcc
  have hle := ahead_le os q x
  have HBS := Lib.hid (show ∀ wx, Below w.heap.size w wx → 0 < q → Calls Tryd.prog 36 #[.slice (some ⟨B, O, none⟩) q co, .int .i64 x] wx fun e w' => (∃ b, e = .returned (.tuple #[.int .i64 (ahead os q x : Nat), .bool b])) ∧ Below wx.heap.size wx w' from fun wx hx _ => by
    refine (Tryd.slices_BinarySearch_int B O q co os x wx (by omega) (by omega) (hcell wx hx) hR.sorted).mono ?_
    rintro e w' ⟨rfl, k, rfl⟩
    exact ⟨⟨_, rfl⟩, bdr (Below.refl _ _) k⟩)
  have HB0 := Lib.hid (show q = 0 → ∀ wx (ax : Option Addr) (cx : Nat), Calls Tryd.prog 36 #[.slice ax 0 cx, .int .i64 x] wx fun e w' => e = .returned (.tuple #[.int .i64 0, .bool false]) ∧ w' = wx from fun _ wx ax cx => Tryd.slices_BinarySearch_int_empty ax cx x wx)
  have HZ := Lib.hid (show q = 0 → ahead os q x = 0 from fun h => by omega)
  obtain ⟨k, hk⟩ : ∃ k, k = ahead os q x := ⟨_, rfl⟩
  rw [← hk] at hle HBS HZ ⊢
  subst hvr
  unfold maxLen at hcm
  clear hcell hR ho hl hk
  have hmin : min ((q : Int) + 1) (q : Int) = (q : Int) := by omega
  have hqc : (q : Int) ≤ (co : Int) := by omega
  have hqc' : q ≤ co := by omega
  have hco0 : ¬ co = 0 := by omega
  have hb0 : Below w.heap.size w (w.alloc (.cells #[.int .i64 kd, .int .i64 bom, .slice ar q cr, .slice (some ⟨B, O, none⟩) (q + 1) co] 27)) := (Below.refl _ _).alloc (Nat.le_refl _) _
  have HBB := Lib.hid hb0
  by_cases hq : 0 < q
  · have HCALL := Lib.hid (fun wx hx => HBS.out wx hx hq)
    clear HB0 HZ HBS hb0
    go_enter Tryd.func21, Tryd.ntmps21
    go_wp2_with fail
    refine (HCALL.out _ HBB.out).mono ?_
    rintro e w1 ⟨⟨bb, rfl⟩, hb1⟩
    have HB1 := Lib.hid (HBB.out.trans (hb1.mono (by simp)))
    have p2 := (hb1.cell (p := ⟨w.heap.size, 2, none⟩) (by simp)).trans (show _ = some (.slice ar q cr) by simp)
    clear hb1
    by_cases hkq : k = q
    · subst hkq
      go_wp2
      go_ret
      exact ⟨rfl, HB1.out⟩
    · have e1 : ((k : Int) == (q : Int)) = false := by simp; omega
      have HK := Lib.hid hkq
      clear hkq
      go_wp2
      go_ret
      exact ⟨rfl, HB1.out⟩
  · obtain rfl : q = 0 := by omega
    have hk0 := HZ.out rfl
    subst hk0
    have HCALL := Lib.hid (HB0.out rfl)
    clear HB0 HZ HBS hb0 hmin
    go_enter Tryd.func21, Tryd.ntmps21
    go_wp2_with fail
    refine (HCALL.out _ _ _).mono ?_
    rintro e w1 ⟨rfl, rfl⟩
    go_wp2
    go_ret
    exact ⟨rfl, HBB.out⟩

set_option maxRecDepth 100000 in
set_option maxHeartbeats 2000000 in
theorem string_yes (kd bom : Int) (vo : Value) (ar : Option Addr) (q cr : Nat) (rs : List Int) (f t : Nat) (w : World)
    (hvo : ∃ ao no co, vo = .slice ao no co) (hqb : q ≤ 1099511627776) (hqc : q ≤ cr) (hcm : cr ≤ maxLen) (hrl : rs.length = q) (hz : Runes rs) (hf : f ≤ t) (ht : t ≤ q) (hr : AtCells w ar (rs.map (Value.int .i32))) :
    Calls Tryd.prog 23 #[.agg #[.int .i64 kd, .int .i64 bom, .slice ar q cr, vo], .int .i64 (f : Int), .int .i64 (t : Int)] w
      fun e w' => e = .returned (.string (strOfNums (U8.encs ((rs.drop f).take (t - f))))) ∧ Below w.heap.size w w' := by
  have HHAS := Lib.hid (fun wx => has_yes kd bom (.slice ar q cr) vo ar q cr f t wx rfl (by omega) (by omega) (by omega) hvo)
  obtain ⟨ao, no, co, rfl⟩ := hvo
  have hln : ((rs.drop f).take (t - f)).length = t - f := by simp; omega
  have hzz : Runes ((rs.drop f).take (t - f)) := fun z h => hz z (List.mem_of_mem_drop (List.mem_of_mem_take h))
  have HB := Lib.hid (show ∀ wx a', Below w.heap.size w wx → (a' = (if cr = f then ar else Option.map (fun x => x.add f) ar)) → Calls Tryd.prog 31 #[.slice a' (t - f) (cr - f)] wx (OwnBytes wx (U8.encs ((rs.drop f).take (t - f)))) from fun wx a' hx ha => by
    subst ha
    refine bytes_any _ (t - f) (cr - f) _ wx hln (by omega) ?_ hzz
    have := (at_sliced (kd := .i32) (hr.below hx) f cr (by omega)).take (t - f)
    rw [List.map_take]
    exact this)
  unfold maxLen at hcm
  obtain ⟨xs, hxs⟩ : ∃ xs, xs = U8.encs ((rs.drop f).take (t - f)) := ⟨_, rfl⟩
  rw [← hxs] at HB ⊢
  have hb0 : Below w.heap.size w (w.alloc (.cells #[.int .i64 kd, .int .i64 bom, .slice ar q cr, .slice ao no co] 27)) := (Below.refl _ _).alloc (Nat.le_refl _) _
  have HBB := Lib.hid hb0
  obtain ⟨S, hS⟩ : ∃ S, S = strOfNums xs := ⟨_, rfl⟩
  rw [← hS]
  have HS := Lib.hid hS
  clear hln hzz hr hz hrl hb0 hxs hS
  by_cases hcf : cr = f
  · have HB' := Lib.hid (show ∀ wx, Below w.heap.size w wx → Calls Tryd.prog 31 #[.slice ar (t - f) (cr - f)] wx (OwnBytes wx xs) from fun wx hx => HB.out wx ar hx (by rw [if_pos hcf]))
    obtain rfl : t = f := by omega
    obtain rfl : q = t := by omega
    subst hcf
    rw [Nat.sub_self] at HB'
    clear HB
    go_enter Tryd.func23, Tryd.ntmps23
    go_wp2_with fail
    refine (HHAS.out _).mono ?_
    rintro e w1 ⟨rfl, hb1⟩
    have HB1 := Lib.hid (HBB.out.trans (hb1.mono (by simp)))
    have p2 := (hb1.cell (p := ⟨w.heap.size, 2, none⟩) (by simp)).trans (show _ = some (.slice ar cr cr) by simp)
    clear hb1
    go_wp2_with fail
    refine (HB'.out _ HB1.out).mono ?_
    rintro e w2 ⟨v, rfl, hown, hb2⟩
    obtain ⟨av, cv, rfl, _⟩ := owns_slice hown
    have hcv := run_str (P := Tryd.prog) w2 _ _ _ Tryd.underlying22 Tryd.underlying5 Tryd.underlying9 av _ cv _ rfl (AtCells.of_owns hown)
    have HF := Lib.hid (HB1.out.trans (hb2.mono HB1.out.size))
    rw [← HS.out] at hcv
    clear hown hb2 p2
    go_wp2
    go_ret
    exact ⟨rfl, HF.out⟩
  · have HB' := Lib.hid (show ∀ wx, Below w.heap.size w wx → Calls Tryd.prog 31 #[.slice (Option.map (fun x => x.add f) ar) (t - f) (cr - f)] wx (OwnBytes wx xs) from fun wx hx => HB.out wx _ hx (by rw [if_neg hcf]))
    clear HB
    have htc : (t : Int) ≤ (cr : Int) := by omega
    go_enter Tryd.func23, Tryd.ntmps23
    go_wp2_with fail
    refine (HHAS.out _).mono ?_
    rintro e w1 ⟨rfl, hb1⟩
    have HB1 := Lib.hid (HBB.out.trans (hb1.mono (by simp)))
    have p2 := (hb1.cell (p := ⟨w.heap.size, 2, none⟩) (by simp)).trans (show _ = some (.slice ar q cr) by simp)
    clear hb1
    go_wp2_with fail
    refine (HB'.out _ HB1.out).mono ?_
    rintro e w2 ⟨v, rfl, hown, hb2⟩
    obtain ⟨av, cv, rfl, _⟩ := owns_slice hown
    have hcv := run_str (P := Tryd.prog) w2 _ _ _ Tryd.underlying22 Tryd.underlying5 Tryd.underlying9 av _ cv _ rfl (AtCells.of_owns hown)
    have HF := Lib.hid (HB1.out.trans (hb2.mono HB1.out.size))
    rw [← HS.out] at hcv
    clear hown hb2 p2
    go_wp2
    go_ret
    exact ⟨rfl, HF.out⟩

set_option maxRecDepth 100000 in
set_option maxHeartbeats 1000000 in
theorem string_no (kd bom : Int) (vo : Value) (ar : Option Addr) (q cr : Nat) (f t : Int) (w : World) (hvo : ∃ ao no co, vo = .slice ao no co) (h : f < 0 ∨ t < f ∨ (q : Int) < t) :
    Calls Tryd.prog 23 #[.agg #[.int .i64 kd, .int .i64 bom, .slice ar q cr, vo], .int .i64 f, .int .i64 t] w
      fun e w' => e = .returned (.string ⟨#[]⟩) ∧ Below w.heap.size w w' := by
  have HHAS := Lib.hid (fun wx => has_no kd bom (.slice ar q cr) vo ar q cr f t wx rfl h hvo)
  obtain ⟨ao, no, co, rfl⟩ := hvo
  have hb0 : Below w.heap.size w (w.alloc (.cells #[.int .i64 kd, .int .i64 bom, .slice ar q cr, .slice ao no co] 27)) := (Below.refl _ _).alloc (Nat.le_refl _) _
  clear h
  go_enter Tryd.func23, Tryd.ntmps23
  go_wp2_with fail
  refine (HHAS.out _).mono ?_
  rintro e w1 ⟨rfl, hb1⟩
  have HB1 := Lib.hid (hb0.trans (hb1.mono (by simp)))
  clear hb1
  go_wp2
  go_ret
  exact ⟨rfl, HB1.out⟩

end Go.Proofs.YtmibajofbagphaaDoor
