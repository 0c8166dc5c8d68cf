/-
  refs: the piece that is a reference to an entity.
-/
import Derived.Test.YtbljgoieieoamaaRfC
import Derived.Deep.RegionWith
namespace Go.Proofs.Ytbljgoieieoamaa
open Go.RowKit
set_option linter.unusedVariables false

set_option maxRecDepth 20000 in
set_option maxHeartbeats 2000000 in
theorem piece_ref {b off n cap : Nat} {l : List Int} {w : World}
    (R : RRow w b off n cap l) (hn : n ≤ 1000) (k : Nat) (hk : k < n) (hq : runP ampB (l.drop k) = 0) (m : Nat) (wh : Bool) (ht : tokP (l.drop k) = (2, m, wh)) (hm : k + m ≤ n) (hm3 : 3 ≤ m) (hwf : Runes l) :
    Says 39 #[.slice (some ⟨b, off, none⟩) n cap, .int .i64 k] (pcV 3 k ((k : Int) + m) 0 (strOfNums (U8.encs (((l.drop k).take (m - 1)).drop 1)))) w w := by
  have R0 := R.below (one_ok w pcB)
  have HM := Lib.hid (runampB R0 k (by omega) hq)
  have HN := Lib.hid (nextB R0 k hk ht)
  have hle := R.le
  have hck : ¬ cap = k := by omega
  have hkm : (k : Int) ≤ (k : Int) + (m : Int) := by omega
  have hkc : (k : Int) + (m : Int) ≤ (cap : Int) := by omega
  have HSZ := Lib.hid (one_ok w pcB)
  have hb : Below (w.alloc pcB).heap.size (w.alloc pcB) (w.alloc pcB) := Below.refl _ _
  obtain ⟨D, hD⟩ : ∃ D, D = ((l.drop k).take (m - 1)).drop 1 := ⟨_, rfl⟩
  have HWI := Lib.hid (fun (W : World) (y : Nat) (hy : y = m) => show Calls Try.prog 45 #[.slice (some ⟨b, off + k, none⟩) y (cap - k), .string ⟨#[38]⟩] W fun e w' => e = .returned (.slice (some ⟨b, off + k + 1, none⟩) (m - 1 - 1) (cap - k - 1)) ∧ w' = W from by
    subst hy
    exact within_any b (off + k) y (cap - k) 1 ⟨#[38]⟩ rfl (by omega) (by omega) (by have := R.max; omega) W)
  have HBY := Lib.hid (fun (W : World) (hb : Below w.heap.size w W) => bytes_any (some ⟨b, off + k + 1, none⟩) (m - 1 - 1) (cap - k - 1) D W (by rw [hD, List.length_drop, List.length_take, List.length_drop, R.len]; omega) (by omega) (by
    rw [hD, List.map_drop, List.map_take, List.map_drop]
    exact (((R.cells.below hb).drop k).take (m - 1)).drop 1) (fun z hz => hwf z (by rw [hD] at hz; exact List.mem_of_mem_drop (List.mem_of_mem_take (List.mem_of_mem_drop hz)))))
  rw [← hD]
  clear R R0 hq ht hwf hD
  go_enter Try.func39, Try.ntmps39
  go_wp2_with (first
    | (go_at_call 58; (with_reducible refine (HM.out _ hb).mono ?_); rintro e w1 ⟨rfl, hb1⟩)
    | (go_at_call 43; (with_reducible refine (HN.out _ hb1).mono ?_); rintro e w2 ⟨rfl, hb2⟩; have HBB := Lib.hid (fun o1 o2 => HSZ.out.trans ((Below.more hb2 (two_ok w2 o1 o2)).mono HSZ.out.size)); have hz2 : w.heap.size < w2.heap.size := (by have h := hb2.size; simp at h; omega); have hne1 : ¬ w.heap.size = w2.heap.size + 1 := (by omega); have hne2 : ¬ w2.heap.size + 1 = w.heap.size := (by omega); have HC := Lib.hid (fun o1 o2 => (((Box5.new w (.int .i64 0) (.int .i64 0) (.int .i64 0) (.int .i32 0) (.string ⟨#[]⟩) 51).below hb2).alloc o1).alloc o2); have HP := Lib.hid (fun o1 => Box5.at_ (w2.alloc o1) (w2.heap.size + 1) (by simp) (.int .i64 4) (.int .i64 k) (.int .i64 ((k : Int) + m)) (.int .i32 0) (.string ⟨#[]⟩) 51); clear hb1 hb2))
  have HC2 := HC.out (.cells #[.int .i64 2, .int .i64 k, .int .i64 ((k : Int) + m), .bool wh] 77) (.cells #[.int .i64 4, .int .i64 k, .int .i64 ((k : Int) + m), .int .i32 0, .string ⟨#[]⟩] 51)
  have HP2 := HP.out (.cells #[.int .i64 2, .int .i64 k, .int .i64 ((k : Int) + m), .bool wh] 77)
  have HBW := HBB.out (.cells #[.int .i64 2, .int .i64 k, .int .i64 ((k : Int) + m), .bool wh] 77) (.cells #[.int .i64 4, .int .i64 k, .int .i64 ((k : Int) + m), .int .i32 0, .string ⟨#[]⟩] 51)
  obtain ⟨W5, hW5⟩ : ∃ W5, W5 = (w2.alloc (.cells #[.int .i64 2, .int .i64 k, .int .i64 ((k : Int) + m), .bool wh] 77)).alloc (.cells #[.int .i64 4, .int .i64 k, .int .i64 ((k : Int) + m), .int .i32 0, .string ⟨#[]⟩] 51) := ⟨_, rfl⟩
  obtain ⟨P, hP⟩ : ∃ P, P = w2.heap.size + 1 := ⟨_, rfl⟩
  obtain ⟨G, hG⟩ : ∃ G, G = w2.heap.size := ⟨_, rfl⟩
  rw [← hW5] at HC2 HP2 HBW ⊢
  rw [← hP] at HP2 hne1 hne2 ⊢
  rw [← hG] at hz2 ⊢
  have hCP : w.heap.size < P := by omega
  have HC3 := Lib.hid HC2
  have HP3 := Lib.hid HP2
  have HB5 := Lib.hid HBW
  have HDR := Lib.hid HBW.drew
  clear hW5 hP hG HC2 HP2 HBW HC HP HBB HN HM HSZ hb
  go_region_held_law (fun W => True) (trivial) (first
    | (go_at_call 45; (with_reducible refine (HWI.out _ _ (by omega)).mono ?_); rintro e w' ⟨rfl, rfl⟩)
    | (go_at_call 60; (with_reducible refine (HBY.out _ HDR.out).mono ?_); rintro e w6 ⟨v6, rfl, own6, hb6⟩; obtain ⟨a6, c6, rfl, hc6⟩ := owns_slice own6; have hb7 := Below.more ((Below.refl _ W5).drew) hb6; obtain ⟨y0, y1, y2, y3, y4, fz⟩ := HC3.out.below hb7; have z0 := fz 0; have z1 := fz 1; have z2 := fz 2; have z3 := fz 3; have z4 := fz 4; obtain ⟨p0, p1, p2, p3, p4, pz⟩ := HP3.out.below hb7; have s0 := pz 0; have s4 := pz 4; have HB6 := Lib.hid (HB5.out.trans (hb7.mono HB5.out.size)); have hPl := HP3.out.lt; have r1 := run_strB (P := Try.prog) w6 22 5 9 Try.underlying22 Try.underlying5 Try.underlying9 a6 _ c6 (U8.encs D) rfl (AtCells.of_owns own6); have r2 := run_strB (P := Try.prog) (w6.setCell ⟨P, 0, none⟩ (.int .i64 3)) 22 5 9 Try.underlying22 Try.underlying5 Try.underlying9 a6 _ c6 (U8.encs D) rfl (AtCells.of_owns (ownsRow_setCell_below own6 (a := ⟨P, 0, none⟩) hPl _)); clear fz pz own6 hb6 hb7 hc6))
  all_goals
    go_wp2
    refine bodyPost_ret (v := pcV 3 k ((k : Int) + m) 0 (strOfNums (U8.encs D))) ?_ rfl ⟨rfl, ?_⟩
    · simp [results, Try.results39, go_sem, y0, y1, y2, y3, y4, p0, p1, p2, p3, p4, hne1, hne2, pcV]
    · exact ((((((HB6.out.setCell (p := ⟨P, 0, none⟩) (Nat.le_of_lt hCP) _).setCell (p := ⟨P, 4, none⟩) (Nat.le_of_lt hCP) _).setCell (by simp) _).setCell (by simp) _).setCell (by simp) _).setCell (by simp) _).setCell (by simp) _


end Go.Proofs.Ytbljgoieieoamaa
