/-
  refs: the piece that begins at a rune.
-/
import Derived.Test.YtbljgoieieoamaaRfB
import Derived.Test.YtbljgoieieoamaaStrB
import Derived.Deep.RegionHeldLaw
import Derived.BigQuiet
namespace Go.Proofs.Ytbljgoieieoamaa
open Go.RowKit
set_option linter.unusedVariables false

/-- A piece's value; the block of a result that is one. -/
abbrev pcV (a b c : Int) (r : Int) (s : ByteArray) : Value := .agg #[.int .i64 a, .int .i64 b, .int .i64 c, .int .i32 r, .string s]
abbrev pcB : Obj := .cells #[.int .i64 0, .int .i64 0, .int .i64 0, .int .i32 0, .string ⟨#[]⟩] 51

def pieceP (L : List Int) : Nat × Nat × Int × List Int :=
  if 0 < runP ampB L then (1, runP ampB L, 0, [])
  else if (tokP L).1 = 3 then (match numV (L.take (tokP L).2.1) with | some r => (2, (tokP L).2.1, r, []) | none => (4, (tokP L).2.1, 0, []))
  else if (tokP L).1 = 2 then (3, (tokP L).2.1, 0, U8.encs ((L.take ((tokP L).2.1 - 1)).drop 1))
  else (4, (tokP L).2.1, 0, [])

theorem number_any {b off n cap : Nat} {l : List Int} {w : World} (R : RRow w b off n cap l) (hn : n ≤ 1000) (h0 : 0 < n) : Says 24 #[.slice (some ⟨b, off, none⟩) n cap] (numR (numV l)) w w := by
  cases h : isNum l with
  | true => exact number_yes R hn h
  | false => exact number_no R h0 h

theorem RRow.sub {w : World} {b off n cap : Nat} {l : List Int} (R : RRow w b off n cap l) (k m : Nat) (h : k + m ≤ n) : RRow w b (off + k) m (cap - k) ((l.drop k).take m) :=
  ⟨by rw [List.length_take, List.length_drop, R.len]; omega, by have := R.le; omega, by have := R.max; omega, by rw [List.map_take, List.map_drop]; exact (R.cells.drop k).take m⟩

/-- A box of five cells. -/
structure Box5 (w : World) (g : Nat) (a0 a1 a2 a3 a4 : Value) : Prop where
  c0 : w.cell? ⟨g, 0, none⟩ = some a0
  c1 : w.cell? ⟨g, 1, none⟩ = some a1
  c2 : w.cell? ⟨g, 2, none⟩ = some a2
  c3 : w.cell? ⟨g, 3, none⟩ = some a3
  c4 : w.cell? ⟨g, 4, none⟩ = some a4
  fz : ∀ i : Nat, w.frozen? ⟨g, i, none⟩ = false
theorem Box5.new (w : World) (a0 a1 a2 a3 a4 : Value) (e : TypeId) : Box5 (w.alloc (.cells #[a0, a1, a2, a3, a4] e)) w.heap.size a0 a1 a2 a3 a4 :=
  ⟨by simp, by simp, by simp, by simp, by simp, fun i => by simp⟩
theorem Box5.lt {w : World} {g : Nat} {a0 a1 a2 a3 a4 : Value} (h : Box5 w g a0 a1 a2 a3 a4) : g < w.heap.size := cell_lt h.c0
theorem Box5.below {w w' : World} {g : Nat} {a0 a1 a2 a3 a4 : Value} (h : Box5 w g a0 a1 a2 a3 a4) (hb : Below w.heap.size w w') : Box5 w' g a0 a1 a2 a3 a4 :=
  ⟨(hb.cell (p := ⟨g, 0, none⟩) h.lt).trans h.c0, (hb.cell (p := ⟨g, 1, none⟩) h.lt).trans h.c1, (hb.cell (p := ⟨g, 2, none⟩) h.lt).trans h.c2, (hb.cell (p := ⟨g, 3, none⟩) h.lt).trans h.c3, (hb.cell (p := ⟨g, 4, none⟩) h.lt).trans h.c4, fun i => (hb.frozen (p := ⟨g, i, none⟩) h.lt).trans (h.fz i)⟩
theorem Box5.alloc {w : World} {g : Nat} {a0 a1 a2 a3 a4 : Value} (h : Box5 w g a0 a1 a2 a3 a4) (o : Obj) : Box5 (w.alloc o) g a0 a1 a2 a3 a4 := h.below (one_ok w o)

set_option maxHeartbeats 1000000 in
theorem piece_plain {b off n cap : Nat} {l : List Int} {w : World} (R : RRow w b off n cap l) (hn : n ≤ 1000) (k : Nat) (hk : k < n) (q : Nat) (hq : runP ampB (l.drop k) = q) (h0 : 0 < q) :
    Says 39 #[.slice (some ⟨b, off, none⟩) n cap, .int .i64 k] (pcV 1 k ((k : Int) + q) 0 ⟨#[]⟩) w w := by
  have hle := runP_le ampB (l.drop k)
  rw [List.length_drop, R.len, hq] at hle
  have HM := Lib.hid (runampB (R.below (one_ok w pcB)) k (by omega) hq)
  have h0' : (0 : Int) < (q : Int) := by omega
  have hw : IntKind.i64.wrap ((k : Int) + (q : Int)) = (k : Int) + (q : Int) := by rw [IntKind.wrap_i64]; omega
  have hb : Below (w.alloc pcB).heap.size (w.alloc pcB) (w.alloc pcB) := Below.refl _ _
  clear R hq
  go_enter Try.func39, Try.ntmps39
  go_wp2_with (go_at_call 58; (with_reducible refine (HM.out _ hb).mono ?_); rintro e w1 ⟨rfl, hb1⟩; obtain ⟨c1, c2⟩ := bcell hb1)
  refine bodyPost_ret (v := pcV 1 k ((k : Int) + q) 0 ⟨#[]⟩) ?_ rfl ⟨rfl, ?_⟩
  · simp [results, Try.results39, go_sem, c1, pcV]
  · exact ((((((one_ok w pcB).trans (hb1.mono (by simp))).setCell (by simp) _).setCell (by simp) _).setCell (by simp) _).setCell (by simp) _).setCell (by simp) _

set_option maxRecDepth 20000 in
set_option maxHeartbeats 2000000 in
theorem piece_bad {b off n cap : Nat} {l : List Int} {w : World} (R : RRow w b off n cap l) (hn : n ≤ 1000) (k : Nat) (hk : k < n) (hq : runP ampB (l.drop k) = 0) (kd m : Nat) (wh : Bool) (ht : tokP (l.drop k) = (kd, m, wh)) (h3 : ¬ kd = 3) (h2 : ¬ kd = 2) (hm : k + m ≤ n) :
    Says 39 #[.slice (some ⟨b, off, none⟩) n cap, .int .i64 k] (pcV 4 k ((k : Int) + m) 0 ⟨#[]⟩) w w := by
  have R0 := R.below (one_ok w pcB)
  have HM := Lib.hid (runampB R0 k (by omega) hq)
  have HN := Lib.hid (nextB R0 k hk ht)
  have hle := R.le
  have g3 : ¬ (kd : Int) = 3 := by omega
  have g2 : ¬ (kd : Int) = 2 := by omega
  have hck : ¬ cap = k := by omega
  have hkm : (k : Int) ≤ (k : Int) + (m : Int) := by omega
  have hkc : (k : Int) + (m : Int) ≤ (cap : Int) := by omega
  have HSZ := Lib.hid (one_ok w pcB)
  obtain ⟨y, hy⟩ : ∃ y, y = k + m := ⟨_, rfl⟩
  have hb : Below (w.alloc pcB).heap.size (w.alloc pcB) (w.alloc pcB) := Below.refl _ _
  clear R R0 hq ht
  go_enter Try.func39, Try.ntmps39
  go_wp2_with (first
    | (go_at_call 58; (with_reducible refine (HM.out _ hb).mono ?_); rintro e w1 ⟨rfl, hb1⟩)
    | (go_at_call 43; (with_reducible refine (HN.out _ hb1).mono ?_); rintro e w2 ⟨rfl, hb2⟩; obtain ⟨y0, y1, y2, y3, y4, fz⟩ := (((Box5.new w (.int .i64 0) (.int .i64 0) (.int .i64 0) (.int .i32 0) (.string ⟨#[]⟩) 51).below hb2).alloc (.cells #[.int .i64 kd, .int .i64 k, .int .i64 ((k : Int) + m), .bool wh] 77)).alloc (.cells #[.int .i64 4, .int .i64 k, .int .i64 ((k : Int) + m), .int .i32 0, .string ⟨#[]⟩] 51); have z0 := fz 0; have z1 := fz 1; have z2 := fz 2; have z3 := fz 3; have z4 := fz 4; have HBB := Lib.hid (fun o1 o2 => HSZ.out.trans ((Below.more hb2 (two_ok w2 o1 o2)).mono HSZ.out.size)); clear hb1 hb2 fz))
  refine bodyPost_ret (v := pcV 4 k ((k : Int) + m) 0 ⟨#[]⟩) ?_ rfl ⟨rfl, ?_⟩
  · simp [results, Try.results39, go_sem, y0, y1, y2, y3, y4, pcV]
  · exact (((((HBB.out _ _).setCell (by simp) _).setCell (by simp) _).setCell (by simp) _).setCell (by simp) _).setCell (by simp) _

theorem Box5.at_ (w : World) (g : Nat) (hg : g = w.heap.size) (a0 a1 a2 a3 a4 : Value) (e : TypeId) : Box5 (w.alloc (.cells #[a0, a1, a2, a3, a4] e)) g a0 a1 a2 a3 a4 := hg ▸ Box5.new w a0 a1 a2 a3 a4 e

set_option maxRecDepth 20000 in
set_option maxHeartbeats 2000000 in
theorem piece_num {b off n cap : Nat} {l : List Int} {w : World}
    (R : RRow w b off n cap l) (hn : n ≤ 1000) (k : Nat) (hk : k < n) (hq : runP ampB (l.drop k) = 0) (m : Nat) (wh : Bool) (ht : tokP (l.drop k) = (3, m, wh)) (hm : k + m ≤ n) (hm0 : 0 < m) (r : Int) (hr : numV ((l.drop k).take m) = some r) :
    Says 39 #[.slice (some ⟨b, off, none⟩) n cap, .int .i64 k] (pcV 2 k ((k : Int) + m) r ⟨#[]⟩) w w := by
  have R0 := R.below (one_ok w pcB)
  have HM := Lib.hid (runampB R0 k (by omega) hq)
  have HN := Lib.hid (nextB R0 k hk ht)
  have hle := R.le
  have hck : ¬ cap = k := by omega
  have hkm : (k : Int) ≤ (k : Int) + (m : Int) := by omega
  have hkc : (k : Int) + (m : Int) ≤ (cap : Int) := by omega
  have HSZ := Lib.hid (one_ok w pcB)
  have hb : Below (w.alloc pcB).heap.size (w.alloc pcB) (w.alloc pcB) := Below.refl _ _
  have HU := Lib.hid (fun (W : World) (hb : Below w.heap.size w W) => show Says 24 #[.slice (some ⟨b, off + k, none⟩) m (cap - k)] (.tuple #[.int .i32 r, .bool true]) W W from by
    have h := number_any ((R.below hb).sub k m hm) (by omega) hm0
    rw [hr] at h; exact h)
  clear R R0 hq ht hr
  go_enter Try.func39, Try.ntmps39
  go_wp2_with (first
    | (go_at_call 58; (with_reducible refine (HM.out _ hb).mono ?_); rintro e w1 ⟨rfl, hb1⟩)
    | (go_at_call 43; (with_reducible refine (HN.out _ hb1).mono ?_); rintro e w2 ⟨rfl, hb2⟩; have HBB := Lib.hid (fun o1 o2 => HSZ.out.trans ((Below.more hb2 (two_ok w2 o1 o2)).mono HSZ.out.size)); have hz2 : w.heap.size < w2.heap.size := (by have h := hb2.size; simp at h; omega); have hne1 : ¬ w.heap.size = w2.heap.size + 1 := (by omega); have hne2 : ¬ w2.heap.size + 1 = w.heap.size := (by omega); have HC := Lib.hid (fun o1 o2 => (((Box5.new w (.int .i64 0) (.int .i64 0) (.int .i64 0) (.int .i32 0) (.string ⟨#[]⟩) 51).below hb2).alloc o1).alloc o2); have HP := Lib.hid (fun o1 => Box5.at_ (w2.alloc o1) (w2.heap.size + 1) (by simp) (.int .i64 4) (.int .i64 k) (.int .i64 ((k : Int) + m)) (.int .i32 0) (.string ⟨#[]⟩) 51); clear hb1 hb2)
    | (go_at_call 24; (with_reducible refine (HU.out _ (HBB.out _ _)).mono ?_); rintro e w3 ⟨rfl, hb3⟩; obtain ⟨y0, y1, y2, y3, y4, fz⟩ := (HC.out _ _).below hb3; have z0 := fz 0; have z1 := fz 1; have z2 := fz 2; have z3 := fz 3; have z4 := fz 4; obtain ⟨p0, p1, p2, p3, p4, pz⟩ := (HP.out _).below hb3; have s0 := pz 0; have s3 := pz 3; have HB3 := Lib.hid ((HBB.out _ _).trans (hb3.mono (HBB.out _ _).size)); clear fz pz hb3))
  refine bodyPost_ret (v := pcV 2 k ((k : Int) + m) r ⟨#[]⟩) ?_ rfl ⟨rfl, ?_⟩
  · simp [results, Try.results39, go_sem, y0, y1, y2, y3, y4, p0, p1, p2, p3, p4, hne1, hne2, pcV]
  · exact ((((((HB3.out.setCell (p := ⟨w2.heap.size + 1, 0, none⟩) (by simp; omega) _).setCell (p := ⟨w2.heap.size + 1, 3, none⟩) (by simp; omega) _).setCell (by simp) _).setCell (by simp) _).setCell (by simp) _).setCell (by simp) _).setCell (by simp) _

set_option maxRecDepth 20000 in
set_option maxHeartbeats 2000000 in
theorem piece_numno {b off n cap : Nat} {l : List Int} {w : World}
    (R : RRow w b off n cap l) (hn : n ≤ 1000) (k : Nat) (hk : k < n) (hq : runP ampB (l.drop k) = 0) (m : Nat) (wh : Bool) (ht : tokP (l.drop k) = (3, m, wh)) (hm : k + m ≤ n) (hm0 : 0 < m) (hr : numV ((l.drop k).take m) = none) :
    Says 39 #[.slice (some ⟨b, off, none⟩) n cap, .int .i64 k] (pcV 4 k ((k : Int) + m) 0 ⟨#[]⟩) w w := by
  have R0 := R.below (one_ok w pcB)
  have HM := Lib.hid (runampB R0 k (by omega) hq)
  have HN := Lib.hid (nextB R0 k hk ht)
  have hle := R.le
  have hck : ¬ cap = k := by omega
  have hkm : (k : Int) ≤ (k : Int) + (m : Int) := by omega
  have hkc : (k : Int) + (m : Int) ≤ (cap : Int) := by omega
  have HSZ := Lib.hid (one_ok w pcB)
  have hb : Below (w.alloc pcB).heap.size (w.alloc pcB) (w.alloc pcB) := Below.refl _ _
  have HU := Lib.hid (fun (W : World) (hb : Below w.heap.size w W) => show Says 24 #[.slice (some ⟨b, off + k, none⟩) m (cap - k)] (.tuple #[.int .i32 0, .bool false]) W W from by
    have h := number_any ((R.below hb).sub k m hm) (by omega) hm0
    rw [hr] at h; exact h)
  clear R R0 hq ht hr
  go_enter Try.func39, Try.ntmps39
  go_wp2_with (first
    | (go_at_call 58; (with_reducible refine (HM.out _ hb).mono ?_); rintro e w1 ⟨rfl, hb1⟩)
    | (go_at_call 43; (with_reducible refine (HN.out _ hb1).mono ?_); rintro e w2 ⟨rfl, hb2⟩; have HBB := Lib.hid (fun o1 o2 => HSZ.out.trans ((Below.more hb2 (two_ok w2 o1 o2)).mono HSZ.out.size)); have hz2 : w.heap.size < w2.heap.size := (by have h := hb2.size; simp at h; omega); have hne1 : ¬ w.heap.size = w2.heap.size + 1 := (by omega); have hne2 : ¬ w2.heap.size + 1 = w.heap.size := (by omega); have HC := Lib.hid (fun o1 o2 => (((Box5.new w (.int .i64 0) (.int .i64 0) (.int .i64 0) (.int .i32 0) (.string ⟨#[]⟩) 51).below hb2).alloc o1).alloc o2); have HP := Lib.hid (fun o1 => Box5.at_ (w2.alloc o1) (w2.heap.size + 1) (by simp) (.int .i64 4) (.int .i64 k) (.int .i64 ((k : Int) + m)) (.int .i32 0) (.string ⟨#[]⟩) 51); clear hb1 hb2)
    | (go_at_call 24; (with_reducible refine (HU.out _ (HBB.out _ _)).mono ?_); rintro e w3 ⟨rfl, hb3⟩; obtain ⟨y0, y1, y2, y3, y4, fz⟩ := (HC.out _ _).below hb3; have z0 := fz 0; have z1 := fz 1; have z2 := fz 2; have z3 := fz 3; have z4 := fz 4; obtain ⟨p0, p1, p2, p3, p4, pz⟩ := (HP.out _).below hb3; have HB3 := Lib.hid ((HBB.out _ _).trans (hb3.mono (HBB.out _ _).size)); clear fz pz hb3))
  refine bodyPost_ret (v := pcV 4 k ((k : Int) + m) 0 ⟨#[]⟩) ?_ rfl ⟨rfl, ?_⟩
  · simp [results, Try.results39, go_sem, y0, y1, y2, y3, y4, p0, p1, p2, p3, p4, hne1, hne2, pcV]
  · exact ((((HB3.out.setCell (by simp) _).setCell (by simp) _).setCell (by simp) _).setCell (by simp) _).setCell (by simp) _

end Go.Proofs.Ytbljgoieieoamaa
