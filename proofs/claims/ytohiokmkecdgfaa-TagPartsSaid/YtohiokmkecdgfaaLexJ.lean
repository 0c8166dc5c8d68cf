/-
  Contract of layer 7: Tokens.
-/
import Derived.Test.YtohiokmkecdgfaaLexI
import Derived.Deep.LoopGhost
import Derived.OneCell
namespace Go.Proofs.Ytohiokmkecdgfaa
open Go.RowKit
set_option linter.unusedVariables false

/-- A box of four cells. -/
structure Box4 (w : World) (g : Nat) (a0 a1 a2 a3 : Value) : Prop where
  c0 : w.cell? ⟨g, 0, none⟩ = some a0
  c1 : w.cell? ⟨g, 1, none⟩ = some a1
  c2 : w.cell? ⟨g, 2, none⟩ = some a2
  c3 : w.cell? ⟨g, 3, none⟩ = some a3

theorem Box4.lt {w : World} {g : Nat} {a0 a1 a2 a3 : Value} (h : Box4 w g a0 a1 a2 a3) : g < w.heap.size := cell_lt h.c0
theorem Box4.below {w w' : World} {g : Nat} {a0 a1 a2 a3 : Value} (h : Box4 w g a0 a1 a2 a3) (hb : Below w.heap.size w w') : Box4 w' g a0 a1 a2 a3 := by
  have k : ∀ i u, w.cell? ⟨g, i, none⟩ = some u → w'.cell? ⟨g, i, none⟩ = some u := fun i u hc => (hb.cell (p := ⟨g, i, none⟩) h.lt).trans hc
  exact ⟨k _ _ h.c0, k _ _ h.c1, k _ _ h.c2, k _ _ h.c3⟩
theorem Box4.grown {w w' : World} {g : Nat} {a0 a1 a2 a3 : Value} (h : Box4 w g a0 a1 a2 a3) {o : Obj} {row : Option Nat} (hg : (w.alloc o).grownBy w' row) (hne : row ≠ some g) : Box4 w' g a0 a1 a2 a3 := by
  have k : ∀ i u, w.cell? ⟨g, i, none⟩ = some u → w'.cell? ⟨g, i, none⟩ = some u := fun i u hc => by
    refine hg.cell (a := ⟨g, i, none⟩) ?_ hne.symm
    rw [World.cell?_of_block (Below.heap_alloc _ o g h.lt)]
    exact hc
  exact ⟨k _ _ h.c0, k _ _ h.c1, k _ _ h.c2, k _ _ h.c3⟩
def setB (w : World) (g : Nat) (b0 b1 b2 b3 : Value) : World := (((w.setCell ⟨g, 0, none⟩ b0).setCell ⟨g, 1, none⟩ b1).setCell ⟨g, 2, none⟩ b2).setCell ⟨g, 3, none⟩ b3
theorem Box4.set {w : World} {g : Nat} {a0 a1 a2 a3 : Value} (h : Box4 w g a0 a1 a2 a3) (b0 b1 b2 b3 : Value) : Box4 (setB w g b0 b1 b2 b3) g b0 b1 b2 b3 := by
  unfold setB
  constructor <;> simp [go_sem, h.c0, h.c1, h.c2, h.c3]
theorem Box4.new (w : World) (a0 a1 a2 a3 : Value) (e : TypeId) : Box4 (w.alloc (.cells #[a0, a1, a2, a3] e)) w.heap.size a0 a1 a2 a3 := by
  constructor <;> simp
theorem setB_size (w : World) (g : Nat) (b0 b1 b2 b3 : Value) : (setB w g b0 b1 b2 b3).heap.size = w.heap.size := by simp [setB]
theorem setB_below {B : Nat} {w w' : World} (h : Below B w w') {g : Nat} (hg : B ≤ g) (b0 b1 b2 b3 : Value) : Below B w (setB w' g b0 b1 b2 b3) :=
  (((h.setCell (p := ⟨g, 0, none⟩) hg _).setCell (p := ⟨g, 1, none⟩) hg _).setCell (p := ⟨g, 2, none⟩) hg _).setCell (p := ⟨g, 3, none⟩) hg _
theorem setB_own {w : World} {base : Nat} {e : TypeId} {size : Nat} {v : Value} {n : Nat} {xs : List Value} (h : w.ownsRow base e size v n xs) {g : Nat} (hne : v.ownBlock ≠ some g) (b0 b1 b2 b3 : Value) : (setB w g b0 b1 b2 b3).ownsRow base e size v n xs :=
  ownsRow_setCell_other (a := ⟨g, 3, none⟩) (ownsRow_setCell_other (a := ⟨g, 2, none⟩) (ownsRow_setCell_other (a := ⟨g, 1, none⟩) (ownsRow_setCell_other (a := ⟨g, 0, none⟩) h hne _) hne _) hne _) hne _
theorem own_ne {w : World} {base : Nat} {e : TypeId} {size : Nat} {v : Value} {n : Nat} {xs : List Value} (h : w.ownsRow base e size v n xs) {g : Nat} (hg : w.heap.size ≤ g) : v.ownBlock ≠ some g := fun hk => by
  have := (h.lt g hk).2
  omega

/-- A token's four cells; all tokens' cells. -/
def tokCells (x : TokA) : List Value := [.int .i64 (x.1 : Nat), .int .i64 (x.2.1 : Nat), .int .i64 (x.2.2.1 : Nat), .bool x.2.2.2]
def toksCells (l : List TokA) : List Value := l.flatMap tokCells
theorem toksCells_snoc (l : List TokA) (x : TokA) : toksCells (l ++ [x]) = toksCells l ++ tokCells x := by simp [toksCells]
theorem tokCells_one (x : TokA) : ∀ u ∈ tokCells x, u.oneCell' = true := by
  intro u hu
  simp only [tokCells, List.mem_cons, List.not_mem_nil, or_false] at hu
  rcases hu with rfl | rfl | rfl | rfl <;> rfl
theorem Try.infoTok : (Try.prog.info? 27).map (fun i => (i.zero, i.size, i.bytes)) = some (some (.agg #[.int .i64 0, .int .i64 0, .int .i64 0, .bool false]), 4, 32) := by kernel_rfl

/-- What a call that answers tokens answers. -/
def OwnToks (w : World) (l : List TokA) (e : Ending) (w' : World) : Prop :=
  ∃ v, e = .returned v ∧ w'.ownsRow w.heap.size 27 4 v l.length (toksCells l) ∧ Below w.heap.size w w'

theorem toksF_cons {f j : Nat} {l : List Int} (h : j < l.length) (k : Nat) : toksF (f + 1) k (l.drop j) = at_ k (tokP (l.drop j)) :: toksF f (k + (tokP (l.drop j)).2.1) (l.drop (j + (tokP (l.drop j)).2.1)) := by
  rw [← dd, drop_cons h, toksF]
theorem toksF_end {f k : Nat} : toksF f k [] = [] := by cases f <;> rfl

/-- A round's beginning, where there is one more token. -/
structure TT (w wr : World) (l : List Int) (n : Nat) (v : Value) (g j f : Nat) (acc : List TokA) (t : Tok) : Prop where
  below : Below w.heap.size w wr
  own : wr.ownsRow w.heap.size 27 4 v acc.length (toksCells acc)
  ne : v.ownBlock ≠ some g
  base : w.heap.size ≤ g
  len : acc.length ≤ j
  lt : j < n
  fuel : n - j ≤ f
  tok : tokP (l.drop j) = t
  all : acc ++ toksF f j (l.drop j) = toks l
  box : Box4 wr g (.int .i64 (t.1 : Nat)) (.int .i64 (j : Nat)) (.int .i64 ((j : Int) + t.2.1)) (.bool t.2.2)
/-- A round's beginning, where there is none. -/
structure TE (w wr : World) (l : List Int) (v : Value) : Prop where
  below : Below w.heap.size w wr
  own : wr.ownsRow w.heap.size 27 4 v (toks l).length (toksCells (toks l))

set_option maxHeartbeats 2000000 in
theorem tokens_any {b off n cap : Nat} {l : List Int} {w : World} (R : RRow w b off n cap l) (hn0 : 0 < n) (hn : n ≤ 1000) :
    Calls Try.prog 8 #[.slice (some ⟨b, off, none⟩) n cap] w (OwnToks w (toks l)) := by
  obtain ⟨i0, hi, hz0, hz1, hz2⟩ := info_parts Try.infoTok
  have HI := Lib.hid (And.intro hi (And.intro hz0 (And.intro hz1 hz2)))
  obtain ⟨t, ht⟩ : ∃ t, t = tokP (l.drop 0) := ⟨_, rfl⟩
  have HN := Lib.hid (nextB R 0 hn0 ht.symm w (Below.refl _ _))
  simp only [Int.cast_ofNat_Int, Int.zero_add] at HN
  have HR := Lib.hid R
  have HT := Lib.hid ht
  have hlen := R.len
  have HALL := Lib.hid (show [] ++ toksF n 0 (l.drop 0) = toks l by unfold toks; rw [hlen]; rfl)
  have HTO := Lib.hid (fun j (h : j < n) => tokP_ok (l.drop j) (by rw [dropl, hlen]; omega))
  have HLN := Lib.hid hlen
  clear hi hz0 hz1 hz2 R ht hlen
  go_enter Try.func8, Try.ntmps8
  go_wp2_with (go_at_call 9; (with_reducible refine HN.out.mono ?_); rintro e w1 ⟨rfl, hb1⟩)
  have hbx := Box4.new w1 (.int .i64 (t.1 : Nat)) (.int .i64 0) (.int .i64 (t.2.1 : Nat)) (.bool t.2.2) 27
  have hbb := hb1.alloc hb1.size (.cells #[.int .i64 (t.1 : Nat), .int .i64 0, .int .i64 (t.2.1 : Nat), .bool t.2.2] 27)
  go_loopg [3, 4, 5] (n + 1) (fun kx v p o wr => ∃ g, p = .pointer (some ⟨g, 0, none⟩) ∧ ((∃ j f acc t, o = .bool true ∧ Hid (TT w wr l n v g j f acc t) ∧ n - j + 1 ≤ kx) ∨ (o = .bool false ∧ Hid (TE w wr l v))))
  case atStart => exact ⟨w1.heap.size, rfl, .inl ⟨0, n, [], t, rfl, Lib.hid ⟨hbb, World.ownsRow_nil _ _ _ _, by simp [Value.ownBlock], hb1.size, by simp, hn0, by omega, HT.out.symm, HALL.out, by simpa using hbx⟩, by omega⟩⟩
  case round =>
    clear hbx hbb hb1 HN HALL HT
    obtain ⟨g, rfl, ⟨j, f, acc, t, rfl, HTT, hkx⟩ | ⟨rfl, HTE⟩⟩ := hrel
    · obtain ⟨x0, x1, x2, x3⟩ := HTT.out.box
      obtain ⟨ok1, ok2, ok3, ok4⟩ := HTO.out j HTT.out.lt
      rw [dropl, HLN.out] at ok2
      rw [HTT.out.tok] at ok1 ok2 ok3 ok4
      have hjl := HTT.out.lt
      have hal := HTT.out.len
      obtain ⟨f, rfl⟩ : ∃ f', f = f' + 1 := ⟨f - 1, by have := HTT.out.fuel; omega⟩
      have hall := HTT.out.all
      rw [toksF_cons (by rw [HLN.out]; exact hjl), HTT.out.tok] at hall
      have HALL := Lib.hid (show (acc ++ [at_ j t]) ++ toksF f (j + t.2.1) (l.drop (j + t.2.1)) = toks l by rw [List.append_assoc]; exact hall)
      have HM := Lib.hid (And.intro (show acc.length + 1 ≤ maxLen by unfold maxLen; omega) (And.intro (show (acc.length + 1) * 32 ≤ 140737488355328 by omega) (show ∀ o, w.heap.size ≤ (wr.alloc o).heap.size from fun o => by have := HTT.out.below.size; simp; omega)))
      have HC := Lib.hid (show [Value.int .i64 (t.1 : Nat), .int .i64 (j : Nat), .int .i64 ((j : Int) + t.2.1), .bool t.2.2] = tokCells (at_ j t) by unfold tokCells at_; simp)
      have hbase := HTT.out.base
      clear hall
      by_cases hlt : j + t.2.1 < n
      · obtain ⟨t', ht'⟩ : ∃ t', t' = tokP (l.drop (j + t.2.1)) := ⟨_, rfl⟩
        have HNX := Lib.hid (fun (w' : World) hb => next_any (HR.out.below (w' := w') hb) (j + t.2.1) hlt ht'.symm)
        simp only [Int.natCast_add] at HNX
        have HT' := Lib.hid ht'
        clear ht'
        go_wp2_with (first
          | (at_builtin; refine wpList_append_own _ rfl _ _ 24 rfl w.heap.size 27 i0 _ 4 32 Try.underlying24 HI.out.1 HI.out.2.1 HI.out.2.2.1 HI.out.2.2.2 rfl (by decide) _ _ _ rfl (HTT.out.own.alloc _) _ _ _ _ rfl rfl (new_cells _ _ _) (by rw [HC.out]; exact tokCells_one _) HM.out.1 HM.out.2.1 (HM.out.2.2 _) ?_; intro v' w2 hown' hg' _; obtain ⟨y0, y1, y2, y3⟩ := HTT.out.box.grown hg' HTT.out.ne; have hb2 := below_grown_alloc HTT.out.below HTT.out.below.size hg' (fun g hg => (HTT.out.own.lt g hg).1); clear x0 x1 x2 x3 hg')
          | (go_at_call 9; (with_reducible refine (HNX.out _ (hb2.alloc hb2.size _)).mono ?_); rintro e w3 ⟨rfl, hb3⟩; obtain ⟨z0, z1, z2, z3⟩ := (Box4.new w2 _ _ _ _ _).below hb3; obtain ⟨_, c6⟩ := bcell hb3; clear y0 y1 y2 y3))
        have hb4 := (hb2.alloc hb2.size _).trans (hb3.mono (hb2.alloc hb2.size _).size)
        have hn2 := own_ne hown' (Nat.le_refl _)
        have hown3 := owns_below (hown'.alloc _) hb3
        clear c6
        go_roundg (n - (j + t.2.1) + 1)
        case measure => omega
        case rel => exact ⟨w2.heap.size, rfl, .inl ⟨j + t.2.1, f, acc ++ [at_ j t], t', rfl, Lib.hid ⟨setB_below hb4 hb2.size _ _ _ _, by rw [toksCells_snoc, List.length_append, ← HC.out]; exact setB_own hown3 hn2 _ _ _ _, hn2, hb2.size, by rw [List.length_append, List.length_singleton]; omega, hlt, by have := HTT.out.fuel; omega, HT'.out.symm, HALL.out, by rw [Int.natCast_add]; exact Box4.set ⟨z0, z1, z2, z3⟩ _ _ _ _⟩, by omega⟩⟩
      · have hje : n = j + t.2.1 := by omega
        have HNX := Lib.hid (fun w' => next_end (some ⟨b, off, none⟩) n cap (j + t.2.1) (by omega) (by omega) w')
        simp only [Int.natCast_add] at HNX
        have HE := Lib.hid (show acc ++ [at_ j t] = toks l by have := HALL.out; rwa [List.drop_eq_nil_of_le (by rw [HLN.out]; omega), toksF_end, List.append_nil] at this)
        clear hje
        go_wp2_with (first
          | (at_builtin; refine wpList_append_own _ rfl _ _ 24 rfl w.heap.size 27 i0 _ 4 32 Try.underlying24 HI.out.1 HI.out.2.1 HI.out.2.2.1 HI.out.2.2.2 rfl (by decide) _ _ _ rfl (HTT.out.own.alloc _) _ _ _ _ rfl rfl (new_cells _ _ _) (by rw [HC.out]; exact tokCells_one _) HM.out.1 HM.out.2.1 (HM.out.2.2 _) ?_; intro v' w2 hown' hg' _; obtain ⟨y0, y1, y2, y3⟩ := HTT.out.box.grown hg' HTT.out.ne; have hb2 := below_grown_alloc HTT.out.below HTT.out.below.size hg' (fun g hg => (HTT.out.own.lt g hg).1); clear x0 x1 x2 x3 hg')
          | (go_at_call 9; (with_reducible refine (HNX.out _).mono ?_); rintro e w3 ⟨rfl, hb3⟩; obtain ⟨z0, z1, z2, z3⟩ := (Box4.new w2 _ _ _ _ _).below hb3; obtain ⟨_, c6⟩ := bcell hb3; clear y0 y1 y2 y3))
        have hb4 := (hb2.alloc hb2.size _).trans (hb3.mono (hb2.alloc hb2.size _).size)
        have hn2 := own_ne hown' (Nat.le_refl _)
        have hown3 := owns_below (hown'.alloc _) hb3
        clear c6
        go_roundg 0
        case measure => omega
        case rel => exact ⟨w2.heap.size, rfl, .inr ⟨rfl, Lib.hid ⟨setB_below hb4 hb2.size _ _ _ _, by rw [← HE.out, toksCells_snoc, List.length_append, ← HC.out]; exact setB_own hown3 hn2 _ _ _ _⟩⟩⟩
    · go_wp2
      go_ret
      exact ⟨_, rfl, HTE.out.own, HTE.out.below⟩

end Go.Proofs.Ytohiokmkecdgfaa
