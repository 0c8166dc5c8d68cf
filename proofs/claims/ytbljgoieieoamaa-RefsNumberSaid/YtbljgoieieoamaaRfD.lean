/-
  refs: Pieces.
-/
import Derived.Test.YtbljgoieieoamaaRfC2
import Derived.Test.YtbljgoieieoamaaGen0
import Derived.Deep.AppendLies
namespace Go.Proofs.Ytbljgoieieoamaa
open Go.RowKit
set_option linter.unusedVariables false

/-- A piece: kind, from, to, the rune, the name's bytes. -/
abbrev Pc := Nat × Nat × Nat × Int × List Int
def pcCells (x : Pc) : List Value := [.int .i64 x.1, .int .i64 x.2.1, .int .i64 x.2.2.1, .int .i32 x.2.2.2.1, .string (strOfNums x.2.2.2.2)]
def pcsCells (l : List Pc) : List Value := l.flatMap pcCells
def pcAt (k : Nat) (x : Nat × Nat × Int × List Int) : Pc := (x.1, k, k + x.2.1, x.2.2.1, x.2.2.2)
def pcsF : Nat → Nat → List Int → List Pc
  | 0, _, _ => []
  | _ + 1, _, [] => []
  | f + 1, k, r :: l => pcAt k (pieceP (r :: l)) :: pcsF f (k + (pieceP (r :: l)).2.1) ((r :: l).drop (pieceP (r :: l)).2.1)
def pcs (l : List Int) : List Pc := pcsF l.length 0 l
theorem pcsCells_snoc (l : List Pc) (x : Pc) : pcsCells (l ++ [x]) = pcsCells l ++ pcCells x := by simp [pcsCells]
theorem pcsF_end (f k : Nat) : pcsF f k [] = [] := by cases f <;> rfl
theorem pcsF_cons {l : List Int} {j : Nat} (h : j < l.length) (f k : Nat) : pcsF (f + 1) k (l.drop j) = pcAt k (pieceP (l.drop j)) :: pcsF f (k + (pieceP (l.drop j)).2.1) (l.drop (j + (pieceP (l.drop j)).2.1)) := by
  rw [← dd]
  rcases hd : l.drop j with _ | ⟨r, m⟩
  · have := congrArg List.length hd
    rw [dropl] at this; simp at this; omega
  · rfl

theorem tok2_len {L : List Int} (h : (tokP L).1 = 2) : 3 ≤ (tokP L).2.1 := by
  unfold tokP at h ⊢
  by_cases h60 : L.getD 0 0 = 60
  · exfalso
    rw [if_pos h60] at h
    unfold mupP kTok tagT at h
    repeat' split at h
    all_goals simp at h
    all_goals (split at h <;> simp at h)
  · rw [if_neg h60] at h ⊢
    by_cases h38 : L.getD 0 0 = 38
    · rw [if_pos h38] at h ⊢
      unfold refP refT at h ⊢
      repeat' split at h
      all_goals try (simp at h; done)
      all_goals (rename_i hk; rw [Bool.or_eq_true, decide_eq_true_eq, not_or] at hk)
      all_goals simp_all
      all_goals omega
    · exfalso
      rw [if_neg h38] at h
      split at h <;> simp at h

theorem pieceP_ok {L : List Int} (h : 0 < L.length) : 0 < (pieceP L).2.1 ∧ (pieceP L).2.1 ≤ L.length ∧ 1 ≤ (pieceP L).1 ∧ (pieceP L).1 ≤ 4 := by
  have h1 := tokP_ok L h
  have h2 := runP_le ampB L
  obtain ⟨a, b, _, _⟩ := h1
  unfold pieceP
  split
  · rename_i hq; exact ⟨hq, h2, by simp, by simp⟩
  split
  · split
    · exact ⟨a, b, by simp, by simp⟩
    · exact ⟨a, b, by simp, by simp⟩
  split
  · exact ⟨a, b, by simp, by simp⟩
  · exact ⟨a, b, by simp, by simp⟩

theorem piece_any {b off n cap : Nat} {l : List Int} {w : World} (R : RRow w b off n cap l) (hn : n ≤ 1000) (hwf : Runes l) (k : Nat) (hk : k < n) {x : Nat × Nat × Int × List Int} (hx : pieceP (l.drop k) = x) :
    Says 39 #[.slice (some ⟨b, off, none⟩) n cap, .int .i64 k] (pcV x.1 k ((k : Int) + x.2.1) x.2.2.1 (strOfNums x.2.2.2)) w w := by
  have hdl : (l.drop k).length = n - k := by rw [dropl, R.len]
  obtain ⟨a1, a2, _, _⟩ := tokP_ok (l.drop k) (by omega)
  rw [hdl] at a2
  have h2l := @tok2_len (l.drop k)
  obtain ⟨⟨kd, m, wh⟩, ht⟩ : ∃ t, tokP (l.drop k) = t := ⟨_, rfl⟩
  unfold pieceP at hx
  rw [ht] at hx a1 a2 h2l
  simp only at hx a1 a2 h2l
  by_cases hq : 0 < runP ampB (l.drop k)
  · rw [if_pos hq] at hx
    subst hx
    exact piece_plain R hn k hk _ rfl hq
  · rw [if_neg hq] at hx
    have hq0 : runP ampB (l.drop k) = 0 := by omega
    by_cases h3 : kd = 3
    · rw [if_pos h3] at hx
      subst h3
      cases hv : numV ((l.drop k).take m) with
      | some r =>
        rw [hv] at hx; subst hx
        exact piece_num R hn k hk hq0 m wh ht (by omega) a1 r hv
      | none =>
        rw [hv] at hx; subst hx
        exact piece_numno R hn k hk hq0 m wh ht (by omega) a1 hv
    · rw [if_neg h3] at hx
      by_cases h2 : kd = 2
      · rw [if_pos h2] at hx
        subst h2 hx
        exact piece_ref R hn k hk hq0 m wh ht (by omega) (h2l rfl) hwf
      · rw [if_neg h2] at hx
        subst hx
        exact piece_bad R hn k hk hq0 kd m wh ht h3 h2 (by omega)

theorem Try.infoPc : (Try.prog.info? 51).map (fun i => (i.zero, i.size, i.bytes)) = some (some (.agg #[.int .i64 0, .int .i64 0, .int .i64 0, .int .i32 0, .string ⟨#[]⟩]), 5, 48) := by kernel_rfl
theorem one_pc (a b c r : Int) (s : ByteArray) : ∀ u ∈ [Value.int .i64 a, .int .i64 b, .int .i64 c, .int .i32 r, .string s], u.oneCell' = true := by
  intro u hu
  simp only [List.mem_cons, List.not_mem_nil, or_false] at hu
  rcases hu with rfl | rfl | rfl | rfl | rfl <;> rfl

/-- What a call that answers pieces answers. -/
def OwnPcs (w : World) (l : List Pc) (e : Ending) (w' : World) : Prop := ∃ v, e = .returned v ∧ w'.ownsRow w.heap.size 51 5 v l.length (pcsCells l) ∧ Below w.heap.size w w'

set_option maxHeartbeats 400000 in
theorem pieces_nil (a : Option Addr) (cap : Nat) (w : World) : Calls Try.prog 21 #[.slice a 0 cap] w (OwnPcs w (pcs [])) := by
  go_enter Try.func21, Try.ntmps21
  go_wp2
  go_loopw [3, 4] (fun v av wr => v = .slice none 0 0 ∧ av = .int .i64 0 ∧ wr = w) (fun _ _ _ => 0)
  case atStart => exact ⟨rfl, rfl, rfl⟩
  case round =>
    obtain ⟨rfl, rfl, rfl⟩ := hrel
    go_wp2
    go_ret
    exact ⟨_, rfl, World.ownsRow_nil _ _ _ _, Below.refl _ _⟩

set_option maxRecDepth 20000 in
set_option maxHeartbeats 4000000 in
theorem pieces_some {b off n cap : Nat} {l : List Int} {w : World} (R : RRow w b off n cap l) (hn : n ≤ 1000) (hwf : Runes l) :
    Calls Try.prog 21 #[.slice (some ⟨b, off, none⟩) n cap] w (OwnPcs w (pcs l)) := by
  obtain ⟨i0, hi, hz0, hz1, hz2⟩ := info_parts Try.infoPc
  have HI := Lib.hid (And.intro hi (And.intro hz0 (And.intro hz1 hz2)))
  have HL := Lib.hid R.len
  have HPC := Lib.hid (fun (W : World) (hb : Below w.heap.size w W) (k : Nat) (hk : k < n) => @piece_any b off n cap l W (R.below hb) hn hwf k hk)
  obtain ⟨res, hres⟩ : ∃ res, res = pcs l := ⟨_, rfl⟩
  have HALL0 := Lib.hid (show ([] : List Pc) ++ pcsF n 0 (l.drop 0) = res from by rw [hres, List.nil_append, List.drop_zero]; unfold pcs; rw [R.len])
  rw [← hres]
  clear hi hz0 hz1 hz2 R hwf hres
  go_enter Try.func21, Try.ntmps21
  go_wp2
  go_loopw [3, 4] (fun v av wr => ∃ (j fu : Nat) (acc : List Pc) (v' : Value), av = .int .i64 j ∧ v' = v ∧ j ≤ n ∧ n - j ≤ fu ∧ acc.length ≤ j ∧ Hid (wr.ownsRow w.heap.size 51 5 v' acc.length (pcsCells acc) ∧ Below w.heap.size w wr) ∧ Hid (acc ++ pcsF fu j (l.drop j) = res)) (fun _ av _ => n - (intOf av).toNat)
  case atStart => exact ⟨0, n, [], _, rfl, rfl, Nat.zero_le _, by omega, Nat.le_refl _, Lib.hid ⟨World.ownsRow_nil _ _ _ _, Below.refl _ _⟩, HALL0⟩
  case round =>
    clear HALL0
    obtain ⟨j, fu, acc, v0, rfl, rfl, hjn, hfu, hal, HOW, HALL⟩ := hrel
    by_cases hlt : j < n
    · obtain ⟨fu, rfl⟩ : ∃ f', fu = f' + 1 := ⟨fu - 1, by omega⟩
      obtain ⟨k1, k2, _, _⟩ := pieceP_ok (L := l.drop j) (by rw [dropl, HL.out]; omega)
      rw [dropl, HL.out] at k2
      obtain ⟨⟨kd, q, r, nm⟩, hpt⟩ : ∃ x, pieceP (l.drop j) = x := ⟨_, rfl⟩
      have hall := HALL.out
      rw [pcsF_cons (by rw [HL.out]; exact hlt), hpt] at hall
      rw [hpt] at k1 k2
      simp only [pcAt] at k1 k2 hall
      have HNEXT := Lib.hid (show (acc ++ [(kd, j, j + q, r, nm)]) ++ pcsF fu (j + q) (l.drop (j + q)) = res by rw [List.append_assoc]; exact hall)
      have HP := Lib.hid (fun (W : World) hb => HPC.out W hb j hlt hpt)
      simp only [] at HP
      obtain ⟨S, hS⟩ : ∃ S, S = strOfNums nm := ⟨_, rfl⟩
      rw [← hS] at HP
      have HS := Lib.hid hS
      have hjz : (j : Int) < (n : Int) := by omega
      clear hall hpt HALL hS
      go_wp2_with (go_at_call 39; (with_reducible refine (HP.out _ HOW.out.2).mono ?_); rintro e w3 ⟨rfl, hb3⟩)
      obtain ⟨d0, d1, d2, d3, d4, _⟩ := Box5.new w3 (.int .i64 kd) (.int .i64 j) (.int .i64 ((j : Int) + q)) (.int .i32 r) (.string S) 51
      obtain ⟨W1, hW1⟩ : ∃ W1, W1 = w3.alloc (.cells #[.int .i64 kd, .int .i64 j, .int .i64 ((j : Int) + q), .int .i32 r, .string S] 51) := ⟨_, rfl⟩
      have hbW : Below w3.heap.size w3 W1 := by rw [hW1]; exact one_ok _ _
      rw [← hW1] at d0 d1 d2 d3 d4 ⊢
      obtain ⟨pp, hpp⟩ : ∃ pp, pp = w3.heap.size := ⟨_, rfl⟩
      rw [← hpp] at d0 d1 d2 d3 d4 ⊢
      have HO1 := Lib.hid (And.intro (owns_below (owns_below HOW.out.1 hb3) hbW) (Below.more (Below.more HOW.out.2 hb3) hbW))
      have HNE := Lib.hid (show some pp ≠ v0.ownBlock from fun h => absurd (HOW.out.1.lt _ h.symm).2 (by have := hb3.size; omega))
      have HM := Lib.hid (And.intro (show acc.length + 1 ≤ maxLen by unfold maxLen; omega) (show (acc.length + 1) * 48 ≤ 140737488355328 by omega))
      have D0 := Lib.hid d0
      have D1 := Lib.hid d1
      have D2 := Lib.hid d2
      have D3 := Lib.hid d3
      have D4 := Lib.hid d4
      clear hW1 hbW d0 d1 d2 d3 d4 hb3 hpp
      go_region_held_law (fun W => W.cell? ⟨pp, 0, none⟩ = some (.int .i64 kd) ∧ W.cell? ⟨pp, 1, none⟩ = some (.int .i64 j) ∧ W.cell? ⟨pp, 2, none⟩ = some (.int .i64 ((j : Int) + q)) ∧ W.cell? ⟨pp, 3, none⟩ = some (.int .i32 r) ∧ W.cell? ⟨pp, 4, none⟩ = some (.string S))
          ((refine ⟨?_, ?_, ?_, ?_, ?_⟩ <;> (repeat (first | (with_reducible exact E0) | (with_reducible exact E1) | (with_reducible exact E2) | (with_reducible exact E3) | (with_reducible exact E4) | (with_reducible exact D0.out) | (with_reducible exact D1.out) | (with_reducible exact D2.out) | (with_reducible exact D3.out) | (with_reducible exact D4.out) | (with_reducible refine kp_alloc _ ?_) | (with_reducible refine kp_drew ?_)))))
          (first
            | (refine step_append_lies _ rfl _ _ 45 rfl w.heap.size 51 i0 _ 5 48 Try.underlying45 HI.out.1 HI.out.2.1 HI.out.2.2.1 HI.out.2.2.2 rfl (by decide) v0 acc.length (pcsCells acc) rfl (owns_below HO1.out.1 (one_ok W1 _).drew) ⟨W1.heap.size, 0, none⟩ 1 1 [.int .i64 kd, .int .i64 j, .int .i64 ((j : Int) + q), .int .i32 r, .string S] rfl rfl (new_cells_at W1 _ _ _ rfl) (one_pc _ _ _ _ _) (by decide) HM.out.1 HM.out.2 (Nat.le_trans HO1.out.2.size (one_ok W1 _).drew.size) _ rfl ?_; intro g gc w5 hown5 hg5 _ _; have E0 := hg5.cell (a := ⟨pp, 0, none⟩) (kp_drew (kp_alloc _ D0.out)) HNE.out; have E1 := hg5.cell (a := ⟨pp, 1, none⟩) (kp_drew (kp_alloc _ D1.out)) HNE.out; have E2 := hg5.cell (a := ⟨pp, 2, none⟩) (kp_drew (kp_alloc _ D2.out)) HNE.out; have E3 := hg5.cell (a := ⟨pp, 3, none⟩) (kp_drew (kp_alloc _ D3.out)) HNE.out; have E4 := hg5.cell (a := ⟨pp, 4, none⟩) (kp_drew (kp_alloc _ D4.out)) HNE.out; have HF := Lib.hid (And.intro hown5 (((one_ok W1 _).drew.mono HO1.out.2.size).grown hg5 (Nat.le_trans HO1.out.2.size (one_ok W1 _).drew.size) (fun k hk => (HO1.out.1.lt k hk).1))); clear hown5 hg5))
      simp only [List.getElem_toArray, List.getElem_cons_succ, List.getElem_cons_zero, List.setIfInBounds_toArray, List.set_cons_succ, List.set_cons_zero, Nat.zero_add]
      go_wp2
      go_roundw
      case rel => exact ⟨j + q, fu, acc ++ [(kd, j, j + q, r, nm)], _, by go_num, rfl, by omega, by omega, by rw [List.length_append, List.length_singleton]; omega, Lib.hid ⟨by rw [pcsCells_snoc, List.length_append]; have h := HF.out.1; rw [HS.out] at h; exact h, HO1.out.2.trans HF.out.2⟩, HNEXT⟩
      case measure => simp [intOf]; omega
    · obtain rfl : j = n := by omega
      have hall := HALL.out
      rw [List.drop_eq_nil_of_le (by rw [HL.out]; exact Nat.le_refl _), pcsF_end, List.append_nil] at hall
      have hjf : ¬ (j : Int) < (j : Int) := by omega
      have HA := Lib.hid hall
      clear hlt HALL hall
      go_wp2
      go_ret
      rw [← HA.out]
      exact ⟨_, rfl, HOW.out.1, HOW.out.2⟩

end Go.Proofs.Ytbljgoieieoamaa
