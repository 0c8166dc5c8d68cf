/-
  Contract of layer 8: a reader takes all attributes, the walk.
-/
import Derived.Test.YtblebkpnjeghoaaTagG
import Derived.Deep.LoopGhost
namespace Go.Proofs.Ytblebkpnjeghoaa
open Go.RowKit
set_option linter.unusedVariables false

theorem attr_some' {w : World} {rp : Nat} {Q Q' : List PartA} {b0 b1 b2 u0 u1 u2 k0 k1 k2 : Nat} (R : RD w rp Q) (h : attrP Q = some (((b0, b1, b2), (u0, u1, u2), (k0, k1, k2)), Q')) :
    Calls Try.prog 102 #[.pointer (some ⟨rp, 0, none⟩)] w (Attred (attI b0 b1 b2 u0 u1 u2 k0 k1 k2) true Q' rp w) := attr_some R h

set_option maxRecDepth 20000 in
set_option maxHeartbeats 4000000 in
theorem attrs_any {w : World} {rp : Nat} {Q : List PartA} (R : RD w rp Q) (hQ : Q.length ≤ 1000) {res : List AttA} {Qe : List PartA} (hres : attrsP Q = (res, Qe)) :
    Calls Try.prog 77 #[.pointer (some ⟨rp, 0, none⟩)] w (OwnAtts w rp res Qe) := by
  obtain ⟨i0, hi, hz0, hz1, hz2⟩ := info_parts Try.infoAttr
  have HI := Lib.hid (And.intro hi (And.intro hz0 (And.intro hz1 hz2)))
  have hp := R.lt
  clear hi hz0 hz1 hz2
  cases h0 : attrP Q with
  | none =>
    have HA := Lib.hid (attr_none R h0)
    unfold attrsP at hres
    rw [attrsF_none h0] at hres
    simp only [Prod.mk.injEq] at hres
    obtain ⟨rfl, rfl⟩ := hres
    clear h0 R
    go_enter Try.func77, Try.ntmps77
    go_wp2_with (go_at_call 102; (with_reducible refine HA.out.mono ?_); rintro e w1 ⟨rfl, rd1, hk1⟩)
    go_loop [3, 4, 5] (fun v p o => v = .slice none 0 0 ∧ o = .bool false) (fun _ _ _ => 0)
    case atStart => exact ⟨rfl, rfl⟩
    case round =>
      obtain ⟨rfl, rfl⟩ := hrel
      go_wp2
      go_ret
      exact ⟨_, rfl, World.ownsRow_nil _ _ _ _, rd1.next (one_ok _ _), hk1.next (one_ok _ _)⟩
  | some y =>
    obtain ⟨⟨⟨b0, b1, b2⟩, ⟨u0, u1, u2⟩, ⟨k0, k1, k2⟩⟩, Q1⟩ := y
    have HA := Lib.hid (attr_some' R h0)
    have hl1 := attrP_len h0
    obtain ⟨m, hm⟩ : ∃ m, m = Q.length := ⟨_, rfl⟩
    rw [← hm] at hQ hl1
    have HALL := Lib.hid (show ([] ++ ((b0, b1, b2), (u0, u1, u2), (k0, k1, k2)) :: (attrsF (m - 1) Q1).1, (attrsF (m - 1) Q1).2) = (res, Qe) by
      rw [← hres]
      unfold attrsP
      obtain ⟨f, hf⟩ : ∃ f, m = f + 1 := ⟨m - 1, by omega⟩
      rw [← hm, hf, attrsF_some h0]
      rfl)
    clear h0 R hres hm
    go_enter Try.func77, Try.ntmps77
    go_wp2_with (go_at_call 102; (with_reducible refine HA.out.mono ?_); rintro e w1 ⟨rfl, rd1, hk1⟩)
    have hbx := Box9.new w1 (.int .i64 ((b0 : Nat) : Int)) (.int .i64 ((b1 : Nat) : Int)) (.int .i64 ((b2 : Nat) : Int)) (.int .i64 ((u0 : Nat) : Int)) (.int .i64 ((u1 : Nat) : Int)) (.int .i64 ((u2 : Nat) : Int)) (.int .i64 ((k0 : Nat) : Int)) (.int .i64 ((k1 : Nat) : Int)) (.int .i64 ((k2 : Nat) : Int)) 89
    have hk1' := hk1.next (one_ok w1 (.cells #[.int .i64 b0, .int .i64 b1, .int .i64 b2, .int .i64 u0, .int .i64 u1, .int .i64 u2, .int .i64 k0, .int .i64 k1, .int .i64 k2] 89))
    have rd1' := rd1.next (one_ok w1 (.cells #[.int .i64 b0, .int .i64 b1, .int .i64 b2, .int .i64 u0, .int .i64 u1, .int .i64 u2, .int .i64 k0, .int .i64 k1, .int .i64 k2] 89))
    have hs1 := hk1.size
    go_loopg [3, 4, 5] (m + 1) (fun kx v p o wr => ∃ g, p = .pointer (some ⟨g, 0, none⟩) ∧ ((∃ Qn f acc x, o = .bool true ∧ Hid (TA w wr rp v g Qn f m acc x (res, Qe)) ∧ Qn.length + 1 ≤ kx) ∨ (o = .bool false ∧ Hid (TZ w wr rp v (res, Qe)))))
    case atStart => exact ⟨w1.heap.size, rfl, .inl ⟨Q1, m - 1, [], ((b0, b1, b2), (u0, u1, u2), (k0, k1, k2)), rfl, Lib.hid ⟨hk1', World.ownsRow_nil _ _ _ _, by simp [Value.ownBlock], hs1, by simp; omega, by omega, HALL.out, rd1', hbx⟩, by omega⟩⟩
    case round =>
      clear hbx hk1 hk1' rd1 rd1' HALL HA hs1 hl1
      obtain ⟨g, rfl, ⟨Qn, f, acc, ⟨⟨b0, b1, b2⟩, ⟨u0, u1, u2⟩, ⟨k0, k1, k2⟩⟩, rfl, HTT, hkx⟩ | ⟨rfl, HTE⟩⟩ := hrel
      · obtain ⟨x0, x1, x2, x3, x4, x5, x6, x7, x8⟩ := HTT.out.box
        have HBX := Lib.hid HTT.out.box
        simp only [attCells, parCells, List.cons_append, List.nil_append, List.getD_cons_zero, List.getD_cons_succ] at x0 x1 x2 x3 x4 x5 x6 x7 x8 HBX
        have hbase := HTT.out.base
        have hlen := HTT.out.len
        have HM := Lib.hid (And.intro (show acc.length + 1 ≤ maxLen by unfold maxLen; omega) (And.intro (show (acc.length + 1) * 72 ≤ 140737488355328 by omega) (show ∀ o, w.heap.size ≤ (wr.alloc o).heap.size from fun o => by have := HTT.out.kept.size; simp; omega)))
        have hps : rp + 1 ≤ wr.heap.size := by have := HTT.out.kept.size; omega
        cases h0 : attrP Qn with
        | none =>
          have HE := Lib.hid (show acc ++ [((b0, b1, b2), (u0, u1, u2), (k0, k1, k2))] = res ∧ Qn = Qe by
            have := HTT.out.all
            rw [attrsF_none h0] at this
            simpa using this)
          have HNX := Lib.hid (fun (w' : World) (R : RD w' rp Qn) => attr_none R h0)
          clear h0
          go_wp2_with (first
            | (at_builtin; refine wpList_append_own _ rfl _ _ 76 rfl w.heap.size 89 i0 _ 9 72 Try.underlying76 HI.out.1 HI.out.2.1 HI.out.2.2.1 HI.out.2.2.2 rfl (by decide) _ _ _ rfl (HTT.out.own.alloc _) _ _ _ (attCells ((b0, b1, b2), (u0, u1, u2), (k0, k1, k2))) rfl rfl (new_cells _ _ _) (attCells_one _) HM.out.1 HM.out.2.1 (HM.out.2.2 _) ?_; intro v' w2 hown' hg' _; obtain ⟨y0, y1, y2, y3, y4, y5, y6, y7, y8⟩ := HBX.out.grown hg' HTT.out.ne; have hk2 := HTT.out.kept.more hg' (fun g hg => (HTT.out.own.lt g hg).1); have rd2 := HTT.out.rd.belowS (((Below.refl (rp + 1) wr).alloc hps _).grown hg' (by simp; omega) (fun g hg => by have := (HTT.out.own.lt g hg).1; omega)); have hs2 : rp < w2.heap.size := rd2.lt; clear x0 x1 x2 x3 x4 x5 x6 x7 x8 hg')
            | (go_at_call 102; (with_reducible refine (HNX.out _ (rd2.next (one_ok _ _))).mono ?_); rintro e w3 ⟨rfl, rd3, hk3⟩; obtain ⟨z0, z1, z2, z3, z4, z5, z6, z7, z8⟩ := (Box9.new w2 _ _ _ _ _ _ _ _ _ _).kept hk3 (by omega); obtain ⟨_, c6⟩ := kcell hk3; have hn1 : ¬ w2.heap.size = rp := (by omega); clear y0 y1 y2 y3 y4 y5 y6 y7 y8))
          have hkn := hk2.next (one_ok w2 (.cells #[.int .i64 b0, .int .i64 b1, .int .i64 b2, .int .i64 u0, .int .i64 u1, .int .i64 u2, .int .i64 k0, .int .i64 k1, .int .i64 k2] 89))
          have hk5 := hkn.trans hk3
          have hs2' : w.heap.size ≤ w2.heap.size := hk2.size
          have hn2 := own_ne hown' (Nat.le_refl _)
          have hown3 := own_kept (hown'.alloc (.cells #[.int .i64 b0, .int .i64 b1, .int .i64 b2, .int .i64 u0, .int .i64 u1, .int .i64 u2, .int .i64 k0, .int .i64 k1, .int .i64 k2] 89)) hk3 hp
          clear c6
          go_roundg 0
          case measure => omega
          case rel => exact ⟨w2.heap.size, rfl, .inr ⟨rfl, Lib.hid ⟨hk5.setA hs2' _ _ _ _ _ _ _ _ _, by rw [← HE.out.1, attsCells_snoc, List.length_append]; exact setA_own hown3 hn2 _ _ _ _ _ _ _ _ _, by rw [← HE.out.2]; exact rd3.setA hs2 _ _ _ _ _ _ _ _ _⟩⟩⟩
        | some y' =>
          obtain ⟨⟨⟨b0', b1', b2'⟩, ⟨u0', u1', u2'⟩, ⟨k0', k1', k2'⟩⟩, Qm⟩ := y'
          have hl2 := attrP_len h0
          obtain ⟨f, rfl⟩ : ∃ f', f = f' + 1 := ⟨f - 1, by have := HTT.out.fuel; omega⟩
          have HE := Lib.hid (show ((acc ++ [((b0, b1, b2), (u0, u1, u2), (k0, k1, k2))]) ++ ((b0', b1', b2'), (u0', u1', u2'), (k0', k1', k2')) :: (attrsF f Qm).1, (attrsF f Qm).2) = (res, Qe) by
            have := HTT.out.all
            rw [attrsF_some h0] at this
            rw [List.append_assoc]
            exact this)
          have HNX := Lib.hid (fun (w' : World) (R : RD w' rp Qn) => attr_some' R h0)
          clear h0
          go_wp2_with (first
            | (at_builtin; refine wpList_append_own _ rfl _ _ 76 rfl w.heap.size 89 i0 _ 9 72 Try.underlying76 HI.out.1 HI.out.2.1 HI.out.2.2.1 HI.out.2.2.2 rfl (by decide) _ _ _ rfl (HTT.out.own.alloc _) _ _ _ (attCells ((b0, b1, b2), (u0, u1, u2), (k0, k1, k2))) rfl rfl (new_cells _ _ _) (attCells_one _) HM.out.1 HM.out.2.1 (HM.out.2.2 _) ?_; intro v' w2 hown' hg' _; obtain ⟨y0, y1, y2, y3, y4, y5, y6, y7, y8⟩ := HBX.out.grown hg' HTT.out.ne; have hk2 := HTT.out.kept.more hg' (fun g hg => (HTT.out.own.lt g hg).1); have rd2 := HTT.out.rd.belowS (((Below.refl (rp + 1) wr).alloc hps _).grown hg' (by simp; omega) (fun g hg => by have := (HTT.out.own.lt g hg).1; omega)); have hs2 : rp < w2.heap.size := rd2.lt; clear x0 x1 x2 x3 x4 x5 x6 x7 x8 hg')
            | (go_at_call 102; (with_reducible refine (HNX.out _ (rd2.next (one_ok _ _))).mono ?_); rintro e w3 ⟨rfl, rd3, hk3⟩; obtain ⟨z0, z1, z2, z3, z4, z5, z6, z7, z8⟩ := (Box9.new w2 _ _ _ _ _ _ _ _ _ _).kept hk3 (by omega); obtain ⟨_, c6⟩ := kcell hk3; have hn1 : ¬ w2.heap.size = rp := (by omega); clear y0 y1 y2 y3 y4 y5 y6 y7 y8))
          have hkn := hk2.next (one_ok w2 (.cells #[.int .i64 b0, .int .i64 b1, .int .i64 b2, .int .i64 u0, .int .i64 u1, .int .i64 u2, .int .i64 k0, .int .i64 k1, .int .i64 k2] 89))
          have hk5 := hkn.trans hk3
          have hs2' : w.heap.size ≤ w2.heap.size := hk2.size
          have hn2 := own_ne hown' (Nat.le_refl _)
          have hown3 := own_kept (hown'.alloc (.cells #[.int .i64 b0, .int .i64 b1, .int .i64 b2, .int .i64 u0, .int .i64 u1, .int .i64 u2, .int .i64 k0, .int .i64 k1, .int .i64 k2] 89)) hk3 hp
          clear c6
          go_roundg (Qm.length + 1)
          case measure => omega
          case rel => exact ⟨w2.heap.size, rfl, .inl ⟨Qm, f, acc ++ [((b0, b1, b2), (u0, u1, u2), (k0, k1, k2))], ((b0', b1', b2'), (u0', u1', u2'), (k0', k1', k2')), rfl, Lib.hid ⟨hk5.setA hs2' _ _ _ _ _ _ _ _ _, by rw [attsCells_snoc, List.length_append]; exact setA_own hown3 hn2 _ _ _ _ _ _ _ _ _, hn2, hs2', by rw [List.length_append, List.length_singleton]; omega, by have := HTT.out.fuel; omega, HE.out, rd3.setA hs2 _ _ _ _ _ _ _ _ _, Box9.set ⟨z0, z1, z2, z3, z4, z5, z6, z7, z8⟩ _ _ _ _ _ _ _ _ _⟩, by omega⟩⟩
      · go_wp2
        go_ret
        exact ⟨_, rfl, HTE.out.own, HTE.out.rd, HTE.out.kept⟩

end Go.Proofs.Ytblebkpnjeghoaa
