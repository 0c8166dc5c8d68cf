/-
  Contract: the reference's Decode of layer 3.
-/
import Derived.Test.YtmibajofbagphaaDoorSnT
import Derived.Deep.Onto
import Derived.Deep.DeepCutAuto
import Derived.IntWalk
namespace Go.Proofs.YtmibajofbagphaaDoor
open Go.RowKit

theorem owns_apart {w : World} {b b' n n' s s' : Nat} {e e' : TypeId} {v v' : Value} {xs ys : List Value} (h : w.ownsRow b e s v n xs) (h' : w.ownsRow b' e' s' v' n' ys) (he : e ≠ e') : v.ownBlock = none ∨ v.ownBlock ≠ v'.ownBlock := by
  obtain ⟨_, ⟨rfl, _⟩ | ⟨g, c, cur, rfl, _, hg, _⟩⟩ := h
  · exact .inl rfl
  · refine .inr fun hh => ?_
    obtain ⟨_, ⟨rfl, _⟩ | ⟨g', c', cur', rfl, _, hg', _⟩⟩ := h'
    · simp [Value.ownBlock] at hh
    · simp only [Value.ownBlock, Option.some.injEq] at hh
      subst hh
      rw [hg] at hg'
      simp at hg'
      exact he hg'.2

theorem owns_off {w : World} {b n s p : Nat} {e e' : TypeId} {v : Value} {xs : List Value} {cs : Array Value} (h : w.ownsRow b e s v n xs) (hp : w.heap[p]? = some (.cells cs e' (0, 0))) (he : e ≠ e') : v.ownBlock ≠ some p := by
  obtain ⟨_, ⟨rfl, _⟩ | ⟨g, c, cur, rfl, _, hg, _⟩⟩ := h
  · simp [Value.ownBlock]
  · intro hh
    simp only [Value.ownBlock, Option.some.injEq] at hh
    subst hh
    rw [hg] at hp
    simp at hp
    exact he hp.2

theorem owns_four {w : World} {base n size b : Nat} {e : TypeId} {v : Value} {xs : List Value} (h : w.ownsRow base e size v n xs) (hne : v.ownBlock ≠ some b) (u0 u1 u2 u3 : Value) :
    ((((w.setCell ⟨b, 0, none⟩ u0).setCell ⟨b, 1, none⟩ u1).setCell ⟨b, 2, none⟩ u2).setCell ⟨b, 3, none⟩ u3).ownsRow base e size v n xs :=
  ownsRow_setCell_other (a := ⟨b, 3, none⟩) (ownsRow_setCell_other (a := ⟨b, 2, none⟩) (ownsRow_setCell_other (a := ⟨b, 1, none⟩) (ownsRow_setCell_other (a := ⟨b, 0, none⟩) h hne _) hne _) hne _) hne _

/-- All blocks of a world but one are as they were. -/
structure Kept (p : Nat) (w w' : World) : Prop where
  os : w'.os = w.os
  tape : w'.tape = w.tape
  output : w'.output = w.output
  size : w.heap.size ≤ w'.heap.size
  block : ∀ k, k < w.heap.size → k ≠ p → w'.heap[k]? = w.heap[k]?

theorem Kept.refl (p : Nat) (w : World) : Kept p w w := ⟨rfl, rfl, rfl, Nat.le_refl _, fun _ _ _ => rfl⟩
theorem Kept.next {p : Nat} {w w' w'' : World} (h : Kept p w w') (hb : Below w'.heap.size w' w'') : Kept p w w'' :=
  ⟨hb.os.trans h.os, hb.tape.trans h.tape, hb.output.trans h.output, Nat.le_trans h.size hb.size, fun k hk hp => (hb.block k (Nat.lt_of_lt_of_le hk h.size)).trans (h.block k hk hp)⟩
theorem Kept.put {p : Nat} {w w' : World} (h : Kept p w w') (j : Nat) (u : Value) : Kept p w (w'.setCell ⟨p, j, none⟩ u) :=
  ⟨h.os, h.tape, h.output, by have := h.size; simpa [World.setCell] using this, fun k hk hp => by
    have : (w'.setCell ⟨p, j, none⟩ u).heap[k]? = w'.heap[k]? := by simp [World.setCell, Array.getElem?_modify, Ne.symm hp]
    rw [this]; exact h.block k hk hp⟩
theorem Kept.grown {p : Nat} {w W w' : World} {o : Obj} {row : Option Nat} (h : Kept p w W) (hg : (W.alloc o).grownBy w' row) (hr : ∀ k, row = some k → w.heap.size ≤ k) : Kept p w w' := by
  have hs := h.size
  have hz := hg.size
  simp at hz
  refine ⟨hg.os.trans h.os, hg.tape.trans h.tape, hg.output.trans h.output, by omega, fun k hk hp => ?_⟩
  rw [hg.block k (by simp; omega) (fun e => absurd (hr k e.symm) (by omega)), Below.heap_alloc W o k (by omega)]
  exact h.block k hk hp
theorem Kept.below {p B : Nat} {w0 w w' : World} (h : Kept p w w') (hb : Below B w0 w) (hB : B ≤ p) (hB' : B ≤ w.heap.size) : Below B w0 w' :=
  ⟨h.os.trans hb.os, h.tape.trans hb.tape, h.output.trans hb.output, Nat.le_trans hb.size h.size, fun k hk => (h.block k (by omega) (by omega)).trans (hb.block k hk)⟩

/-- The reference's text while it is made. -/
structure RB (w0 w : World) (p : Nat) (kd m : Int) (vR vO : Value) (rs os : List Int) : Prop where
  blk : w.heap[p]? = some (.cells #[.int .i64 kd, .int .i64 m, vR, vO] 29 (0, 0))
  r : w.ownsRow w0.heap.size 21 1 vR rs.length (rs.map (Value.int .i32))
  o : w.ownsRow w0.heap.size 3 1 vO os.length (os.map (Value.int .i64))
  kept : Kept p w0 w

theorem RB.lt {w0 w : World} {p : Nat} {kd m : Int} {vR vO : Value} {rs os : List Int} (h : RB w0 w p kd m vR vO rs os) : p < w.heap.size := (Array.getElem?_eq_some_iff.1 h.blk).1
theorem RB.cells {w0 w : World} {p : Nat} {kd m : Int} {vR vO : Value} {rs os : List Int} (h : RB w0 w p kd m vR vO rs os) :
    w.cell? ⟨p, 0, none⟩ = some (.int .i64 kd) ∧ w.cell? ⟨p, 1, none⟩ = some (.int .i64 m) ∧ w.cell? ⟨p, 2, none⟩ = some vR ∧ w.cell? ⟨p, 3, none⟩ = some vO ∧ w.frozen? ⟨p, 2, none⟩ = false ∧ w.frozen? ⟨p, 3, none⟩ = false := by
  refine ⟨?_, ?_, ?_, ?_, ?_, ?_⟩
  · unfold World.cell?; simp [h.blk]
  · unfold World.cell?; simp [h.blk]
  · unfold World.cell?; simp [h.blk]
  · unfold World.cell?; simp [h.blk]
  · unfold World.frozen?; simp [h.blk]
  · unfold World.frozen?; simp [h.blk]

theorem RB.next {w0 w w' : World} {p : Nat} {kd m : Int} {vR vO : Value} {rs os : List Int} (h : RB w0 w p kd m vR vO rs os) (hb : Below w.heap.size w w') : RB w0 w' p kd m vR vO rs os :=
  ⟨by rw [hb.block _ h.lt]; exact h.blk, owns_below h.r hb, owns_below h.o hb, h.kept.next hb⟩

theorem heap_set {w : World} {p : Nat} {cs : Array Value} {e : TypeId} (h : w.heap[p]? = some (.cells cs e (0, 0))) (j : Nat) (u : Value) : (w.setCell ⟨p, j, none⟩ u).heap[p]? = some (.cells (cs.setIfInBounds j u) e (0, 0)) := heap_setCell_same w p j cs e u h

theorem RB.putR {w0 W w2 : World} {o1 : Obj} {p : Nat} {kd m : Int} {vR vO v' : Value} {rs os : List Int} {z : Int} (h : RB w0 W p kd m vR vO rs os)
    (hg : (W.alloc o1).grownBy w2 vR.ownBlock) (hown : w2.ownsRow w0.heap.size 21 1 v' (rs.length + 1) (rs.map (Value.int .i32) ++ [.int .i32 z])) :
    RB w0 (w2.setCell ⟨p, 2, none⟩ v') p kd m v' vO (rs ++ [z]) os ∧ w2.cell? ⟨p, 2, none⟩ = some vR ∧ w2.frozen? ⟨p, 2, none⟩ = false ∧ (∀ b j u, W.cell? ⟨b, j, none⟩ = some u → some b ≠ vR.ownBlock → w2.cell? ⟨b, j, none⟩ = some u) ∧ W.heap.size ≤ w2.heap.size := by
  have hp := owns_off h.r h.blk (by decide)
  have hblk : w2.heap[p]? = some (.cells #[.int .i64 kd, .int .i64 m, vR, vO] 29 (0, 0)) := by
    rw [hg.block p (by have := h.lt; simp; omega) (fun e => hp e.symm), Below.heap_alloc W o1 p h.lt]; exact h.blk
  have ho := (h.o.alloc o1).kept hg (owns_apart h.o h.r (by decide))
  have hp' := owns_off hown hblk (by decide)
  have hq' := owns_off ho hblk (by decide)
  have hb2 := h.kept.grown hg (fun g hg => (h.r.lt g hg).1)
  refine ⟨⟨?_, ?_, ownsRow_setCell_other ho hq' _, hb2.put _ _⟩, ?_, ?_, fun b j u hu hne => ?_, by have := hg.size; simp at this; omega⟩
  · rw [heap_set hblk]; rfl
  · rw [List.length_append, List.map_append]; exact ownsRow_setCell_other hown hp' _
  · unfold World.cell?; simp [hblk]
  · unfold World.frozen?; simp [hblk]
  · exact hg.cell (a := ⟨b, j, none⟩) (by rw [World.cell?_of_block (Below.heap_alloc W o1 b (cell_lt hu))]; exact hu) hne

theorem RB.putO {w0 W w2 : World} {o1 : Obj} {p : Nat} {kd m : Int} {vR vO v' : Value} {rs os : List Int} {z : Int} (h : RB w0 W p kd m vR vO rs os)
    (hg : (W.alloc o1).grownBy w2 vO.ownBlock) (hown : w2.ownsRow w0.heap.size 3 1 v' (os.length + 1) (os.map (Value.int .i64) ++ [.int .i64 z])) :
    RB w0 (w2.setCell ⟨p, 3, none⟩ v') p kd m vR v' rs (os ++ [z]) ∧ w2.cell? ⟨p, 3, none⟩ = some vO ∧ w2.frozen? ⟨p, 3, none⟩ = false := by
  have hp := owns_off h.o h.blk (by decide)
  have hblk : w2.heap[p]? = some (.cells #[.int .i64 kd, .int .i64 m, vR, vO] 29 (0, 0)) := by
    rw [hg.block p (by have := h.lt; simp; omega) (fun e => hp e.symm), Below.heap_alloc W o1 p h.lt]; exact h.blk
  have hr := (h.r.alloc o1).kept hg (owns_apart h.r h.o (by decide))
  have hp' := owns_off hown hblk (by decide)
  have hq' := owns_off hr hblk (by decide)
  have hb2 := h.kept.grown hg (fun g hg => (h.o.lt g hg).1)
  refine ⟨⟨?_, ownsRow_setCell_other hr hq' _, ?_, hb2.put _ _⟩, ?_, ?_⟩
  · rw [heap_set hblk]; rfl
  · rw [List.length_append, List.map_append]; exact ownsRow_setCell_other hown hp' _
  · unfold World.cell?; simp [hblk]
  · unfold World.frozen?; simp [hblk]

theorem AtCells.kept {p : Nat} {w w' : World} {a : Option Addr} {xs : List Value} (h : AtCells w a xs) (hk : Kept p w w') (hne : ∀ x, a = some x → x.block ≠ p) : AtCells w' a xs := by
  intro j u hj
  obtain ⟨b, off, rfl, hc⟩ := h j u hj
  exact ⟨b, off, rfl, by rw [World.cell?_of_block (hk.block b (cell_lt hc) (hne _ rfl))]; exact hc⟩

theorem new_block (w : World) (o : Obj) : (w.alloc o).heap[w.heap.size]? = some o := heap_alloc_new w o

theorem one_one (k : IntKind) (z : Int) : ∀ u ∈ [Value.int k z], u.oneCell' = true := fun u hu => by
  simp only [List.mem_cons, List.not_mem_nil, or_false] at hu
  subst hu; rfl

theorem one_new (W : World) (e : TypeId) (u : Value) (g : Nat) (hg : g = W.heap.size) : ∀ j x, [u][j]? = some x → (W.alloc (.cells #[u] e)).cell? ((⟨g, 0, none⟩ : Addr).add j) = some x := new_cells_at W [u] e g hg

set_option maxRecDepth 100000 in
set_option maxHeartbeats 2000000 in
theorem refDecode_any (a : Option Addr) (n cap : Nat) (zs : List Int) (w : World) (hn : zs.length = n) (hc : n ≤ cap) (hm : cap ≤ maxLen) (hbig : n ≤ 1099511627776) (hb : Bys zs) (hat : AtCells w a (zs.map (.int .u8))) :
    Calls Tryd.prog 13 #[.slice a n cap] w (OwnText w (kindOf zs).1 (kindOf zs).2 (runesOf zs) (offsOf zs)) := by
  obtain ⟨hk, hm0, hm3, hmn⟩ := kindOf_cases zs
  rw [hn] at hmn
  obtain ⟨m, hmm⟩ : ∃ m : Nat, (kindOf zs).2 = (m : Int) := ⟨(kindOf zs).2.toNat, by omega⟩
  have hR : runesOf zs = (piecesOf (kindOf zs).1 (zs.drop m)).map (·.1) := by unfold runesOf; rw [hmm, Int.toNat_natCast]
  have hO : offsOf zs = (piecesOf (kindOf zs).1 (zs.drop m)).map (fun x => (m : Int) + x.2.1) ++ [(n : Int)] := by unfold offsOf; rw [hmm, Int.toNat_natCast, hn]
  have hK : ∀ W, Below w.heap.size w W → Calls Tryd.prog 25 #[.slice a n cap] W fun e w' => e = .returned (.tuple #[.int .i64 (kindOf zs).1, .int .i64 (m : Int)]) ∧ W = w' := fun W hW => by
    have := refKind_any a n cap zs W hn hc hm (hat.below hW)
    rwa [hmm] at this
  rw [hR, hO, hmm]
  have hmn' : m ≤ n := by omega
  obtain ⟨kd, hkd⟩ : ∃ kd, kd = (kindOf zs).1 := ⟨_, rfl⟩
  rw [← hkd] at hK ⊢
  have hP : ∀ W, Below w.heap.size w W → Calls Tryd.prog 28 #[.slice (if cap = m then a else Option.map (fun x => x.add m) a) (n - m) (cap - m), .int .i64 kd] W (OwnRefItems W (piecesOf kd (zs.drop m))) := fun W hW => by
    rw [← refPiecesOf_eq (by rw [hkd]; exact hk)]
    exact ref3Items_any kd _ (n - m) (cap - m) (zs.drop m) W (by rw [List.length_drop, hn]) (by omega) (by omega) (by omega) (hb.drop m) (at_sliced (hat.below hW) m cap (by omega))
  have hps := pieces_spec (kd := kd) (by rw [hkd]; exact hk) (zs.drop m)
  have hlen : (piecesOf kd (zs.drop m)).length ≤ n := by have := hps.1; rw [List.length_drop] at this; omega
  have hit : ∀ (k : Nat) (x : Int × Int × Int), (piecesOf kd (zs.drop m))[k]? = some x → 0 ≤ x.2.1 ∧ x.2.1 ≤ 1099511627776 := fun k x hx => by have := (hps.2.2 k x hx).1; rw [List.length_drop] at this; omega
  generalize piecesOf kd (zs.drop m) = l at hP hlen hit ⊢
  have HIT := Lib.hid hit
  clear hps hit
  have HK := Lib.hid hK
  have HP2 := Lib.hid hP
  obtain ⟨i0, hi, hz0, hz1, hz2⟩ := info_parts Tryd.infoI32
  obtain ⟨i1, hi', hz0', hz1', hz2'⟩ := info_parts Tryd.infoInt
  have HI := Lib.hid (And.intro hi (And.intro hz0 (And.intro hz1 hz2)))
  have HJ := Lib.hid (And.intro hi' (And.intro hz0' (And.intro hz1' hz2')))
  unfold maxLen at hm
  obtain ⟨q, hq⟩ : ∃ q, q = l.length := ⟨_, rfl⟩
  rw [← hq] at hlen
  have HQ := Lib.hid hq
  clear hK hP hR hO hkd hk hmm hm0 hm3 hmn hn hb hat hq hi hz0 hz1 hz2 hi' hz0' hz1' hz2'
  go_enter Tryd.func13, Tryd.ntmps13
  go_wp2_with fail
  refine (HK.out _ ((Below.refl _ _).alloc (Nat.le_refl _) _)).mono ?_
  rintro e w1 ⟨rfl, rfl⟩
  go_upto_region 3 with fail
  have hb1 : Below w.heap.size w ((w.alloc (.cells #[.int .i64 0, .int .i64 0, .slice none 0 0, .slice none 0 0] 29)).alloc (.cells #[.int .i64 kd, .int .i64 (m : Int), .slice none 0 0, .slice none 0 0] 29)) :=
    ((Below.refl _ _).alloc (Nat.le_refl _) _).alloc (by simp) _
  have hp1 : ((w.alloc (.cells #[.int .i64 0, .int .i64 0, .slice none 0 0, .slice none 0 0] 29)).alloc (.cells #[.int .i64 kd, .int .i64 (m : Int), .slice none 0 0, .slice none 0 0] 29)).heap[w.heap.size + 1]? = some (.cells #[.int .i64 kd, .int .i64 (m : Int), .slice none 0 0, .slice none 0 0] 29 (0, 0)) := by
    have := new_block (w.alloc (.cells #[.int .i64 0, .int .i64 0, .slice none 0 0, .slice none 0 0] 29)) (.cells #[.int .i64 kd, .int .i64 (m : Int), .slice none 0 0, .slice none 0 0] 29)
    rwa [show (w.alloc (.cells #[.int .i64 0, .int .i64 0, .slice none 0 0, .slice none 0 0] 29)).heap.size = w.heap.size + 1 by simp] at this
  have hq1 : ((w.alloc (.cells #[.int .i64 0, .int .i64 0, .slice none 0 0, .slice none 0 0] 29)).alloc (.cells #[.int .i64 kd, .int .i64 (m : Int), .slice none 0 0, .slice none 0 0] 29)).heap[w.heap.size]? = some (.cells #[.int .i64 0, .int .i64 0, .slice none 0 0, .slice none 0 0] 29 (0, 0)) := by
    rw [Below.heap_alloc _ _ _ (by simp)]; exact new_block _ _
  have hz1 : ((w.alloc (.cells #[.int .i64 0, .int .i64 0, .slice none 0 0, .slice none 0 0] 29)).alloc (.cells #[.int .i64 kd, .int .i64 (m : Int), .slice none 0 0, .slice none 0 0] 29)).heap.size = w.heap.size + 2 := by simp
  obtain ⟨w1, hw1⟩ : ∃ w1, w1 = (w.alloc (.cells #[.int .i64 0, .int .i64 0, .slice none 0 0, .slice none 0 0] 29)).alloc (.cells #[.int .i64 kd, .int .i64 (m : Int), .slice none 0 0, .slice none 0 0] 29) := ⟨_, rfl⟩
  rw [← hw1] at hb1 hp1 hq1 hz1 ⊢
  have HB1 := Lib.hid (And.intro hb1 (And.intro hp1 (And.intro hq1 hz1)))
  clear hw1 hb1 hp1 hq1 hz1 HK
  go_cut [20, 21, 22] (fun s20 s21 s22 wx => ∃ ai ci, s20 = .slice ai q ci ∧ s21 = .int .i64 (q : Int) ∧ s22 = .int .i64 0 ∧ wx.ownsRow w1.heap.size 51 3 (.slice ai q ci) q (itemsCells l) ∧ Below w1.heap.size w1 wx)
  case first =>
    by_cases hcm : cap = m
    · have HPa : Hid (∀ W, Below w.heap.size w W → Calls Tryd.prog 28 #[.slice a (n - m) (cap - m), .int .i64 kd] W (OwnRefItems W l)) := Lib.hid (fun W hW => by have := HP2.out W hW; rwa [if_pos hcm] at this)
      clear HP2
      obtain rfl : cap = n := by omega
      obtain rfl : m = cap := by omega
      clear hcm
      rw [Nat.sub_self] at HPa
      go_wp2_with fail
      refine (HPa.out _ HB1.out.1).mono ?_
      rintro e w2 ⟨v, rfl, hown, hb2⟩
      rw [← HQ.out] at hown
      obtain ⟨ai, ci, rfl, hci⟩ := owns_slice hown
      go_wp2_with fail
      go_meet
      exact ⟨_, _, rfl, rfl, rfl, hown, hb2⟩
    · have HPa : Hid (∀ W, Below w.heap.size w W → Calls Tryd.prog 28 #[.slice (Option.map (fun x => x.add m) a) (n - m) (cap - m), .int .i64 kd] W (OwnRefItems W l)) := Lib.hid (fun W hW => by have := HP2.out W hW; rwa [if_neg hcm] at this)
      clear HP2
      go_wp2_with fail
      refine (HPa.out _ HB1.out.1).mono ?_
      rintro e w2 ⟨v, rfl, hown, hb2⟩
      rw [← HQ.out] at hown
      obtain ⟨ai, ci, rfl, hci⟩ := owns_slice hown
      go_wp2_with fail
      go_meet
      exact ⟨_, _, rfl, rfl, rfl, hown, hb2⟩
  case rest =>
    obtain ⟨ai, ci, rfl, rfl, rfl, hown, hb2⟩ := hcut
    obtain ⟨w2, hw2⟩ : ∃ w2, w2 = wc := ⟨_, rfl⟩
    rw [← hw2] at hown hb2 ⊢
    have hne : ∀ x, ai = some x → x.block ≠ w.heap.size + 1 := fun x hx => by
      have h1 := hown.lt x.block (by subst hx; rfl)
      have h2 := HB1.out.2.2.2
      omega
    have HAT := Lib.hid (And.intro (AtCells.of_owns hown) hne)
    have hsz2 : w.heap.size + 2 ≤ w2.heap.size := by have := HB1.out.2.2.2; have := hb2.size; omega
    have HRB : Hid (RB w2 w2 (w.heap.size + 1) kd m (.slice none 0 0) (.slice none 0 0) [] []) := Lib.hid ⟨by rw [hb2.block _ (by rw [HB1.out.2.2.2]; omega)]; exact HB1.out.2.1, World.ownsRow_nil _ _ _ _, World.ownsRow_nil _ _ _ _, Kept.refl _ _⟩
    have HQ2 := Lib.hid (show w2.heap[w.heap.size]? = some (.cells #[.int .i64 0, .int .i64 0, .slice none 0 0, .slice none 0 0] 29 (0, 0)) by rw [hb2.block _ (by rw [HB1.out.2.2.2]; omega)]; exact HB1.out.2.2.1)
    have HBW := Lib.hid (HB1.out.1.trans (hb2.mono HB1.out.1.size))
    clear hown hb2 HP2 hw2 hne HB1
    obtain ⟨p, hp⟩ : ∃ p, p = w.heap.size + 1 := ⟨_, rfl⟩
    rw [← hp] at HAT HRB ⊢
    have hpw : w.heap.size < p := by omega
    have hp2 : p < w2.heap.size := by omega
    clear hp hsz2
    go_wp2_with fail
    go_loopw [22] (fun i wr => ∃ k : Nat, k ≤ q ∧ i = .int .i64 k ∧ ∃ vR vO, RB w2 wr p kd m vR vO ((l.map (·.1)).take k) ((l.map fun x => (m : Int) + x.2.1).take k)) (fun i _ => q - (intOf i).toNat)
    case atStart => exact ⟨0, Nat.zero_le _, rfl, _, _, HRB.out⟩
    case round =>
      obtain ⟨k, hk, rfl, vR, vO, hT⟩ := hrel
      by_cases hlt : k < q
      · obtain ⟨x, hx⟩ : ∃ x, l[k]? = some x := ⟨_, List.getElem?_eq_getElem (by rw [← HQ.out]; exact hlt)⟩
        obtain ⟨b, off, rfl, c0, c1, c2⟩ := item_cells (HAT.out.1.kept hT.kept HAT.out.2) hx
        obtain ⟨ho0, ho1⟩ := HIT.out k x hx
        obtain ⟨r, o, nn⟩ := x
        simp only at c0 c1 c2 ho0 ho1
        have HX := Lib.hid hx
        have HT := Lib.hid hT
        clear hx hT
        go_upto_region 6 with fail
        have hlt2 := HT.out.lt
        have HN := Lib.hid (HT.out.next ((Below.refl wr.heap.size wr).alloc (Nat.le_refl _) (.cells #[.int .i32 r, .int .i64 o, .int .i64 nn] 51)))
        have x0 : (wr.alloc (.cells #[.int .i32 r, .int .i64 o, .int .i64 nn] 51)).cell? ⟨wr.heap.size, 0, none⟩ = some (.int .i32 r) := by simp
        have x1 : (wr.alloc (.cells #[.int .i32 r, .int .i64 o, .int .i64 nn] 51)).cell? ⟨wr.heap.size, 1, none⟩ = some (.int .i64 o) := by simp
        have xb := new_block wr (.cells #[.int .i32 r, .int .i64 o, .int .i64 nn] 51)
        obtain ⟨W, hW⟩ : ∃ W, W = wr.alloc (.cells #[.int .i32 r, .int .i64 o, .int .i64 nn] 51) := ⟨_, rfl⟩
        rw [← hW] at HN x0 x1 xb ⊢
        have n1 : ¬ wr.heap.size = p := by omega
        generalize wr.heap.size = B at x0 x1 xb n1 ⊢
        have n2 : ¬ p = B := fun h => n1 h.symm
        obtain ⟨t0, t1, t2, t3, f2, f3⟩ := HN.out.cells
        have HBne := Lib.hid (owns_off HN.out.r xb (by decide))
        obtain ⟨rs, hrs⟩ : ∃ rs, rs = (l.map (·.1)).take k := ⟨_, rfl⟩
        obtain ⟨os, hos⟩ : ∃ os, os = (l.map fun x => (m : Int) + x.2.1).take k := ⟨_, rfl⟩
        rw [← hrs, ← hos] at HN
        have hrl : rs.length ≤ 1099511627776 := by rw [hrs, List.length_take]; omega
        have hol : os.length ≤ 1099511627776 := by rw [hos, List.length_take]; omega
        have HRS := Lib.hid (And.intro hrs hos)
        have HM1 := Lib.hid (show rs.length + 1 ≤ maxLen ∧ (rs.length + 1) * 4 ≤ 140737488355328 by unfold maxLen; omega)
        have HM2 := Lib.hid (show os.length + 1 ≤ maxLen ∧ (os.length + 1) * 8 ≤ 140737488355328 by unfold maxLen; omega)
        have HSZ := Lib.hid (show ∀ ob : Obj, w2.heap.size ≤ (W.alloc ob).heap.size from fun ob => by have := HN.out.kept.size; simp; omega)
        clear hW hlt2 c0 c1 c2 hrs hos hrl hol xb t0 t1 t3 f2 f3 HT
        go_upto_region 7 with (at_builtin; (refine wpList_append_own _ rfl _ _ 24 rfl w2.heap.size 21 i0 (.int .i32 0) 1 4 Tryd.underlying24 HI.out.1 HI.out.2.1 HI.out.2.2.1 HI.out.2.2.2 rfl (by decide) _ _ _ rfl (HN.out.r.alloc _) _ _ _ [.int .i32 r] rfl rfl (one_new _ _ _ _ rfl) (one_one _ _) HM1.out.1 HM1.out.2 (HSZ.out _) ?_); intro v1 W2 hown1 hg1 _; obtain ⟨a1, d1, rfl, hd1⟩ := owns_slice hown1; obtain ⟨hRB, cc, ff, hcell, hz⟩ := HN.out.putR hg1 hown1; have HR2 := Lib.hid hRB; have x1' := hcell B 1 _ x1 (fun h => HBne.out h.symm); have HZ := Lib.hid hz; clear hown1 hg1 hRB hcell hz x0 x1 t2 hd1)
        have x1 : (W2.setCell ⟨p, 2, none⟩ (.slice a1 (rs.length + 1) d1)).cell? ⟨B, 1, none⟩ = some (.int .i64 o) := by rw [World.cell?_setCell_other _ _ _ _ (by simp [n2])]; exact x1'
        have hzz : W.heap.size ≤ (W2.setCell ⟨p, 2, none⟩ (.slice a1 (rs.length + 1) d1)).heap.size := by have := HZ.out; simpa [World.setCell] using this
        obtain ⟨W3, hW3⟩ : ∃ W3, W3 = W2.setCell ⟨p, 2, none⟩ (.slice a1 (rs.length + 1) d1) := ⟨_, rfl⟩
        rw [← hW3] at HR2 x1 hzz ⊢
        obtain ⟨t0, t1, t2, t3, f2, f3⟩ := HR2.out.cells
        have HSZ2 := Lib.hid (show ∀ ob : Obj, w2.heap.size ≤ (W3.alloc ob).heap.size from fun ob => by have := HR2.out.kept.size; simp; omega)
        have hsum : IntKind.i64.wrap ((m : Int) + o) = (m : Int) + o := IntWalk.i64_in _ (by omega)
        clear cc ff x1' HZ hzz hW3 HN HSZ t0 t1 t2 f2 f3
        go_wp2_with (at_builtin; (refine wpList_append_own _ rfl _ _ 25 rfl w2.heap.size 3 i1 (.int .i64 0) 1 8 Tryd.underlying25 HJ.out.1 HJ.out.2.1 HJ.out.2.2.1 HJ.out.2.2.2 rfl (by decide) _ _ _ rfl (HR2.out.o.alloc _) _ _ _ [.int .i64 ((m : Int) + o)] rfl rfl (one_new _ _ _ _ rfl) (one_one _ _) HM2.out.1 HM2.out.2 (HSZ2.out _) ?_); intro v2 W4 hown2 hg2 _; obtain ⟨a2, d2, rfl, hd2⟩ := owns_slice hown2; obtain ⟨hRB2, cc2, ff2⟩ := HR2.out.putO hg2 hown2; have HR3 := Lib.hid hRB2; clear hown2 hg2 hRB2 x1 hd2 t3)
        go_roundw
        case rel =>
          have hl1 : k < (l.map (·.1)).length := by rw [List.length_map, ← HQ.out]; exact hlt
          have hl2 : k < (l.map fun x => (m : Int) + x.2.1).length := by rw [List.length_map, ← HQ.out]; exact hlt
          have e1 := U8.take_succ (l.map (·.1)) k hl1
          have e2 := U8.take_succ (l.map fun x => (m : Int) + x.2.1) k hl2
          have g1' : (l.map (·.1)).getD k 0 = r := by simp [HX.out]
          have g2' : (l.map fun x => (m : Int) + x.2.1).getD k 0 = (m : Int) + o := by simp [HX.out]
          rw [g1', ← HRS.out.1] at e1
          rw [g2', ← HRS.out.2] at e2
          exact ⟨k + 1, by omega, by go_num, _, _, by rw [e1, e2]; exact HR3.out⟩
        case measure => simp [intOf]; omega
      · obtain rfl : k = q := by omega
        have hl1 : (l.map (·.1)).length = k := by rw [List.length_map, HQ.out]
        have hl2 : (l.map fun x => (m : Int) + x.2.1).length = k := by rw [List.length_map, HQ.out]
        rw [List.take_of_length_le (by omega), List.take_of_length_le (by omega)] at hT
        obtain ⟨rs, hrs⟩ : ∃ rs, rs = l.map (·.1) := ⟨_, rfl⟩
        obtain ⟨os, hos⟩ : ∃ os, os = l.map fun x => (m : Int) + x.2.1 := ⟨_, rfl⟩
        rw [← hrs, ← hos] at hT
        have HRS := Lib.hid (And.intro hrs hos)
        rw [← hos] at hl2
        have hol : os.length ≤ 1099511627776 := by omega
        have HM2 := Lib.hid (show os.length + 1 ≤ maxLen ∧ (os.length + 1) * 8 ≤ 140737488355328 by unfold maxLen; omega)
        have HSZ := Lib.hid (show ∀ ob : Obj, w2.heap.size ≤ (wr.alloc ob).heap.size from fun ob => by have := hT.kept.size; simp; omega)
        have HT := Lib.hid hT
        obtain ⟨t0, t1, t2, t3, f2, f3⟩ := hT.cells
        clear hT hrs hos hl1 hl2 hol hlt t0 t1 t2 f2 f3
        go_upto_region 10 with (at_builtin; (refine wpList_append_own _ rfl _ _ 25 rfl w2.heap.size 3 i1 (.int .i64 0) 1 8 Tryd.underlying25 HJ.out.1 HJ.out.2.1 HJ.out.2.2.1 HJ.out.2.2.2 rfl (by decide) _ _ _ rfl (HT.out.o.alloc _) _ _ _ [.int .i64 (n : Int)] rfl rfl (one_new _ _ _ _ rfl) (one_one _ _) HM2.out.1 HM2.out.2 (HSZ.out _) ?_); intro v2 W4 hown2 hg2 _; obtain ⟨a2, d2, rfl, hd2⟩ := owns_slice hown2; obtain ⟨hRB2, cc2, ff2⟩ := HT.out.putO hg2 hown2; have HR3 := Lib.hid hRB2; clear hown2 hg2 hRB2 hd2 t3)
        obtain ⟨W5, hW5⟩ : ∃ W5, W5 = W4.setCell ⟨p, 3, none⟩ (.slice a2 (os.length + 1) d2) := ⟨_, rfl⟩
        rw [← hW5] at HR3 ⊢
        obtain ⟨t0, t1, t2, t3, f2, f3⟩ := HR3.out.cells
        have y5 : W5.heap[w.heap.size]? = some (.cells #[.int .i64 0, .int .i64 0, .slice none 0 0, .slice none 0 0] 29 (0, 0)) := by
          rw [HR3.out.kept.block _ (by omega) (by omega)]; exact HQ2.out
        have y0 : W5.cell? ⟨w.heap.size, 0, none⟩ = some (.int .i64 0) := by unfold World.cell?; simp [y5]
        have y1 : W5.cell? ⟨w.heap.size, 1, none⟩ = some (.int .i64 0) := by unfold World.cell?; simp [y5]
        have y2 : W5.cell? ⟨w.heap.size, 2, none⟩ = some (.slice none 0 0) := by unfold World.cell?; simp [y5]
        have y3 : W5.cell? ⟨w.heap.size, 3, none⟩ = some (.slice none 0 0) := by unfold World.cell?; simp [y5]
        have z0 : W5.frozen? ⟨w.heap.size, 0, none⟩ = false := by unfold World.frozen?; simp [y5]
        have z1 : W5.frozen? ⟨w.heap.size, 1, none⟩ = false := by unfold World.frozen?; simp [y5]
        have z2 : W5.frozen? ⟨w.heap.size, 2, none⟩ = false := by unfold World.frozen?; simp [y5]
        have z3 : W5.frozen? ⟨w.heap.size, 3, none⟩ = false := by unfold World.frozen?; simp [y5]
        have HY := Lib.hid y5
        obtain ⟨aR, dR, rfl, hdR⟩ := owns_slice HR3.out.r
        have n3 : ¬ w.heap.size = p := by omega
        have n7 : ¬ p = w.heap.size := by omega
        clear y5 hW5 hdR cc2 ff2
        go_wp2
        have hws : w.heap.size ≤ w2.heap.size := by omega
        have hr := HR3.out.r.mono hws
        have ho := HR3.out.o.mono hws
        have hne1 := owns_off HR3.out.r HY.out (by decide)
        have hne2 := owns_off HR3.out.o HY.out (by decide)
        have hb4 := HR3.out.kept.below HBW.out (by omega) hws
        refine bodyPost_ret (v := .agg #[.int .i64 kd, .int .i64 (m : Int), .slice aR rs.length dR, .slice a2 (os.length + 1) d2]) ?_ rfl ?_
        · simp [results, Tryd.results13, go_sem, y0, y1, y2, y3, n3, n7]
        · refine ⟨_, _, rfl, ?_, ?_, ?_⟩
          · rw [← HRS.out.1]; exact owns_four hr hne1 _ _ _ _
          · rw [← HRS.out.2, List.length_append]
            rw [List.length_append] at ho
            exact owns_four ho hne2 _ _ _ _
          · exact (((hb4.setCell (p := ⟨w.heap.size, 0, none⟩) (Nat.le_refl _) _).setCell (p := ⟨w.heap.size, 1, none⟩) (Nat.le_refl _) _).setCell (p := ⟨w.heap.size, 2, none⟩) (Nat.le_refl _) _).setCell (p := ⟨w.heap.size, 3, none⟩) (Nat.le_refl _) _

end Go.Proofs.YtmibajofbagphaaDoor
