/-
  Contract of layer 8: Read.
-/
import Derived.Test.YtblebkpnjeghoaaTagI
import Derived.Deep.DeepCutAuto
namespace Go.Proofs.Ytblebkpnjeghoaa
open Go.RowKit
set_option linter.unusedVariables false

/-- Is a part so many runes? -/
def lenB (p : PartA) (k : Nat) : Bool := decide ((p.2.2 : Int) - p.2.1 = k)

set_option maxHeartbeats 1000000 in
theorem partIs {x0 x1 x2 : Nat} (h1 : x1 ≤ 1000000) (h2 : x2 ≤ 1000000) (s : ByteArray) {v : Bool} (hs : s.size ≤ 20) (hv : lenB (x0, x1, x2) s.size = v) (w : World) :
    Calls Try.prog 78 #[parI x0 x1 x2, .string s] w fun e w' => e = .returned (.bool v) ∧ Below w.heap.size w w' := by
  have HV := Lib.hid (show decide ((x2 : Int) - x1 = s.size) = v from hv)
  clear hv
  go_enter Try.func78, Try.ntmps78
  go_wp2
  go_ret
  exact ⟨ret_bool (by rw [← HV.out, Bool.eq_iff_iff]; simp), one_ok _ _⟩

abbrev tagB : Obj := .cells #[.int .i64 0, .int .i64 0, .int .i64 0, .slice none 0 0, .bool false, .bool false] 78
abbrev tagI (a b c : Int) (v : Value) (r e : Bool) : Value := .agg #[.int .i64 a, .int .i64 b, .int .i64 c, v, .bool r, .bool e]

theorem owns_lower {w : World} {base base' n : Nat} {e : TypeId} {size : Nat} {v : Value} {xs : List Value} (h : w.ownsRow base e size v n xs) (hb : base' ≤ base) : w.ownsRow base' e size v n xs := by
  obtain ⟨hl, h1 | ⟨g, c, cur, hv, hg, hr⟩⟩ := h
  · exact ⟨hl, .inl h1⟩
  · exact ⟨hl, .inr ⟨g, c, cur, hv, Nat.le_trans hb hg, hr⟩⟩
theorem owns_cap {w : World} {base n cap : Nat} {e : TypeId} {size : Nat} {a : Option Addr} {xs : List Value} (h : w.ownsRow base e size (.slice a n cap) n xs) : cap ≤ maxLen := by
  obtain ⟨_, ⟨h1, _⟩ | ⟨g, c, cur, hv, _, _, _, hc, _⟩⟩ := h
  · simp at h1; unfold maxLen; omega
  · simp only [Value.slice.injEq] at hv
    obtain ⟨_, _, rfl⟩ := hv
    exact hc
theorem RD.made {w : World} {base cap : Nat} {a : Option Addr} {P : List PartA} (h : w.ownsRow base 75 3 (.slice a P.length cap) P.length (parsCells P)) (hc : P.length ≤ cap) (e : TypeId) : RD (w.alloc (.cells #[.slice a P.length cap] e)) w.heap.size P := by
  refine ⟨⟨a, cap, by simp, hc, owns_cap h, ?_⟩, by simp [go_sem]⟩
  intro j u hj
  obtain ⟨b, off, ha, hcl⟩ := (AtCells.of_owns h) j u hj
  exact ⟨b, off, ha, cell_lt hcl, kp_alloc _ hcl⟩

/-- What Read answers. -/
def OwnTag (w : World) (nm : PartA) (al : List AttA) (r m : Bool) (e : Ending) (w' : World) : Prop :=
  ∃ v, e = .returned (tagI nm.1 nm.2.1 nm.2.2 v r m) ∧ w'.ownsRow w.heap.size 89 9 v al.length (attsCells al) ∧ Below w.heap.size w w'

/-- Six cells filled. -/
def setT (w : World) (g : Nat) (a0 a1 a2 a3 a4 a5 : Value) : World :=
  (((((w.setCell ⟨g, 0, none⟩ a0).setCell ⟨g, 1, none⟩ a1).setCell ⟨g, 2, none⟩ a2).setCell ⟨g, 3, none⟩ a3).setCell ⟨g, 4, none⟩ a4).setCell ⟨g, 5, none⟩ a5
theorem setT_below {B : Nat} {w w' : World} (h : Below B w w') {g : Nat} (hg : B ≤ g) (a0 a1 a2 a3 a4 a5 : Value) : Below B w (setT w' g a0 a1 a2 a3 a4 a5) :=
  (((((h.setCell (p := ⟨g, 0, none⟩) hg _).setCell (p := ⟨g, 1, none⟩) hg _).setCell (p := ⟨g, 2, none⟩) hg _).setCell (p := ⟨g, 3, none⟩) hg _).setCell (p := ⟨g, 4, none⟩) hg _).setCell (p := ⟨g, 5, none⟩) hg _
theorem setT_own {w : World} {base : Nat} {e : TypeId} {size : Nat} {v : Value} {n : Nat} {xs : List Value} (h : w.ownsRow base e size v n xs) {g : Nat} (hne : v.ownBlock ≠ some g) (a0 a1 a2 a3 a4 a5 : Value) : (setT w g a0 a1 a2 a3 a4 a5).ownsRow base e size v n xs :=
  ownsRow_setCell_other (a := ⟨g, 5, none⟩) (ownsRow_setCell_other (a := ⟨g, 4, none⟩) (ownsRow_setCell_other (a := ⟨g, 3, none⟩) (ownsRow_setCell_other (a := ⟨g, 2, none⟩) (ownsRow_setCell_other (a := ⟨g, 1, none⟩) (ownsRow_setCell_other (a := ⟨g, 0, none⟩) h hne _) hne _) hne _) hne _) hne _) hne _

/-- The result's box, in a world that is kept from the reader on. -/
theorem res_cells {w w1 w2 : World} {rd : Obj} (hb : Below (w.alloc tagB).heap.size (w.alloc tagB) w1) (hk : Kept w1.heap.size (w1.alloc rd) w2) :
    w2.cell? ⟨w.heap.size, 0, none⟩ = some (.int .i64 0) ∧ w2.cell? ⟨w.heap.size, 1, none⟩ = some (.int .i64 0) ∧ w2.cell? ⟨w.heap.size, 2, none⟩ = some (.int .i64 0) ∧ w2.cell? ⟨w.heap.size, 3, none⟩ = some (.slice none 0 0) ∧ w2.cell? ⟨w.heap.size, 4, none⟩ = some (.bool false) ∧ w2.cell? ⟨w.heap.size, 5, none⟩ = some (.bool false) ∧ (∀ i, w2.frozen? ⟨w.heap.size, i, none⟩ = false) := by
  have hs : w.heap.size < w1.heap.size := by have := hb.size; simp at this; omega
  have e : w2.heap[w.heap.size]? = (w.alloc tagB).heap[w.heap.size]? := by
    rw [hk.block w.heap.size (by simp; omega) (by omega), Below.heap_alloc w1 rd w.heap.size hs, hb.block w.heap.size (by simp)]
  have c : ∀ i, w2.cell? ⟨w.heap.size, i, none⟩ = (w.alloc tagB).cell? ⟨w.heap.size, i, none⟩ := fun i => World.cell?_of_block e
  have f : ∀ i, w2.frozen? ⟨w.heap.size, i, none⟩ = (w.alloc tagB).frozen? ⟨w.heap.size, i, none⟩ := fun i => World.frozen?_of_block e
  refine ⟨?_, ?_, ?_, ?_, ?_, ?_, fun i => by rw [f]; simp [go_sem]⟩ <;> (rw [c]; simp)

set_option maxRecDepth 20000 in
set_option maxHeartbeats 4000000 in
theorem read_A (a : Option Addr) (n cap : Nat) (l : List Int) (w : World) (hl : l.length = n) (hc : n ≤ cap) (hm : cap ≤ maxLen) (hn : n ≤ 1000) (hat : AtCells w a (l.map (.int .i32))) (f t : Int) (P : List PartA) (hP : parts l f t = P) {n1 Q1 : List PartA} (h1 : takeP [1, 2] P = (n1, false, Q1)) :
    Calls Try.prog 45 #[.slice a n cap, .int .i64 f, .int .i64 t] w (OwnTag w (0, 0, 0) [] false false) := by
  have HP := Lib.hid (parts_row a n cap l (w.alloc tagB) hl hc hm hn (hat.alloc _) f t)
  rw [hP] at HP
  have hPl := parts_len l f t
  rw [hP, hl] at hPl
  have H1 := Lib.hid h1
  clear h1 hP hat
  go_enter Try.func45, Try.ntmps45
  go_wp2_with (first
    | (go_at_call 75; (with_reducible refine HP.out.mono ?_); rintro e w1 ⟨v, rfl, hown, hb1⟩; obtain ⟨va, vc, rfl, hvc⟩ := owns_slice hown; have rd0 := RD.made hown hvc 128; have hs1 : w.heap.size + 1 ≤ w1.heap.size := (by have := hb1.size; simp at this; omega); have tok1 : True := trivial)
    | (go_at_call 76; (have _t := tok1); (refine (take2 rd0 1 2 H1.out 1 2 rfl rfl _ (by simp)).mono ?_); rintro e w2 ⟨A1, c1, rfl, hl1, at1, rd1, hk1⟩; have hkk1 := hk1; have hz1 : w1.heap.size + 1 ≤ w2.heap.size := (by have := hk1.size; simp at this; omega); clear tok1 _t; have tok2 : True := trivial; obtain ⟨y0, y1, y2, y3, y4, y5, yz⟩ := res_cells hb1 hkk1))
  refine bodyPost_ret (v := tagI 0 0 0 (.slice none 0 0) false false) ?_ rfl ⟨_, rfl, World.ownsRow_nil _ _ _ _, ?_⟩
  · simp [results, Try.results45, go_sem, y0, y1, y2, y3, y4, y5]
  · exact setT_below (hkk1.below (((one_ok w tagB).trans (hb1.mono (by simp))).alloc (by omega) _) (by omega) (by simp; omega)) (Nat.le_refl _) _ _ _ _ _ _

/-- The tag while it is made: its box, its attributes, the reader. -/
structure TB (W1 wx : World) (rp tb : Nat) (nm : PartA) (av : Value) (r m : Bool) (al : List AttA) (Q2 : List PartA) (A1 : Option Addr) (hd : List PartA) : Prop where
  kept : Kept rp W1 wx
  own : wx.ownsRow W1.heap.size 89 9 av al.length (attsCells al)
  ne : av.ownBlock ≠ some tb
  base : W1.heap.size ≤ tb
  lt : tb < wx.heap.size
  rd : RD wx rp Q2
  hd : AtB wx rp A1 (parsCells hd)
  t0 : wx.cell? ⟨tb, 0, none⟩ = some (.int .i64 (nm.1 : Nat))
  t1 : wx.cell? ⟨tb, 1, none⟩ = some (.int .i64 (nm.2.1 : Nat))
  t2 : wx.cell? ⟨tb, 2, none⟩ = some (.int .i64 (nm.2.2 : Nat))
  t3 : wx.cell? ⟨tb, 3, none⟩ = some av
  t4 : wx.cell? ⟨tb, 4, none⟩ = some (.bool r)
  t5 : wx.cell? ⟨tb, 5, none⟩ = some (.bool m)
  fz : ∀ i, wx.frozen? ⟨tb, i, none⟩ = false

theorem RD.setT {w : World} {rp : Nat} {Q : List PartA} (h : RD w rp Q) {g : Nat} (hg : rp < g) (a0 a1 a2 a3 a4 a5 : Value) : RD (setT w g a0 a1 a2 a3 a4 a5) rp Q :=
  (((((h.put hg _ _).put hg _ _).put hg _ _).put hg _ _).put hg _ _).put hg _ _
theorem Kept.setT {p g : Nat} {w w' : World} (h : Kept p w w') (hg : w.heap.size ≤ g) (a0 a1 a2 a3 a4 a5 : Value) : Kept p w (setT w' g a0 a1 a2 a3 a4 a5) :=
  (((((h.new hg _ _).new hg _ _).new hg _ _).new hg _ _).new hg _ _).new hg _ _
theorem AtB.setT {w : World} {B g : Nat} {a : Option Addr} {xs : List Value} (h : AtB w B a xs) (hg : B ≤ g) (a0 a1 a2 a3 a4 a5 : Value) : AtB (setT w g a0 a1 a2 a3 a4 a5) B a xs := h.below (setT_below (Below.refl B w) hg _ _ _ _ _ _)

theorem TB.fill {W1 wy : World} {rp tb : Nat} {nm : PartA} {av : Value} {al : List AttA} {Q2 : List PartA} {A1 : Option Addr} {hd : List PartA} {B : Nat} (hk : Kept rp W1 wy) (own : wy.ownsRow B 89 9 av al.length (attsCells al)) (hB : W1.heap.size ≤ B)
    (ne : av.ownBlock ≠ some tb) (base : W1.heap.size ≤ tb) (hrp : rp < tb) (rd : RD wy rp Q2) (h : AtB wy rp A1 (parsCells hd)) {u0 u1 u2 u3 u4 u5 : Value} (c0 : wy.cell? ⟨tb, 0, none⟩ = some u0) (c1 : wy.cell? ⟨tb, 1, none⟩ = some u1) (c2 : wy.cell? ⟨tb, 2, none⟩ = some u2) (c3 : wy.cell? ⟨tb, 3, none⟩ = some u3) (c4 : wy.cell? ⟨tb, 4, none⟩ = some u4) (c5 : wy.cell? ⟨tb, 5, none⟩ = some u5)
    (fz : ∀ i, wy.frozen? ⟨tb, i, none⟩ = false) (m0 m1 m2 : Int) (e0 : m0 = nm.1) (e1 : m1 = nm.2.1) (e2 : m2 = nm.2.2) (r m : Bool) : TB W1 (setT wy tb (.int .i64 m0) (.int .i64 m1) (.int .i64 m2) av (.bool r) (.bool m)) rp tb nm av r m al Q2 A1 hd := by
  subst e0 e1 e2
  refine ⟨hk.setT base _ _ _ _ _ _, owns_lower (setT_own own ne _ _ _ _ _ _) hB, ne, base, ?_, rd.setT hrp _ _ _ _ _ _, h.setT (by omega) _ _ _ _ _ _, ?_, ?_, ?_, ?_, ?_, ?_, ?_⟩
  · have := cell_lt c0; simpa [setT] using this
  all_goals first
    | (unfold setT; simp [go_sem, c0, c1, c2, c3, c4, c5]; done)
    | (intro i; unfold setT; simp [go_sem, fz])
theorem TB.drew {W1 wx : World} {rp tb : Nat} {nm : PartA} {av : Value} {r m : Bool} {al : List AttA} {Q2 : List PartA} {A1 : Option Addr} {hd : List PartA} (h : TB W1 wx rp tb nm av r m al Q2 A1 hd) : TB W1 wx.drew rp tb nm av r m al Q2 A1 hd :=
  ⟨h.kept.next ((Below.refl _ _).drew), owns_below h.own ((Below.refl _ _).drew), h.ne, h.base, h.lt, h.rd.next ((Below.refl _ _).drew), h.hd, h.t0, h.t1, h.t2, h.t3, h.t4, h.t5, h.fz⟩

theorem TB.made {W1 w3 : World} {rp : Nat} {nm : PartA} {av : Value} {al : List AttA} {Q2 : List PartA} {A1 : Option Addr} {hd : List PartA} {B : Nat} (hk : Kept rp W1 w3) (own : w3.ownsRow B 89 9 av al.length (attsCells al)) (hB : W1.heap.size ≤ B)
    (rd : RD w3 rp Q2) (h : AtB w3 rp A1 (parsCells hd)) (m0 m1 m2 : Int) (e0 : m0 = nm.1) (e1 : m1 = nm.2.1) (e2 : m2 = nm.2.2) (r m : Bool) (e : TypeId) : TB W1 (w3.alloc (.cells #[.int .i64 m0, .int .i64 m1, .int .i64 m2, av, .bool r, .bool m] e)) rp w3.heap.size nm av r m al Q2 A1 hd := by
  subst e0 e1 e2
  refine ⟨hk.next (one_ok _ _), owns_lower (own.alloc _) hB, own_ne own (Nat.le_refl _), hk.size, by simp, rd.next (one_ok _ _), h.kept (Kept.of_below (one_ok _ _)), ?_, ?_, ?_, ?_, ?_, ?_, ?_⟩
  all_goals first
    | (simp; done)
    | (intro i; simp [go_sem])
theorem TB.keep {W1 wx wy : World} {rp tb : Nat} {nm : PartA} {av : Value} {r m : Bool} {al : List AttA} {Q2 Q3 : List PartA} {A1 : Option Addr} {hd : List PartA} (h : TB W1 wx rp tb nm av r m al Q2 A1 hd) (hk : Kept rp wx wy) (rd : RD wy rp Q3) (hrp : rp < W1.heap.size) : TB W1 wy rp tb nm av r m al Q3 A1 hd := by
  have hb := h.base
  obtain ⟨kc, kf⟩ := kcell hk
  have k : ∀ i, wy.cell? ⟨tb, i, none⟩ = wx.cell? ⟨tb, i, none⟩ := fun i => kc tb i h.lt (by omega)
  exact ⟨h.kept.trans hk, own_kept h.own hk hrp, h.ne, hb, Nat.lt_of_lt_of_le h.lt hk.size, rd, h.hd.kept hk, (k 0).trans h.t0, (k 1).trans h.t1, (k 2).trans h.t2, (k 3).trans h.t3, (k 4).trans h.t4, (k 5).trans h.t5, fun i => (kf tb i h.lt (by omega)).trans (h.fz i)⟩
theorem TB.next {W1 wx wy : World} {rp tb : Nat} {nm : PartA} {av : Value} {r m : Bool} {al : List AttA} {Q2 : List PartA} {A1 : Option Addr} {hd : List PartA} (h : TB W1 wx rp tb nm av r m al Q2 A1 hd) (hb : Below wx.heap.size wx wy) (hrp : rp < W1.heap.size) : TB W1 wy rp tb nm av r m al Q2 A1 hd :=
  h.keep (Kept.of_below hb) (h.rd.next hb) hrp
theorem TB.flags {W1 wx : World} {rp tb : Nat} {nm : PartA} {av : Value} {r m : Bool} {al : List AttA} {Q2 : List PartA} {A1 : Option Addr} {hd : List PartA} (h : TB W1 wx rp tb nm av r m al Q2 A1 hd) (hrp : rp < W1.heap.size) (r' m' : Bool) :
    TB W1 ((wx.setCell ⟨tb, 4, none⟩ (.bool r')).setCell ⟨tb, 5, none⟩ (.bool m')) rp tb nm av r' m' al Q2 A1 hd := by
  have hb := h.base
  have ht : rp < tb := by omega
  refine ⟨(h.kept.new hb _ _).new hb _ _, ownsRow_setCell_other (a := ⟨tb, 5, none⟩) (ownsRow_setCell_other (a := ⟨tb, 4, none⟩) h.own h.ne _) h.ne _, h.ne, hb, by have := h.lt; simpa using this, (h.rd.put ht _ _).put ht _ _, h.hd.below (((Below.refl rp wx).setCell (p := ⟨tb, 4, none⟩) (by simp; omega) _).setCell (p := ⟨tb, 5, none⟩) (by simp; omega) _), ?_, ?_, ?_, ?_, ?_, ?_, ?_⟩
  all_goals first
    | (simp [go_sem, h.t0, h.t1, h.t2, h.t3, h.t4, h.t5]; done)
    | (intro i; simp [go_sem, h.fz])
/-- What Read answers, at its end. -/
theorem TB.done {w w1 w5 : World} {tb : Nat} {nm : PartA} {av : Value} {r m : Bool} {al : List AttA} {Q2 : List PartA} {A1 : Option Addr} {hd : List PartA} {rdr : Obj} (h : TB (w1.alloc rdr) w5 w1.heap.size tb nm av r m al Q2 A1 hd) (hb : Below (w.alloc tagB).heap.size (w.alloc tagB) w1) (a0 a1 a2 a3 a4 a5 : Value) :
    (setT w5 w.heap.size a0 a1 a2 a3 a4 a5).ownsRow w.heap.size 89 9 av al.length (attsCells al) ∧ Below w.heap.size w (setT w5 w.heap.size a0 a1 a2 a3 a4 a5) := by
  have hs : w.heap.size + 1 ≤ w1.heap.size := by have := hb.size; simp at this; omega
  refine ⟨setT_own (owns_lower h.own (by simp; omega)) (fun hc => ?_) _ _ _ _ _ _, setT_below (h.kept.below (((one_ok w tagB).trans (hb.mono (by simp))).alloc (by omega) _) (by omega) (by simp; omega)) (Nat.le_refl _) _ _ _ _ _ _⟩
  have := (h.own.lt _ hc).1
  simp at this
  omega

theorem Box6.new (w : World) : (w.alloc tagB).drew.cell? ⟨w.heap.size, 0, none⟩ = some (.int .i64 0) ∧ (w.alloc tagB).drew.cell? ⟨w.heap.size, 1, none⟩ = some (.int .i64 0) ∧ (w.alloc tagB).drew.cell? ⟨w.heap.size, 2, none⟩ = some (.int .i64 0) ∧ (w.alloc tagB).drew.cell? ⟨w.heap.size, 3, none⟩ = some (.slice none 0 0) ∧ (w.alloc tagB).drew.cell? ⟨w.heap.size, 4, none⟩ = some (.bool false) ∧ (w.alloc tagB).drew.cell? ⟨w.heap.size, 5, none⟩ = some (.bool false) ∧ (∀ i, (w.alloc tagB).drew.frozen? ⟨w.heap.size, i, none⟩ = false) := by
  refine ⟨?_, ?_, ?_, ?_, ?_, ?_, fun i => ?_⟩
  all_goals first
    | (simp; done)
    | (simp [go_sem]; done)

end Go.Proofs.Ytblebkpnjeghoaa
