/-
  The variable of signs: what it holds where the row lists it; Kind of layer 3.
-/
import Derived.Test.YtmibajofbagphaaDoorScanG
import Derived.Lib.LaidU8
import Derived.Lib.ConvBytes
import Derived.Laws.Rows
namespace Go.Proofs.YtmibajofbagphaaDoor
open Go.RowKit Go.Lib Go.Shelf

theorem bdr {B : Nat} {a w : World} (h : Below B a w) (n : Nat) : Below B a (w.drewN n) := h.trans ⟨rfl, rfl, rfl, Nat.le_refl _, fun _ _ => rfl⟩

/-- The signs, as the program lays them. -/
def signL : List (ByteArray × Int × Int) := [(⟨#[254, 255]⟩, 1, 2), (⟨#[255, 254]⟩, 2, 2), (⟨#[239, 187, 191]⟩, 0, 3), (⟨#[0, 60, 0, 63]⟩, 1, 0), (⟨#[60, 0, 63, 0]⟩, 2, 0)]
def signCells : List Value := signL.flatMap fun x => [.string x.1, .int .i64 x.2.1, .int .i64 x.2.2]

/-- The variable holds the signs. -/
def Signs (w : World) : Prop := ∃ t fr, w.heap[0]? = some (.cells signCells.toArray t fr)

theorem Signs.lt {w : World} (h : Signs w) : 0 < w.heap.size := by
  obtain ⟨t, fr, h⟩ := h
  exact (Array.getElem?_eq_some_iff.1 h).1
theorem Signs.below {w w' : World} (h : Signs w) (hb : Below w.heap.size w w') : Signs w' := by
  have hl := h.lt
  obtain ⟨t, fr, h⟩ := h
  exact ⟨t, fr, by rw [hb.block _ hl]; exact h⟩

section
variable {H : Type} {enc : TypeId × Value → H} {P : Program} {w : World} {base : Nat} {sp : Nat → Bool} {held : Bool}

theorem trod_string {fuel : Nat} {t : TypeId} {cs : List Value} {x : DataW H × List MemPlace} (ht : P.underlying t = some .string) (h : DataW.trod enc P w base sp held fuel t cs = some x) :
    ∃ s : ByteArray, cs = [.string s] ∧ x = (.lit (.string s.data.toList), []) := by
  cases fuel with
  | zero => simp [DataW.trod] at h
  | succ n =>
    unfold DataW.trod at h
    rw [ht] at h
    split at h <;> simp_all
end

theorem sign_struct {w : World} {sp : Nat → Bool} {held : Bool} {fuel : Nat} {cs : List Value} {l : List UInt8} {a b : Int} {q : List MemPlace}
    (h : DataW.trod (fun _ => ()) Tryd.prog w 0 sp held fuel 56 cs = some (.agg [.lit (.string l), .lit (.int .i64 a), .lit (.int .i64 b)], q)) :
    cs = [.string ⟨l.toArray⟩, .int .i64 a, .int .i64 b] := by
  obtain ⟨xs, n, rfl, hx, hl, hxl, hall⟩ := DataW.trod_struct Tryd.underlying56 h
  have c3 : Tryd.prog.cellsOf 56 = 3 := by kernel_rfl
  have c9 : Tryd.prog.cellsOf 9 = 1 := by kernel_rfl
  have ci : Tryd.prog.cellsOf 3 = 1 := by kernel_rfl
  rw [c3] at hl
  have h0 : DataW.trod (fun _ => ()) Tryd.prog w 0 sp held n 9 ((cs.drop 0).take (Tryd.prog.cellsOf 9)) = xs[0]? := hall 0 _ rfl
  have h1 : DataW.trod (fun _ => ()) Tryd.prog w 0 sp held n 3 ((cs.drop 1).take (Tryd.prog.cellsOf 3)) = xs[1]? := hall 1 _ rfl
  have h2 : DataW.trod (fun _ => ()) Tryd.prog w 0 sp held n 3 ((cs.drop 2).take (Tryd.prog.cellsOf 3)) = xs[2]? := hall 2 _ rfl
  rw [c9] at h0
  rw [ci] at h1 h2
  have hx3 : xs.length = 3 := hxl
  clear hall hxl c3 c9 ci h
  match xs, hx3, cs, hl with
  | [x0, x1, x2], _, [v0, v1, v2], _ =>
    simp at h0 h1 h2 hx
    obtain ⟨s, hs, rfl⟩ := trod_string Tryd.underlying9 h0
    obtain ⟨z1, hz1, rfl, _⟩ := DataW.trod_int Tryd.underlying3 h1
    obtain ⟨z2, hz2, rfl, _⟩ := DataW.trod_int Tryd.underlying3 h2
    simp at hs hz1 hz2 hx
    obtain ⟨⟨hq, rfl, rfl⟩, _⟩ := hx
    rw [hs, hz1, hz2]
    have : s = ⟨l.toArray⟩ := by rw [hq]
    rw [this]

def signsData : DataW Unit := .agg (signL.map fun x => .agg [.lit (.string x.1.data.toList), .lit (.int .i64 x.2.1), .lit (.int .i64 x.2.2)])

theorem signs_of_reads {w : World} (h : VarReads Tryd.prog w "rubric/sniff.signs" signsData) : Signs w := by
  obtain ⟨g, t, cs, fuel, p, hg, hty, hvar, hd⟩ := h
  obtain rfl := Option.some.inj ((show Tryd.prog.globalNamed "rubric/sniff.signs" = some 0 by kernel_rfl).symm.trans hg)
  obtain rfl := Option.some.inj ((show (Tryd.prog.globals[0]?).map (·.type) = some 57 by kernel_rfl).symm.trans hty)
  have c3 : Tryd.prog.cellsOf 56 = 3 := by kernel_rfl
  have c15 : Tryd.prog.cellsOf 57 = 15 := by kernel_rfl
  have hlen : cs.toList.length = 15 := by
    cases fuel with
    | zero => simp [DataW.trod] at hd
    | succ n =>
      simp only [DataW.trod, Tryd.underlying57] at hd
      split at hd
      · rename_i hh; rw [hh, c15]
      · simp at hd
  have hc : ∀ i, i < 5 → ∃ x, signL[i]? = some x ∧ (cs.toList.drop (i * 3)).take 3 = [.string x.1, .int .i64 x.2.1, .int .i64 x.2.2] := by
    intro i hi
    obtain ⟨fuel', d, q, hdi, he⟩ := array_elem Tryd.underlying57 hd i hi
    rw [List.getElem?_map] at hdi
    obtain ⟨x, hx, rfl⟩ := Option.map_eq_some_iff.1 hdi
    rw [c3] at he
    exact ⟨x, hx, by rw [sign_struct he]⟩
  obtain ⟨x0, e0, k0⟩ := hc 0 (by omega)
  obtain ⟨x1, e1, k1⟩ := hc 1 (by omega)
  obtain ⟨x2, e2, k2⟩ := hc 2 (by omega)
  obtain ⟨x3, e3, k3⟩ := hc 3 (by omega)
  obtain ⟨x4, e4, k4⟩ := hc 4 (by omega)
  clear hc hd hty hg
  unfold World.var? at hvar
  rw [show Tryd.prog.globalNamed "rubric/sniff.signs" = some 0 by kernel_rfl] at hvar
  simp only [Option.bind_some] at hvar
  split at hvar
  · rename_i cs' t fr hcells
    obtain rfl := Option.some.inj hvar
    refine ⟨t, fr, ?_⟩
    rw [hcells]
    have hcs : cs'.toList = signCells := by
      generalize cs'.toList = l at hlen k0 k1 k2 k3 k4
      match l, hlen with
      | [a0, a1, a2, a3, a4, a5, a6, a7, a8, a9, a10, a11, a12, a13, a14], _ =>
        simp [signL] at e0 e1 e2 e3 e4
        subst e0 e1 e2 e3 e4
        simp at k0 k1 k2 k3 k4
        simp [signCells, signL, k0, k1, k2, k3, k4]
    rw [← hcs]
  · simp at hvar

/-- The sign at a place. -/
theorem sign_at (k : Nat) (hk : k < 5) : ∃ S kd mk, signL[k]? = some (S, kd, mk) ∧ ∀ w, (Instr.index 57 (.agg signCells.toArray) (.int .i64 (k : Int))).run Tryd.prog w = .ok (.agg #[.string S, .int .i64 kd, .int .i64 mk]) w := by
  match k, hk with
  | 0, _ => exact ⟨_, _, _, rfl, fun _ => by kernel_rfl⟩
  | 1, _ => exact ⟨_, _, _, rfl, fun _ => by kernel_rfl⟩
  | 2, _ => exact ⟨_, _, _, rfl, fun _ => by kernel_rfl⟩
  | 3, _ => exact ⟨_, _, _, rfl, fun _ => by kernel_rfl⟩
  | 4, _ => exact ⟨_, _, _, rfl, fun _ => by kernel_rfl⟩

/-- Of which kind bytes are by a row of signs. -/
def kindFrom (zs : List Int) : List (ByteArray × Int × Int) → Int × Int
  | [] => (0, 0)
  | x :: r => if Lib.hasPrefix (Lib.bytesOf zs) x.1.data.toList = true then x.2 else kindFrom zs r
def kindOf (zs : List Int) : Int × Int := kindFrom zs signL

theorem below_bytesWorld (w : World) (e : TypeId) (s : ByteArray) : Below w.heap.size w (Lib.bytesWorld w e s) :=
  ⟨rfl, rfl, rfl, by rw [Lib.bytesWorld_size]; omega, fun k hk => Lib.bytesWorld_at_old w e s k hk⟩

theorem bytesIn_of {w : World} {a : Option Addr} {zs : List Int} {n : Nat} (hn : zs.length = n) (hat : AtCells w a (zs.map (Value.int .u8))) : Lib.BytesIn w a n zs := by
  intro h0
  obtain ⟨b, off, rfl, _⟩ := hat.int (k := 0) (by omega)
  refine ⟨b, off, rfl, fun i hi => ?_⟩
  obtain ⟨b', off', he, hc⟩ := hat.int (k := i) (by omega)
  simp only [Option.some.injEq, Addr.mk.injEq] at he
  obtain ⟨rfl, rfl, _⟩ := he
  exact hc

theorem prefix_call (a : Option Addr) (n cap : Nat) (zs : List Int) (S : ByteArray) (w : World) (g : Nat) (hg : g = w.heap.size) (hn : zs.length = n) (hc : n ≤ cap) (hat : AtCells w a (zs.map (Value.int .u8))) :
    Calls Tryd.prog 30 #[.slice a n cap, .slice (some ⟨g, 0, none⟩) S.size (grownCap w S.size 0 5)] (Lib.bytesWorld w 5 S) fun e w' => e = .returned (.bool (Lib.hasPrefix (Lib.bytesOf zs) S.data.toList)) ∧ Below w.heap.size w w' := by
  subst hg
  have hb := below_bytesWorld w 5 S
  have hy : (S.data.toList.map fun b => (b.toNat : Int)).length = S.size := by rw [List.length_map, Array.length_toList]; rfl
  refine (Tryd.bytes_HasPrefix_all a (some ⟨w.heap.size, 0, none⟩) n cap S.size _ zs (S.data.toList.map fun b => (b.toNat : Int)) _ hn hy hc (bytesIn_of hn (hat.below hb)) (fun h0 => ⟨_, _, rfl, fun i hi => ?_⟩)).mono ?_
  · rw [Nat.zero_add, Lib.bytesWorld_cell w _ S i hi]
    have hi' : i < S.data.toList.length := by rw [Array.length_toList]; exact hi
    have hs : S.data[i]? = some S.data.toList[i] := by rw [← Array.getElem?_toList, List.getElem?_eq_getElem hi']
    simp [hs]
  · rintro e w' ⟨rfl, rfl⟩
    refine ⟨?_, hb⟩
    have : Lib.bytesOf (S.data.toList.map fun b => (b.toNat : Int)) = S.data.toList := by
      unfold Lib.bytesOf
      rw [List.map_map]
      conv => rhs; rw [← List.map_id S.data.toList]
      apply List.map_congr_left
      intro b _
      simp
    rw [this]

end Go.Proofs.YtmibajofbagphaaDoor
