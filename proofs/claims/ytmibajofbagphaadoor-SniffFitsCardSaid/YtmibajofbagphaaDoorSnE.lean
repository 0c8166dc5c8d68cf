/-
  The example of chapter 3, as the statements ask it: awake.
-/
import Derived.Test.YtmibajofbagphaaDoorSnC
import Derived.Laws.Cover4
namespace Go.Proofs.YtmibajofbagphaaDoor
open Go.RowKit

theorem ex_kind : kindOf [255, 254, 65, 0] = (2, 2) := by decide +kernel
theorem ex_runes : runesOf [255, 254, 65, 0] = [65] := by decide +kernel
theorem ex_offs : offsOf [255, 254, 65, 0] = [2, 4] := by decide +kernel

theorem run_runes {P : Program} (w : World) (src e dst : TypeId) (hs : P.underlying src = some (.slice e)) (he : P.underlying e = some (.int .i32)) (hd : P.underlying dst = some .string)
    (a : Option Addr) (n cap : Nat) (zs : List Int) (hn : zs.length = n) (hat : AtCells w a (zs.map (Value.int .i32))) (h0 : 0 < n) :
    Sem.run P (convert src dst (.slice a n cap)) w = .ok (.string (runesBytes zs)) w := by
  obtain ⟨b, off, rfl, _⟩ := hat.int (k := 0) (by omega)
  have := run_convert_runes w src dst e ⟨b, off, none⟩ n cap zs (by omega) hs he hd (fun j hj => by
    obtain ⟨b', off', hb, hc⟩ := hat.int (k := j) hj
    simp only [Option.some.injEq, Addr.mk.injEq] at hb
    obtain ⟨rfl, rfl, _⟩ := hb
    by_cases hz : j = 0
    · subst hz; simpa [Addr.add] using hc
    · simpa [Addr.add, hz] using hc)
  rw [this, List.take_of_length_le (by omega)]

/-- The example's text, just answered. -/
def ExText (w : World) (e : Ending) (w' : World) : Prop :=
  ∃ r c g2 c2, e = .returned (.agg #[.int .i64 2, .int .i64 2, .slice r 1 c, .slice (some ⟨g2, 0, none⟩) 2 c2]) ∧
    (∀ wx, Below w'.heap.size w' wx → Sem.run Tryd.prog (convert 24 9 (.slice r 1 c)) wx = .ok (.string ⟨#[65]⟩) wx) ∧
    g2 < w'.heap.size ∧ w'.cell? ⟨g2, 0, none⟩ = some (.int .i64 2) ∧ w'.cell? ⟨g2, 1, none⟩ = some (.int .i64 4) ∧ Below w.heap.size w w'

theorem ex_call (w : World) (hs : Signs w) :
    Calls Tryd.prog 12 #[.slice (some ⟨w.heap.size, 0, none⟩) 4 4] (w.alloc (.cells #[.int .u8 255, .int .u8 254, .int .u8 65, .int .u8 0] 5)) (ExText w) := by
  have hb : Below w.heap.size w (w.alloc (.cells #[.int .u8 255, .int .u8 254, .int .u8 65, .int .u8 0] 5)) := (Below.refl _ _).alloc (Nat.le_refl _) _
  have HC : AtCells (w.alloc (.cells #[.int .u8 255, .int .u8 254, .int .u8 65, .int .u8 0] 5)) (some ⟨w.heap.size, 0, none⟩) ([255, 254, 65, 0].map (Value.int .u8)) :=
    AtCells.of_owns (World.ownsRow_lit (base := w.heap.size) (e := 5) (size := 1) w #[.int .u8 255, .int .u8 254, .int .u8 65, .int .u8 0] 4 (Nat.le_refl _) (by unfold maxLen; omega) rfl)
  have := decode_any (some ⟨w.heap.size, 0, none⟩) 4 4 [255, 254, 65, 0] _ (hs.below hb) rfl (Nat.le_refl _) (by unfold maxLen; omega) (by omega) (by intro z hz; simp at hz; omega) HC
  rw [ex_kind, ex_runes, ex_offs] at this
  refine this.mono ?_
  rintro e w' ⟨r, o, rfl, hr, ho, hb'⟩
  obtain ⟨a, c, rfl, _⟩ := owns_slice hr
  obtain ⟨a2, c2, rfl, _⟩ := owns_slice ho
  have hat := AtCells.of_owns ho
  have har := AtCells.of_owns hr
  obtain ⟨g, off, rfl, h0⟩ := hat 0 (.int .i64 2) rfl
  obtain ⟨_, _, he, h1⟩ := hat 1 (.int .i64 4) rfl
  simp only [Option.some.injEq, Addr.mk.injEq] at he
  obtain ⟨rfl, rfl, _⟩ := he
  have hg : off = 0 := by
    obtain ⟨_, ⟨h1, _⟩ | ⟨g', c, cur, h1, _⟩⟩ := ho
    · simp at h1
    · simp at h1; omega
  subst hg
  refine ⟨a, c, g, c2, rfl, fun wx hx => ?_, cell_lt h0, by simpa using h0, by simpa using h1, hb.trans (hb'.mono (by simp))⟩
  have := run_runes (P := Tryd.prog) wx 24 21 9 Tryd.underlying24 Tryd.underlying21 Tryd.underlying9 a 1 c [65] rfl (har.below hx) (by omega)
  rw [show runesBytes [65] = ⟨#[65]⟩ by decide +kernel] at this
  exact this

set_option maxRecDepth 100000 in
set_option maxHeartbeats 1000000 in
theorem sawake_any (w : World) (hs : Signs w) :
    Calls Tryd.prog 15 #[] w fun e w' => e = .returned (.bool true) ∧ Below w.heap.size w w' := by
  have H := Lib.hid (ex_call w hs)
  clear hs
  go_enter Tryd.func15, Tryd.ntmps15
  go_wp2_with fail
  refine H.out.mono ?_
  rintro e w1 ⟨r, c, g2, c2, rfl, hcv, hg, c0, c1, hb⟩
  have hcv' := hcv _ ((Below.refl w1.heap.size w1).alloc (Nat.le_refl _) (.cells #[.int .i64 2, .int .i64 2, .slice r 1 c, .slice (some ⟨g2, 0, none⟩) 2 c2] 27))
  have d0 := (((Below.refl w1.heap.size w1).alloc (Nat.le_refl _) (.cells #[.int .i64 2, .int .i64 2, .slice r 1 c, .slice (some ⟨g2, 0, none⟩) 2 c2] 27)).cell (p := ⟨g2, 0, none⟩) hg).trans c0
  have d1 := (((Below.refl w1.heap.size w1).alloc (Nat.le_refl _) (.cells #[.int .i64 2, .int .i64 2, .slice r 1 c, .slice (some ⟨g2, 0, none⟩) 2 c2] 27)).cell (p := ⟨g2, 1, none⟩) hg).trans c1
  clear hcv hg c0 c1
  go_wp2
  go_ret
  exact ⟨rfl, hb.alloc hb.size _⟩

theorem sawake_at {w W : World} (hs : Signs w) (hb : Below w.heap.size w W) :
    Calls Tryd.prog 15 #[] W fun e w' => e = .returned (.bool true) ∧ Below W.heap.size W w' := sawake_any W (hs.below hb)

end Go.Proofs.YtmibajofbagphaaDoor
