/-
  SniffEncodes: for every kind and all runes it returns true.
-/
import Derived.Test.YtmibajofbagphaaDoorSnE
import Derived.Test.YtmibajofbagphaaDoorCut3
import Derived.Deep.RegionWith
import Derived.BigQuiet
namespace Go.Proofs.YtmibajofbagphaaDoor
open Go.RowKit

/-- Bytes that were just answered, and what they are as a string, whatever is made behind them. -/
def OwnStr (w0 w : World) (S : ByteArray) (e : Ending) (w' : World) : Prop :=
  ∃ a n c, e = .returned (.slice a n c) ∧ (∀ wx, Below w'.heap.size w' wx → Sem.run Tryd.prog (convert 22 9 (.slice a n c)) wx = .ok (.string S) wx) ∧ Below w0.heap.size w0 w' ∧ Below w.heap.size w w'

theorem ownStr_of {w0 w w' : World} {xs : List Int} {e : Ending} (hw : Below w0.heap.size w0 w) (h : OwnBytes w xs e w') : OwnStr w0 w (strOfNums xs) e w' := by
  obtain ⟨v, rfl, hown, hb⟩ := h
  obtain ⟨a, c, rfl, _⟩ := owns_slice hown
  exact ⟨a, _, c, rfl, fun wx hx => run_str wx _ _ _ Tryd.underlying22 Tryd.underlying5 Tryd.underlying9 a _ c _ rfl ((AtCells.of_owns hown).below hx), hw.trans (hb.mono hw.size), hb⟩

set_option maxRecDepth 100000 in
set_option maxHeartbeats 8000000 in
theorem sniffEncodes_walk (kd : Int) (a : Option Addr) (n cap : Nat) (zs : List Int) (w : World) (hs : Signs w) (hn : zs.length = n) (hc : n ≤ cap) (hm : cap ≤ maxLen) (hz : Runes zs) (hat : AtCells w a (zs.map (.int .i32))) :
    Calls Tryd.prog 4 #[.int .i64 kd, .slice a n cap] w fun e w' => e = .returned (.bool true) ∧ Below w.heap.size w w' := by
  obtain ⟨m, hmm⟩ : ∃ m, m = min n 60 := ⟨_, rfl⟩
  have hm60 : m ≤ 60 := by omega
  have hat' := hat.take m
  rw [← List.map_take] at hat'
  have hz' : Runes (zs.take m) := fun z h => hz z (List.mem_of_mem_take h)
  have hn' : (zs.take m).length = m := by simp; omega
  generalize zs.take m = ys at hat' hz' hn'
  obtain ⟨S, hS⟩ : ∃ S, S = strOfNums (encsOf kd ys) := ⟨_, rfl⟩
  have HF := Lib.hid (fun wx => few_any a n cap wx hc hm)
  rw [← hmm] at HF
  have HE := Lib.hid (show ∀ wx, Below w.heap.size w wx → Calls Tryd.prog 16 #[.int .i64 kd, .slice a m cap] wx (OwnStr w wx S) from fun wx hx => by
    rw [hS]; exact (encode_any kd a m cap ys wx hn' (by omega) hz' (hat'.below hx)).mono fun _ _ h => ownStr_of hx h)
  have HR := Lib.hid (show ∀ wx, Below w.heap.size w wx → Calls Tryd.prog 18 #[.int .i64 kd, .slice a m cap] wx (OwnStr w wx S) from fun wx hx => by
    rw [hS]; exact (refEncode_any kd a m cap ys wx hn' (by omega) (hat'.below hx)).mono fun _ _ h => ownStr_of hx h)
  have HAW := Lib.hid (show ∀ wx, Below w.heap.size w wx → Calls Tryd.prog 15 #[] wx fun e w' => e = .returned (.bool true) ∧ Below w.heap.size w w' from fun wx hx => (sawake_at hs hx).mono fun _ _ h => ⟨h.1, hx.trans (h.2.mono hx.size)⟩)
  clear hat' hz' hn' hat hz hn hmm hm hc hS hs hm60
  have hbd : Below w.heap.size w w.drew := (Below.refl w.heap.size w).drew
  go_enter Tryd.func4, Tryd.ntmps4
  go_wp2_with fail
  go_region_with (first
    | (go_at_call 17; refine (HF.out _).mono ?_; rintro e w' ⟨rfl, rfl⟩)
    | (go_at_call 16; refine (HE.out _ (by assumption)).mono ?_; rintro e w1 ⟨a1, n1, c1, rfl, hcv1, hbw1, hb1⟩; have hr1 := Below.refl w1.heap.size w1)
    | (go_at_call 18; refine (HR.out _ (by assumption)).mono ?_; rintro e w2 ⟨a2, n2, c2, rfl, hcv2, hbw2, hb2⟩; have hr2 := Below.refl w2.heap.size w2)
    | (go_at_call 15; refine (HAW.out _ (by assumption)).mono ?_; rintro e w3 ⟨rfl, hb3⟩))
  all_goals
    go_wp2
    go_ret
    exact ⟨rfl, hb3⟩

end Go.Proofs.YtmibajofbagphaaDoor
