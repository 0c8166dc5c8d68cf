/-
  Contract of layer 5: the runes that the program goes by.
-/
import Derived.Test.YtlkcnfkfccfhmaaDoorNmA
import Derived.Test.YtlkcnfkfccfhmaaDoorValC
namespace Go.Proofs.YtlkcnfkfccfhmaaDoor
open Go.RowKit
set_option linter.unusedVariables false

/-- What a call answers that answers a row of runes. -/
def RowOf (w : World) (l : List Int) (e : Ending) (w' : World) : Prop :=
  ∃ a cap, e = .returned (.slice a l.length cap) ∧ l.length ≤ cap ∧ cap ≤ maxLen ∧ AtCells w' a (l.map (.int .i32)) ∧ Below w.heap.size w w'

theorem runes_run (s : ByteArray) (hg : goodS s = true) (hs : s.size ≤ 200) (wx : World) :
    ∃ cap C, Sem.run Tryd.prog (convert 9 29 (.string s)) wx = .ok (.slice (some ⟨wx.heap.size, 0, none⟩) (runesS s).length cap) (wx.drew.alloc (.cells C 21)) ∧ (runesS s).length ≤ cap ∧ cap ≤ maxLen ∧
      AtCells (wx.drew.alloc (.cells C 21)) (some ⟨wx.heap.size, 0, none⟩) ((runesS s).map (.int .i32)) := by
  have he := runes_eq hg
  have hl : (Conv.runesFrom s s.size 0 #[]).size = (runesS s).length := by
    have := congrArg List.length he
    rwa [Array.length_toList, List.length_map] at this
  have hle := runesS_length s
  have h := run_runes_of_string (P := Tryd.prog) wx 9 29 21 s Tryd.underlying9 Tryd.underlying29 Tryd.underlying21 (by rw [hl]; omega)
  rw [hl] at h
  refine ⟨_, _, h, grownCap_ge _ _ _ _, grownCap_le_maxLen _ _ _ _ (by unfold maxLen; omega), ?_⟩
  intro j u hj
  refine ⟨wx.heap.size, 0, rfl, ?_⟩
  have hh : ∀ C : Array Value, (wx.drew.alloc (.cells C 21)).heap[wx.heap.size]? = some (.cells C 21) := fun C => by
    have h2 : wx.drew.heap.size = wx.heap.size := rfl
    show (wx.drew.heap.push _)[wx.heap.size]? = _
    rw [← h2, Array.getElem?_push_size]
  unfold World.cell?
  simp only [hh, Nat.zero_add]
  have hj2 : j < (Conv.runesFrom s s.size 0 #[]).size := by
    have := (List.getElem?_eq_some_iff.1 hj).1
    rw [List.length_map] at this
    omega
  rw [Array.getElem?_append_left hj2, ← Array.getElem?_toList, he]
  exact hj

set_option maxHeartbeats 1000000 in
theorem row_any (s : ByteArray) (w : World) (hT : Tabs w) (hs : s.size ≤ 200) :
    Calls Tryd.prog 24 #[.string s] w (RowOf w (rowL s)) := by
  have hcv := Lib.run_convert_string_bytes (P := Tryd.prog) w 9 42 5 s Tryd.underlying9 Tryd.underlying42 Tryd.underlying5
  have hb := bel_bytesWorld w 5 s
  obtain ⟨W, hW⟩ : ∃ W, W = Lib.bytesWorld w 5 s := ⟨_, rfl⟩
  have hat := bytes_at w 5 s
  rw [← hW] at hcv hb hat
  have hc1 := grownCap_ge w s.size 0 5
  have hc2 := grownCap_le_maxLen w s.size 0 5 (by unfold maxLen; omega)
  obtain ⟨cp, hcp⟩ : ∃ cp, cp = grownCap w s.size 0 5 := ⟨_, rfl⟩
  rw [← hcp] at hcv hc1 hc2
  have HV := Lib.hid (valid_any (some ⟨w.heap.size, 0, none⟩) s.size cp (numsOf s) W (tabs_below hT (hb.mono (Nat.le_refl _))) (numsOf_length s) hc1 hc2 (numsOf_bys s) hat)
  rw [numsOf_str] at HV
  have HB := Lib.hid hb
  clear hcp hat hW hb hT
  cases hg : goodS s
  · have HR := Lib.hid (show rowL s = [] by unfold rowL; rw [if_neg (by simp [hg])])
    have hg' : (itemsOf s).all isGood = false := hg
    rw [hg'] at HV
    clear hg hg'
    go_enter Tryd.func24, Tryd.ntmps24
    go_wp2_with (go_at_call 37; (with_reducible refine HV.out.mono ?_); rintro e w1 ⟨rfl, hb1⟩)
    go_ret
    rw [HR.out]
    exact ⟨none, 0, rfl, Nat.le_refl _, Nat.zero_le _, AtCells.nil _ _, HB.out.trans (hb1.mono HB.out.size)⟩
  · have HR := Lib.hid (show rowL s = runesS s by unfold rowL; rw [if_pos hg])
    have HRR := Lib.hid (runes_run s hg hs)
    have hg' : (itemsOf s).all isGood = true := hg
    rw [hg'] at HV
    clear hg hg'
    go_enter Tryd.func24, Tryd.ntmps24
    go_wp2_with (go_at_call 37; (with_reducible refine HV.out.mono ?_); rintro e w1 ⟨rfl, hb1⟩; obtain ⟨cap, C, hr, hle, hmx, hcells⟩ := HRR.out w1; have HX := Lib.hid (And.intro hle (And.intro hmx hcells)); clear hle hmx hcells)
    go_ret
    rw [HR.out]
    exact ⟨_, _, rfl, HX.out.1, HX.out.2.1, HX.out.2.2, HB.out.trans ((hb1.drew.alloc hb1.size _).mono HB.out.size)⟩

end Go.Proofs.YtlkcnfkfccfhmaaDoor
