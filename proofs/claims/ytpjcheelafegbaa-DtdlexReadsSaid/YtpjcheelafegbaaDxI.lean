/-
  Contracts of layer 9: whether a row of signs has one; newSubset; what a subset holds.
-/
import Derived.Test.YtpjcheelafegbaaDxH
import Derived.Test.YtpjcheelafegbaaDxE
namespace Go.Proofs.Ytpjcheelafegbaa
open Go.RowKit
set_option linter.unusedVariables false

def IdxS (G : List ByteArray) (r : ByteArray) (i : Int) : Prop := 0 ≤ i ↔ r ∈ G

theorem AtCells.str {w : World} {a : Option Addr} {G : List ByteArray} (h : AtCells w a (G.map Value.string)) {k : Nat} (hk : k < G.length) :
    ∃ b off, a = some ⟨b, off, none⟩ ∧ w.cell? ⟨b, off + k, none⟩ = some (.string (G[k])) :=
  h k _ (by simp [hk])

set_option maxHeartbeats 1000000 in
theorem indexS_any (a : Option Addr) (m c : Nat) (G : List ByteArray) (r : ByteArray) (w : World) (hm : G.length = m) (hb : m ≤ 1000) (hat : AtCells w a (G.map Value.string)) :
    Calls Try.prog 104 #[.slice a m c, .string r] w fun e w' => (∃ i : Int, e = .returned (.int .i64 i) ∧ IdxS G r i) ∧ w' = w := by
  have HAT := Lib.hid hat
  have HM := Lib.hid hm
  clear hat hm
  go_enter Try.func104, Try.ntmps104
  go_wp2
  go_loop [5, 8] (fun _i i => ∃ j : Nat, j ≤ m ∧ i = .int .i64 j ∧ Hid (∀ x (h : x < G.length), x < j → G[x] ≠ r)) (fun _ i => m - (intOf i).toNat)
  case atStart => exact ⟨0, by omega, rfl, Lib.hid (fun x _ hx => by omega)⟩
  case round =>
    obtain ⟨j, hj, rfl, HJ⟩ := hrel
    by_cases hlt : j < m
    · obtain ⟨b', off', rfl, hc1⟩ := HAT.out.str (k := j) (by rw [HM.out]; exact hlt)
      obtain ⟨z, hz⟩ : ∃ z, z = G[j]'(by rw [HM.out]; exact hlt) := ⟨_, rfl⟩
      rw [← hz] at hc1
      by_cases he : r = z
      · have HV := Lib.hid (show r ∈ G by rw [he, hz]; exact List.getElem_mem _)
        subst he
        clear hz
        go_wp2
        go_ret
        exact ⟨⟨_, rfl, ⟨fun _ => HV.out, fun _ => by omega⟩⟩, rfl⟩
      · have HK := Lib.hid (show ∀ x (h : x < G.length), x < j + 1 → G[x] ≠ r from fun x h hx => by
          by_cases h' : x = j
          · subst h'; rw [← hz]; exact fun h => he h.symm
          · exact HJ.out x h (by omega))
        have hq : (r.toList == z.toList) = false := by
          cases hc : (r.toList == z.toList) with
          | false => rfl
          | true =>
            have := eq_of_beq hc
            rw [ByteArray.toList_eq, ByteArray.toList_eq] at this
            exact absurd (ByteArray.ext (Array.toList_inj.1 this)) he
        clear hz
        go_wp2
        go_round
        case rel => exact ⟨j + 1, by omega, by go_num, HK⟩
        case measure => simp [intOf]; omega
    · obtain rfl : j = m := by omega
      have HV := Lib.hid (show ¬ r ∈ G from (fun h => by
        obtain ⟨x, hx, e⟩ := List.getElem_of_mem h
        exact HJ.out x hx (by rw [HM.out] at hx; exact hx) e))
      clear hj hlt
      go_wp2
      go_ret
      exact ⟨⟨_, rfl, ⟨fun h => by omega, fun h => absurd h HV.out⟩⟩, rfl⟩

set_option maxHeartbeats 400000 in
theorem containsS_at {a : Option Addr} {m c : Nat} {G : List ByteArray} {r : ByteArray} {v : Bool} (hv : v = true ↔ r ∈ G) (w : World) (hm : G.length = m) (hb : m ≤ 1000) (hat : AtCells w a (G.map Value.string)) :
    Calls Try.prog 101 #[.slice a m c, .string r] w fun e w' => e = .returned (.bool v) ∧ w' = w := by
  have HI := Lib.hid (indexS_any a m c G r w hm hb hat)
  have HV := Lib.hid hv
  clear hv hat hm
  go_enter Try.func101, Try.ntmps101
  go_wp2_with (go_at_call 104; (with_reducible refine HI.out.mono ?_); rintro e w1 ⟨⟨i, rfl, hi⟩, rfl⟩; have HX := Lib.hid hi; clear hi)
  go_ret
  have h := HX.out
  unfold IdxS at h
  refine ⟨?_, rfl⟩
  cases v with
  | true => have := h.2 (HV.out.1 rfl); simp [this]
  | false => have : ¬ 0 ≤ i := fun hc => absurd (HV.out.2 (h.1 hc)) (by decide); simp [this]

theorem Try.infoStrD : (Try.prog.info? 9).map (fun i => (i.zero, i.size, i.bytes)) = some (some (.string ⟨#[]⟩), 1, 16) := by kernel_rfl

/-- How far behind a place a sign is looked for. -/
def offS (s : ByteArray) : Nat := if s.size = 3 then 4 else 2

/-- What a subset's block holds: the row, what declEnds told, the signs that are gone. -/
structure Sub (A0 : Nat) (w : World) (p : Nat) (a : Option Addr) (n cap : Nat) (l : List Int) (k : Nat) (gv : Value) (G : List ByteArray) : Prop where
  len : l.length = n
  le : n ≤ cap
  max : cap ≤ maxLen
  cells : AtB w p a (l.map (.int .i32))
  lt : p < A0
  ends : ∃ ga, ga < p ∧ w.cell? ⟨p, 1, none⟩ = some (.slice (some ⟨ga, 0, none⟩) (n + 1) (n + 1)) ∧ ∀ j, j < n + 1 → w.cell? ⟨ga, j, none⟩ = some (.int .i64 (nd 0 l j))
  c0 : w.cell? ⟨p, 0, none⟩ = some (.slice a n cap)
  c2 : w.cell? ⟨p, 2, none⟩ = some gv
  fz : ∀ i, w.frozen? ⟨p, i, none⟩ = false
  size : A0 ≤ w.heap.size
  gone : w.ownsRow A0 9 1 gv G.length (G.map Value.string)
  few : G.length ≤ 2
  none_ : ∀ s ∈ G, fnd (sg s) (l.drop (k + offS s)) = none
  signs : G.Nodup ∧ ∀ s ∈ G, s = ⟨#[45, 45, 62]⟩ ∨ s = ⟨#[63, 62]⟩

theorem fnd_mono {a l : List Int} {k k' : Nat} (h : fnd a (l.drop k) = none) (hk : k ≤ k') (ha : 0 < a.length) : fnd a (l.drop k') = none := by
  refine fnd_none a ha _ (fun j hj => ?_)
  cases hs : sw a ((l.drop k').drop j) with
  | false => rfl
  | true =>
    rw [dd] at hs
    exfalso
    have hx : ∀ j, j + a.length ≤ (l.drop k).length → sw a ((l.drop k).drop j) = false := by
      intro i hi
      cases hsi : sw a ((l.drop k).drop i) with
      | false => rfl
      | true =>
        exfalso
        -- the first place at which it stands
        have : ∀ m, (∃ j, j ≤ m ∧ sw a ((l.drop k).drop j) = true) → ∃ j, sw a ((l.drop k).drop j) = true ∧ ∀ x, x < j → sw a ((l.drop k).drop x) = false := by
          intro m
          induction m with
          | zero => rintro ⟨j, hj, hs⟩; obtain rfl : j = 0 := (by omega); exact ⟨0, hs, fun x hx => by omega⟩
          | succ m ih =>
            rintro ⟨j, hj, hs⟩
            by_cases he : ∃ j, j ≤ m ∧ sw a ((l.drop k).drop j) = true
            · exact ih he
            · refine ⟨j, hs, fun x hx => ?_⟩
              cases hq : sw a ((l.drop k).drop x) with
              | false => rfl
              | true => exact absurd ⟨x, by omega, hq⟩ he
        obtain ⟨j0, h1, h2⟩ := this i ⟨i, Nat.le_refl _, hsi⟩
        rw [fnd_some a ha _ j0 h2 h1] at h
        cases h
    have hl := sw_length hs
    have := hx (k' + j - k) (by rw [dropl] at hl ⊢; omega)
    rw [dd, show k + (k' + j - k) = k' + j by omega, hs] at this
    cases this
theorem Sub.on {A0 : Nat} {w : World} {p : Nat} {a : Option Addr} {n cap : Nat} {l : List Int} {k k' : Nat} {gv : Value} {G : List ByteArray} (h : Sub A0 w p a n cap l k gv G) (hk : k ≤ k') : Sub A0 w p a n cap l k' gv G :=
  ⟨h.len, h.le, h.max, h.cells, h.lt, h.ends, h.c0, h.c2, h.fz, h.size, h.gone, h.few, fun s hs => fnd_mono (h.none_ s hs) (by omega) (by
    rcases h.signs.2 s hs with rfl | rfl <;> decide), h.signs⟩
/-- A subset that stands, where the blocks ahead of it, its own and its signs' are as they were. -/
theorem Sub.same {A0 : Nat} {w w' : World} {p : Nat} {a : Option Addr} {n cap : Nat} {l : List Int} {k : Nat} {gv : Value} {G : List ByteArray} (h : Sub A0 w p a n cap l k gv G) (hs : w.heap.size ≤ w'.heap.size) (hb : ∀ b, b < A0 → w'.heap[b]? = w.heap[b]?) (hg : ∀ x, gv.ownBlock = some x → w'.heap[x]? = w.heap[x]?) : Sub A0 w' p a n cap l k gv G := by
  have hlt := h.lt
  obtain ⟨ga, g1, g2, g3⟩ := h.ends
  have c : ∀ b i, b < A0 → w'.cell? ⟨b, i, none⟩ = w.cell? ⟨b, i, none⟩ := fun b i hlt => World.cell?_of_block (hb b hlt)
  exact ⟨h.len, h.le, h.max, fun j u hj => by obtain ⟨b, off, ha, hl, hc⟩ := h.cells j u hj; exact ⟨b, off, ha, hl, by rw [c _ _ (by omega)]; exact hc⟩, hlt,
    ⟨ga, g1, by rw [c _ _ hlt]; exact g2, fun j hj => by rw [c _ _ (by omega)]; exact g3 j hj⟩, by rw [c _ _ hlt]; exact h.c0, by rw [c _ _ hlt]; exact h.c2,
    fun i => (World.frozen?_of_block (hb p hlt)).trans (h.fz i), Nat.le_trans h.size hs, owns_same h.gone hg, h.few, h.none_, h.signs⟩
theorem Sub.row {A0 : Nat} {w : World} {p : Nat} {a : Option Addr} {n cap : Nat} {l : List Int} {k : Nat} {gv : Value} {G : List ByteArray} (h : Sub A0 w p a n cap l k gv G) : NRow w a n cap l := ⟨h.len, h.le, h.max, h.cells.at_⟩
theorem Sub.below {A0 : Nat} {w w' : World} {p : Nat} {a : Option Addr} {n cap : Nat} {l : List Int} {k : Nat} {gv : Value} {G : List ByteArray} (h : Sub A0 w p a n cap l k gv G) (hb : Below w.heap.size w w') : Sub A0 w' p a n cap l k gv G :=
  h.same hb.size (fun b hlt => hb.block b (Nat.lt_of_lt_of_le hlt h.size)) (fun x hx => hb.block x (h.gone.lt x hx).2)

set_option maxHeartbeats 1000000 in
theorem newSubset_any {a : Option Addr} {n cap : Nat} {l : List Int} {w : World} (R : NRow w a n cap l) (hn : n ≤ 1000) :
    Calls Try.prog 67 #[.slice a n cap] w fun e w' => (∃ p, e = .returned (.pointer (some ⟨p, 0, none⟩)) ∧ w.heap.size ≤ p ∧ Sub (p + 1) w' p a n cap l 0 (.slice none 0 0) [] ∧ w'.heap.size = p + 1) ∧ Below w.heap.size w w' := by
  have HD := Lib.hid (declEnds_any (cap := cap) R.len hn R.cells)
  have HR := Lib.hid R
  clear R
  go_enter Try.func67, Try.ntmps67
  go_wp2_with (go_at_call 85; (with_reducible refine HD.out.mono ?_); rintro e w1 ⟨⟨ga, rfl, hga, hcs⟩, hb1⟩; have HC := Lib.hid hcs; clear hcs)
  go_ret
  have hlt : ga < w1.heap.size := cell_lt (HC.out 0 (by omega))
  have hs := hb1.size
  have hal := hb1.alloc hs (.cells #[.slice a n cap, .slice (some ⟨ga, 0, none⟩) (n + 1) (n + 1), .slice none 0 0] 113)
  refine ⟨⟨w1.heap.size, rfl, hs, ⟨HR.out.len, HR.out.le, HR.out.max, fun j u hj => ?_, by omega, ⟨ga, hlt, by simp, fun j hj => kp_alloc _ (HC.out j hj)⟩, by simp, by simp, fun i => by simp [go_sem], by simp, World.ownsRow_nil _ _ _ _, by simp, fun s hs => by simp at hs, ⟨List.nodup_nil, fun s hs => by simp at hs⟩⟩, by simp⟩, hal⟩
  obtain ⟨b, off, ha, hc⟩ := HR.out.cells j u hj
  have hbl := cell_lt hc
  exact ⟨b, off, ha, by omega, kp_alloc _ ((hb1.cell (p := ⟨b, off + j, none⟩) hbl).trans hc)⟩

end Go.Proofs.Ytpjcheelafegbaa
