/-
  refs: Put.
-/
import Derived.Test.YtbljgoieieoamaaRfE
import Derived.Lib.RuneCount
import Derived.Lib.OthersKept
import Derived.OwnWalk
namespace Go.Proofs.Ytbljgoieieoamaa
open Go.RowKit
set_option linter.unusedVariables false

def insR (l : List Int) (q : Int) (i : Nat) : List Int := if insS l i q = zNo then [l.getD i 0] else sg (insS l i q)
def putT (l : List Int) (q : Int) (k : Nat) : List Int := (List.range k).flatMap (insR l q)
def putP (l : List Int) (q : Int) : List Int := putT l q l.length
theorem putT_succ (l : List Int) (q : Int) (k : Nat) : putT l q (k + 1) = putT l q k ++ insR l q k := by
  unfold putT; rw [List.range_succ, List.flatMap_append]; simp

/-- Bytes that are runes below 128. -/
def Asc (s : ByteArray) : Prop := ∀ p, p < s.size → 0 ≤ (sg s).getD p 0 ∧ Utf8.decode s p = (((sg s).getD p 0).toNat, 1)
theorem asc_all : (Asc zAmp ∧ Asc zLt ∧ Asc zGt ∧ Asc zCr) ∧ (Asc zTab ∧ Asc zLf ∧ Asc zQuot ∧ Asc zApos) := by
  unfold Asc
  decide +kernel
theorem quotS_asc (r q : Int) : quotS r q = zNo ∨ (0 < (quotS r q).size ∧ (quotS r q).size ≤ 6 ∧ Asc (quotS r q)) := by
  obtain ⟨⟨a1, a2, a3, a4⟩, a5, a6, a7, a8⟩ := asc_all
  unfold quotS
  split
  · exact .inl rfl
  split
  · exact .inr ⟨by decide, by decide, a5⟩
  split
  · exact .inr ⟨by decide, by decide, a6⟩
  split
  · exact .inl rfl
  split
  · exact .inr ⟨by decide, by decide, a7⟩
  · exact .inr ⟨by decide, by decide, a8⟩
theorem insS_asc (l : List Int) (i : Nat) (q : Int) : insS l i q = zNo ∨ (0 < (insS l i q).size ∧ (insS l i q).size ≤ 6 ∧ Asc (insS l i q)) := by
  obtain ⟨⟨a1, a2, a3, a4⟩, a5, a6, a7, a8⟩ := asc_all
  unfold insS
  split
  · exact .inr ⟨by decide, by decide, a1⟩
  split
  · exact .inr ⟨by decide, by decide, a2⟩
  split
  · split
    · exact .inr ⟨by decide, by decide, a3⟩
    · exact .inl rfl
  split
  · exact .inr ⟨by decide, by decide, a4⟩
  split
  · exact quotS_asc _ _
  · exact .inl rfl
theorem insR_len (l : List Int) (q : Int) (i : Nat) : 0 < (insR l q i).length ∧ (insR l q i).length ≤ 6 := by
  unfold insR
  split
  · simp
  · rename_i h
    rcases insS_asc l i q with h1 | ⟨h1, h2, _⟩
    · exact absurd h1 h
    · rw [sg_length]; exact ⟨h1, h2⟩
theorem putT_len (l : List Int) (q : Int) : ∀ k, (putT l q k).length ≤ 6 * k
  | 0 => by simp [putT]
  | k + 1 => by
    have h1 := putT_len l q k
    have h2 := insR_len l q k
    rw [putT_succ, List.length_append]; omega

theorem Try.infoI32 : (Try.prog.info? 21).map (fun i => (i.zero, i.size, i.bytes)) = some (some (.int .i32 0), 1, 4) := by kernel_rfl
theorem iterPos_of {w : World} {k p : Nat} {s : ByteArray} (h : w.heap[k]? = some (.stringIter s p)) : w.iterPos k = p := by simp [World.iterPos, h]
theorem runes_more {A L : List Int} {p : Nat} (hp : p < L.length) (h0 : 0 ≤ L.getD p 0) : (A ++ L.take p).map (Value.int .i32) ++ [Value.int .i32 ((L.getD p 0).toNat : Nat)] = (A ++ L.take (p + 1)).map (Value.int .i32) := by
  have h : ((L.getD p 0).toNat : Int) = L.getD p 0 := by omega
  rw [h, List.take_succ_eq_append_getElem hp, ← List.append_assoc, List.map_append (l₁ := A ++ L.take p), List.getD_eq_getElem?_getD, List.getElem?_eq_getElem hp]
  rfl
/-- What a call that answers runes answers. -/
def OwnRunes (w : World) (l : List Int) (e : Ending) (w' : World) : Prop := ∃ v, e = .returned v ∧ w'.ownsRow w.heap.size 21 1 v l.length (l.map (Value.int .i32)) ∧ Below w.heap.size w w'

theorem ba_toList (s : ByteArray) : s.toList = s.data.toList := ByteArray.toList_eq s

set_option maxRecDepth 20000 in
set_option maxHeartbeats 4000000 in
theorem put_some {b off n cap : Nat} {l : List Int} {w : World} (R : RRow w b off n cap l) (hn : n ≤ 1000) (q : Int) :
    Calls Try.prog 28 #[.slice (some ⟨b, off, none⟩) n cap, .int .i32 q] w (OwnRunes w (putP l q)) := by
  obtain ⟨i0, hi, hz0, hz1, hz2⟩ := info_parts Try.infoI32
  have HI := Lib.hid (And.intro hi (And.intro hz0 (And.intro hz1 hz2)))
  have HL := Lib.hid R.len
  have HR := Lib.hid R
  have HM0 := Lib.hid (And.intro (show i0.bytes * n ≤ 281474976710656 by rw [hz2]; omega) (show n ≤ maxLen by unfold maxLen; omega))
  clear hi hz0 hz1 hz2 R
  go_enter Try.func28, Try.ntmps28
  go_wp2_with (at_make; refine wpList_make_own _ rfl _ _ 43 rfl w.heap.size 21 i0 (.int .i32 0) 1 Try.underlying43 HI.out.1 HI.out.2.1 HI.out.2.2.1 .i64 .i64 n n rfl rfl rfl HM0.out.1 HM0.out.2 (Nat.le_refl _) ?_; intro w1 hown1 hgrow1)
  have HO1 := Lib.hid (And.intro hown1 (show Below w.heap.size w w1 from (Below.refl _ _).grown hgrow1 (Nat.le_refl _) (fun k hk => by cases hk)))
  clear hown1 hgrow1
  go_loopw [5, 16] (fun v iv wr => ∃ (k : Nat) (v' : Value), iv = .int .i64 k ∧ v' = v ∧ k ≤ n ∧ Hid (wr.ownsRow w.heap.size 21 1 v' (putT l q k).length ((putT l q k).map (Value.int .i32)) ∧ Below w.heap.size w wr)) (fun _ iv _ => n - (intOf iv).toNat)
  case atStart => exact ⟨0, _, rfl, rfl, Nat.zero_le _, Lib.hid ⟨by simpa [putT] using HO1.out.1, HO1.out.2⟩⟩
  case round =>
    obtain ⟨k, v0, rfl, rfl, hk, HO⟩ := hrel
    by_cases hlt : k < n
    · have hc0 := (HR.out.cells.below HO.out.2).int (k := k) (by rw [HL.out]; exact hlt)
      obtain ⟨_, _, he, hc⟩ := hc0
      cases he
      obtain ⟨z, hz⟩ : ∃ z, z = l.getD k 0 := ⟨_, rfl⟩
      rw [← hz] at hc
      obtain ⟨s, hs⟩ : ∃ s, insS l k q = s := ⟨_, rfl⟩
      have HIN := Lib.hid (fun (W : World) hb => instead_any (HR.out.below (w' := W) hb) k hlt q hs W (Below.refl _ _))
      have hcs := insS_asc l k q
      have hml := putT_len l q k
      have hsucc := putT_succ l q k
      unfold insR at hsucc
      rw [hs] at hcs hsucc
      rw [← hz] at hsucc
      obtain ⟨A, hA⟩ : ∃ A, A = putT l q k := ⟨_, rfl⟩
      obtain ⟨m, hm⟩ : ∃ m, m = A.length := ⟨_, rfl⟩
      rw [← hA, ← hm] at HO
      rw [← hA] at hml hsucc
      rw [← hm] at hml
      have HML := Lib.hid hm
      have hkz : (k : Int) < (n : Int) := by omega
      have hkw : IntKind.i64.wrap ((k : Int) + 1) = (k : Int) + 1 := by rw [IntKind.wrap_i64]; omega
      clear hs hz hA hm
      rcases hcs with rfl | ⟨hs1, hs2, has⟩
      · rw [if_pos rfl] at hsucc
        have HSU := Lib.hid hsucc
        clear hsucc
        go_wp2_with (first
          | (at_builtin; refine wpList_append_own _ rfl _ _ 43 rfl w.heap.size 21 i0 _ 1 4 Try.underlying43 HI.out.1 HI.out.2.1 HI.out.2.2.1 HI.out.2.2.2 rfl (by decide) _ _ _ rfl (HW3.out.1.alloc _) _ _ _ [.int .i32 z] rfl rfl (new_cells _ _ _) (by simp [Value.oneCell']) (by unfold maxLen; omega) (by omega) (Nat.le_trans HW3.out.2.size (one_ok w3 _).size) ?_; intro v' w4 hown' hg' _; have HF := Lib.hid (And.intro hown' (below_grown_alloc HW3.out.2 HW3.out.2.size hg' (fun g hg => (HW3.out.1.lt g hg).1))); clear hown' hg')
          | (go_at_call 50; (with_reducible refine (HIN.out _ HO.out.2).mono ?_); rintro e w3 ⟨rfl, hb3⟩; have HW3 := Lib.hid (And.intro (owns_below HO.out.1 hb3) (Below.more HO.out.2 hb3)); clear hb3))
        obtain ⟨G, hG⟩ : ∃ G, G = w4.heap.size := ⟨_, rfl⟩
        have hit0 : (w4.iter zNo 0).heap[G]? = some (.stringIter zNo 0) := by rw [hG]; exact World.iter_heap w4 zNo 0
        have HF2 := Lib.hid (show (w4.iter zNo 0).ownsRow w.heap.size 21 1 v' (m + 1) (A.map (Value.int .i32) ++ [.int .i32 z]) ∧ Below w.heap.size w (w4.iter zNo 0) from ⟨owns_below HF.out.1 (one_ok w4 _), Below.more HF.out.2 (one_ok w4 _)⟩)
        have HIT := Lib.hid hit0
        rw [← hG]
        clear hit0 hG
        go_loopw [5] (fun v wr2 => ∃ v2 : Value, v2 = v ∧ Hid (wr2.heap[G]? = some (.stringIter zNo 0)) ∧ Hid (wr2.ownsRow w.heap.size 21 1 v2 (m + 1) (A.map (Value.int .i32) ++ [.int .i32 z]) ∧ Below w.heap.size w wr2)) (fun _ _ => 0)
        case atStart => exact ⟨_, rfl, HIT, HF2⟩
        case round =>
          obtain ⟨v2, rfl, HI2, HF3⟩ := hrel
          have hnx : ∀ ty, (Instr.next (.pointer (some ⟨G, 0, none⟩)) true ty).run Try.prog wr = _ := fun ty => Lib.run_next_end_at wr G zNo 0 ty HI2.out (by decide)
          go_wp2
          go_roundw
          case rel => exact ⟨k + 1, _, by go_num, rfl, by omega, Lib.hid ⟨by rw [HSU.out, List.length_append, List.map_append, ← HML.out]; exact HF3.out.1, HF3.out.2⟩⟩
          case measure => simp [intOf]; omega
      · have hsn : ¬ s = zNo := fun h => by subst h; exact absurd hs1 (by decide)
        rw [if_neg hsn] at hsucc
        have HSU := Lib.hid hsucc
        have HAS := Lib.hid has
        have e1 : (s.toList == []) = false := by
          have h8 : (sg s).length = s.size := sg_length s
          unfold sg at h8
          rw [List.length_map] at h8
          rw [ba_toList]
          rcases hd : s.data.toList with _ | ⟨x, y⟩
          · rw [hd] at h8; simp at h8; omega
          · rfl
        clear hsucc has hsn
        go_wp2_with (go_at_call 50; (with_reducible refine (HIN.out _ HO.out.2).mono ?_); rintro e w3 ⟨rfl, hb3⟩; have HW3 := Lib.hid (And.intro (owns_below HO.out.1 hb3) (Below.more HO.out.2 hb3)); clear hb3)
        obtain ⟨G, hG⟩ : ∃ G, G = w3.heap.size := ⟨_, rfl⟩
        obtain ⟨T, hT⟩ : ∃ T, T = sg s := ⟨_, rfl⟩
        obtain ⟨N, hN⟩ : ∃ N, N = s.size := ⟨_, rfl⟩
        have hTN : T.length = N := by rw [hT, hN, sg_length]
        have hit0 : (w3.iter s 0).heap[G]? = some (.stringIter s 0) := by rw [hG]; exact World.iter_heap w3 s 0
        have hGw : w.heap.size ≤ G := by rw [hG]; exact HW3.out.2.size
        have HF2 := Lib.hid (show (w3.iter s 0).ownsRow w.heap.size 21 1 v0 (m + 0) ((A ++ T.take 0).map (Value.int .i32)) ∧ Below w.heap.size w (w3.iter s 0) from ⟨by rw [List.take_zero, List.append_nil]; exact owns_below HW3.out.1 (one_ok w3 _), Below.more HW3.out.2 (one_ok w3 _)⟩)
        have HIT := Lib.hid hit0
        have HTT := Lib.hid (And.intro hT hTN)
        have HNN := Lib.hid (show ∀ p, p < N → 0 ≤ T.getD p 0 ∧ Utf8.decode s p = ((T.getD p 0).toNat, 1) from fun p hp => by rw [hT]; exact HAS.out p (by omega))
        have hsz1 : s.size ≤ N := by omega
        have hsz2 : N ≤ s.size := by omega
        rw [← hT] at HSU
        rw [← hG]
        clear hit0 hG hT hN HAS hTN
        go_loopw [5] (fun v wr2 => ∃ (pos : Nat) (v2 : Value), v2 = v ∧ pos ≤ N ∧ Hid (wr2.heap[G]? = some (.stringIter s pos)) ∧ Hid (wr2.ownsRow w.heap.size 21 1 v2 (m + pos) ((A ++ T.take pos).map (Value.int .i32)) ∧ Below w.heap.size w wr2)) (fun _ wr2 => N - wr2.iterPos G)
        case atStart => exact ⟨0, _, rfl, Nat.zero_le _, HIT, HF2⟩
        case round =>
          clear HIT HF2
          obtain ⟨pos, v2, rfl, hpos, HI2, HF3⟩ := hrel
          have hgz : G < wr.heap.size := (Array.getElem?_eq_some_iff.1 HI2.out).1
          by_cases hp : pos < N
          · have hp' : pos < s.size := by omega
            have hnx : ∀ ty, (Instr.next (.pointer (some ⟨G, 0, none⟩)) true ty).run Try.prog wr = _ := fun ty => Lib.run_next_any_at wr G s pos ty HI2.out hp'
            have hdec := (HNN.out pos hp).2
            simp only [hdec] at hnx
            obtain ⟨y, hy⟩ : ∃ y, y = (T.getD pos 0).toNat := ⟨_, rfl⟩
            rw [← hy] at hnx
            have HZ := Lib.hid (show (A ++ T.take pos).map (Value.int .i32) ++ [Value.int .i32 (y : Nat)] = (A ++ T.take (pos + 1)).map (Value.int .i32) by rw [hy]; exact runes_more (by rw [HTT.out.2]; exact hp) (HNN.out pos hp).1)
            have HI3 := Lib.hid (Lib.iterAt_heap wr G s pos (pos + 1) HI2.out)
            have HOWN := Lib.hid (owns_iterAt HF3.out.1 HI2.out (pos + 1))
            have HBL := Lib.hid (Lib.below_iterAt HF3.out.2 (k := G) hGw s (pos + 1))
            have HS := Lib.hid (Lib.iterAt_size wr G s (pos + 1))
            have HPOS := Lib.hid (iterPos_of HI2.out)
            obtain ⟨wi, hwi⟩ : ∃ wi, wi = wr.iterAt G s (pos + 1) := ⟨_, rfl⟩
            rw [← hwi] at hnx HI3 HOWN HBL HS
            have hbase : w.heap.size ≤ wi.heap.size := HBL.out.size
            have HM := Lib.hid (And.intro (show m + pos + 1 ≤ maxLen by unfold maxLen; omega) (And.intro (show (m + pos + 1) * 4 ≤ 140737488355328 by omega) (show ∀ o, w.heap.size ≤ (wi.alloc o).heap.size from fun o => by simp; omega)))
            clear hwi hdec hy
            go_wp2_with (first
              | (at_builtin; refine wpList_append_own _ rfl _ _ 43 rfl w.heap.size 21 i0 _ 1 4 Try.underlying43 HI.out.1 HI.out.2.1 HI.out.2.2.1 HI.out.2.2.2 rfl (by decide) _ _ _ rfl (HOWN.out.alloc _) _ _ _ [.int .i32 (y : Nat)] rfl rfl (new_cells _ _ _) (by simp [Value.oneCell']) HM.out.1 HM.out.2.1 (HM.out.2.2 _) ?_; intro v' w4 hown' hg' _))
            have hit2 := iter_grown HOWN.out HI3.out hg'
            have hb2 := below_grown_alloc HBL.out hbase hg' (fun g hg => (HOWN.out.lt g hg).1)
            clear hg'
            go_roundw
            case rel => exact ⟨pos + 1, _, rfl, by omega, Lib.hid hit2, Lib.hid ⟨by rw [← HZ.out]; exact hown', hb2⟩⟩
            case measure => rw [HPOS.out, iterPos_of hit2]; omega
          · obtain rfl : pos = N := by omega
            have hnx : ∀ ty, (Instr.next (.pointer (some ⟨G, 0, none⟩)) true ty).run Try.prog wr = _ := fun ty => Lib.run_next_end_at wr G s pos ty HI2.out (by omega)
            have hfin : wr.ownsRow w.heap.size 21 1 v2 (putT l q (k + 1)).length ((putT l q (k + 1)).map (Value.int .i32)) := by
              have h := HF3.out.1
              rw [List.take_of_length_le (by rw [HTT.out.2]; exact Nat.le_refl _)] at h
              rw [HSU.out, List.length_append, ← HML.out, HTT.out.2]
              exact h
            have HFN := Lib.hid hfin
            clear hfin
            go_wp2
            go_roundw
            case rel => exact ⟨k + 1, _, by go_num, rfl, by omega, Lib.hid ⟨HFN.out, HF3.out.2⟩⟩
            case measure => simp [intOf]; omega
    · obtain rfl : k = n := by omega
      have hkf : ¬ (k : Int) < (k : Int) := by omega
      have hpp : putT l q k = putP l q := by unfold putP; rw [HL.out]
      rw [hpp] at HO
      clear hlt
      go_wp2
      go_ret
      exact ⟨_, rfl, HO.out.1, HO.out.2⟩

end Go.Proofs.Ytbljgoieieoamaa
