/-
  Contracts of layer 3: Kind, Pieces, Encode, and the reference's.
-/
import Derived.Test.YtmibajofbagphaaDoorSnA
import Derived.Test.YtmibajofbagphaaDoorWideC
import Derived.Test.YtmibajofbagphaaDoorWideD
import Derived.Test.YtmibajofbagphaaDoorWideF
import Derived.Test.YtmibajofbagphaaDoorScanR
namespace Go.Proofs.YtmibajofbagphaaDoor
open Go.RowKit

theorem kindFrom_drop (zs : List Int) (k : Nat) (x : ByteArray × Int × Int) (h : signL[k]? = some x) : kindFrom zs (signL.drop k) = if Lib.hasPrefix (Lib.bytesOf zs) x.1.data.toList = true then x.2 else kindFrom zs (signL.drop (k + 1)) := by
  obtain ⟨hk, rfl⟩ := List.getElem?_eq_some_iff.1 h
  rw [List.drop_eq_getElem_cons hk]
  rfl

theorem ret_kind {a b c d : Int} (h : (a, b) = (c, d)) : Ending.returned (.tuple #[.int .i64 a, .int .i64 b]) = .returned (.tuple #[.int .i64 c, .int .i64 d]) := by
  obtain ⟨rfl, rfl⟩ := Prod.mk.inj h; rfl

set_option maxRecDepth 100000 in
set_option maxHeartbeats 2000000 in
theorem kind_any (a : Option Addr) (n cap : Nat) (zs : List Int) (w : World) (hs : Signs w) (hn : zs.length = n) (hc : n ≤ cap) (hat : AtCells w a (zs.map (.int .u8))) :
    Calls Tryd.prog 14 #[.slice a n cap] w fun e w' => e = .returned (.tuple #[.int .i64 (kindOf zs).1, .int .i64 (kindOf zs).2]) ∧ Below w.heap.size w w' := by
  have HAT := Lib.hid hat
  have HN := Lib.hid hn
  obtain ⟨t, fr, hb⟩ := hs
  have hsz : (Tryd.prog.info? 57).map (·.size) = some signCells.toArray.size := by kernel_rfl
  obtain ⟨C, hC⟩ : ∃ C, C = signCells.toArray := ⟨_, rfl⟩
  have HX : Hid (∀ (k : Nat), k < 5 → ∃ S kd mk, signL[k]? = some (S, kd, mk) ∧ ∀ w, (Instr.index 57 (.agg C) (.int .i64 (k : Int))).run Tryd.prog w = .ok (.agg #[.string S, .int .i64 kd, .int .i64 mk]) w) := Lib.hid (fun k hk => by rw [hC]; exact sign_at k hk)
  rw [← hC] at hb hsz
  have HB := Lib.hid hb
  have HSZ := Lib.hid hsz
  clear hat hn hb hsz hC
  go_enter Tryd.func14, Tryd.ntmps14
  go_wp2_with (refine wpList_load_row rfl 57 _ rfl 0 rfl t C fr _ HB.out Tryd.underlying57 rfl HSZ.out ?_)
  go_loopw [7] (fun i wr => ∃ k : Nat, k ≤ 5 ∧ i = .int .i64 k ∧ kindFrom zs (signL.drop k) = kindOf zs ∧ Below w.heap.size w wr) (fun i _ => 5 - (intOf i).toNat)
  case atStart => exact ⟨0, by omega, rfl, rfl, Below.refl _ _⟩
  case round =>
    obtain ⟨k, hk, rfl, hkf, hbl⟩ := hrel
    by_cases hlt : k < 5
    · obtain ⟨S, kd, mk, hS, hidx⟩ := HX.out k hlt
      have hst := kindFrom_drop zs k _ hS
      rw [hkf] at hst
      simp only at hst
      have hsz := hbl.size
      have HBX := Lib.hid (hbl.alloc hsz (.cells #[.string S, .int .i64 kd, .int .i64 mk] 56))
      have hcv : ∀ wx, Sem.run Tryd.prog (convert 9 22 (.string S)) wx = .ok (.slice (some ⟨wx.heap.size, 0, none⟩) S.size (grownCap wx S.size 0 5)) (Lib.bytesWorld wx 5 S) := fun wx =>
        Lib.run_convert_string_bytes wx _ _ _ S Tryd.underlying9 Tryd.underlying22 Tryd.underlying5
      have HPC := Lib.hid (prefix_call a n cap zs S (wr.alloc (.cells #[.string S, .int .i64 kd, .int .i64 mk] 56)) (wr.heap.size + 1) (by simp) HN.out hc (HAT.out.below HBX.out))
      have hbx : (wr.alloc (.cells #[.string S, .int .i64 kd, .int .i64 mk] 56)).cell? ⟨wr.heap.size, 1, none⟩ = some (.int .i64 kd) := by
        simp
      have hbx2 : (wr.alloc (.cells #[.string S, .int .i64 kd, .int .i64 mk] 56)).cell? ⟨wr.heap.size, 2, none⟩ = some (.int .i64 mk) := by
        simp
      have HC1 := Lib.hid (And.intro hbx hbx2)
      clear hS hkf hbl hbx hbx2
      cases hp : Lib.hasPrefix (Lib.bytesOf zs) S.data.toList
      · rw [hp] at hst HPC
        have HST := Lib.hid hst
        clear hp hst
        go_wp2_with (go_at_call 30; (with_reducible refine HPC.out.mono ?_); rintro e w1 ⟨rfl, hb1⟩)
        have HF := Lib.hid (HBX.out.trans (hb1.mono (by have := HBX.out.size; simpa using this)))
        clear hb1
        go_roundw
        case rel => exact ⟨k + 1, by omega, by go_num, by rw [HST.out]; rfl, HF.out⟩
        case measure => simp [intOf]; omega
      · rw [hp] at hst HPC
        have HST := Lib.hid hst
        clear hp hst
        go_wp2_with (go_at_call 30; (with_reducible refine HPC.out.mono ?_); rintro e w1 ⟨rfl, hb1⟩)
        have HF := Lib.hid (HBX.out.trans (hb1.mono (by have := HBX.out.size; simpa using this)))
        have c1 := (hb1.cell (p := ⟨wr.heap.size, 1, none⟩) (by simp)).trans HC1.out.1
        have c2 := (hb1.cell (p := ⟨wr.heap.size, 2, none⟩) (by simp)).trans HC1.out.2
        clear hb1
        go_quiet (fail)
        go_wp2
        go_ret2
        exact ⟨ret_kind (by rw [HST.out]; rfl), bdr HF.out _⟩
    · obtain rfl : k = 5 := by omega
      have HF := Lib.hid hkf
      clear hkf
      go_wp2
      go_ret2
      exact ⟨ret_kind (by rw [← HF.out]; rfl), hbl⟩

/-! The reference's Kind. -/
theorem begins_eq (zs : List Int) (S : ByteArray) (h : S.size ≤ zs.length) : ((strOfNums (zs.take S.size)).toList == S.toList) = Lib.hasPrefix (Lib.bytesOf zs) S.data.toList := by
  have hl : S.data.toList.length = S.size := by rw [Array.length_toList]; rfl
  have hz : (Lib.bytesOf zs).length = zs.length := by simp [Lib.bytesOf]
  have h1 := Lib.hasPrefix_of_take (Lib.bytesOf zs) S.data.toList
  rw [hl, hz, decide_eq_true h, Bool.true_and] at h1
  rw [← h1, Lib.strOfNums_toList, Lib.toList_data]
  unfold Lib.bytesOf
  rw [List.map_take]

set_option maxHeartbeats 1000000 in
theorem begins_any (a : Option Addr) (n cap : Nat) (zs : List Int) (S : ByteArray) (w : World) (hn : zs.length = n) (hc : n ≤ cap) (hm : cap ≤ maxLen) (hS : S.size ≤ 4) (hat : AtCells w a (zs.map (.int .u8))) :
    Calls Tryd.prog 40 #[.slice a n cap, .string S] w fun e w' => e = .returned (.bool (Lib.hasPrefix (Lib.bytesOf zs) S.data.toList)) ∧ w = w' := by
  unfold maxLen at hm
  by_cases h : S.size ≤ n
  · have hcv : Sem.run Tryd.prog (convert 22 9 (.slice a S.size cap)) w = .ok (.string (strOfNums (zs.take S.size))) w := by
      refine run_str w _ _ _ Tryd.underlying22 Tryd.underlying5 Tryd.underlying9 a S.size cap _ (by simp; omega) ?_
      rw [List.map_take]; exact hat.take _
    have HE := Lib.hid (begins_eq zs S (by omega))
    have hsc : S.size ≤ cap := by omega
    generalize strOfNums (zs.take S.size) = S1 at hcv HE
    clear hat hn
    go_enter Tryd.func40, Tryd.ntmps40
    go_wp2
    go_ret
    exact ⟨by rw [← HE.out]; rfl, rfl⟩
  · have HF := Lib.hid (show Lib.hasPrefix (Lib.bytesOf zs) S.data.toList = false by
      cases hh : Lib.hasPrefix (Lib.bytesOf zs) S.data.toList
      · rfl
      · have := Lib.hasPrefix_le hh
        have hl : S.data.toList.length = S.size := by rw [Array.length_toList]; rfl
        have hz : (Lib.bytesOf zs).length = zs.length := by simp [Lib.bytesOf]
        omega)
    have h' : n < S.size := by omega
    clear hat hn h
    go_enter Tryd.func40, Tryd.ntmps40
    go_wp2
    go_ret
    exact ⟨by rw [HF.out]; rfl, rfl⟩

set_option maxHeartbeats 2000000 in
theorem refKind_any (a : Option Addr) (n cap : Nat) (zs : List Int) (w : World) (hn : zs.length = n) (hc : n ≤ cap) (hm : cap ≤ maxLen) (hat : AtCells w a (zs.map (.int .u8))) :
    Calls Tryd.prog 25 #[.slice a n cap] w fun e w' => e = .returned (.tuple #[.int .i64 (kindOf zs).1, .int .i64 (kindOf zs).2]) ∧ w = w' := by
  have H := fun S hS => begins_any a n cap zs S w hn hc hm hS hat
  clear hat hn
  have hk : kindOf zs = kindFrom zs signL := rfl
  simp only [kindFrom, signL] at hk
  have H0 := Lib.hid (H ⟨#[254, 255]⟩ (by decide))
  have H1 := Lib.hid (H ⟨#[255, 254]⟩ (by decide))
  have H2 := Lib.hid (H ⟨#[239, 187, 191]⟩ (by decide))
  have H3 := Lib.hid (H ⟨#[0, 60, 0, 63]⟩ (by decide))
  have H4 := Lib.hid (H ⟨#[60, 0, 63, 0]⟩ (by decide))
  clear H
  generalize Lib.hasPrefix (Lib.bytesOf zs) (ByteArray.mk #[254, 255]).data.toList = p0 at H0 hk
  generalize Lib.hasPrefix (Lib.bytesOf zs) (ByteArray.mk #[255, 254]).data.toList = p1 at H1 hk
  generalize Lib.hasPrefix (Lib.bytesOf zs) (ByteArray.mk #[239, 187, 191]).data.toList = p2 at H2 hk
  generalize Lib.hasPrefix (Lib.bytesOf zs) (ByteArray.mk #[0, 60, 0, 63]).data.toList = p3 at H3 hk
  generalize Lib.hasPrefix (Lib.bytesOf zs) (ByteArray.mk #[60, 0, 63, 0]).data.toList = p4 at H4 hk
  have HK := Lib.hid hk
  clear hk
  have go : ∀ q, kindOf zs = q → True := fun _ _ => trivial
  clear go
  rcases p0 with _ | _
  · rcases p1 with _ | _
    · rcases p2 with _ | _
      · rcases p3 with _ | _
        · rcases p4 with _ | _
          all_goals
            go_enter Tryd.func25, Tryd.ntmps25
            go_wp2_with (first
              | (go_at_call 40; ((with_reducible refine H0.out.mono ?_); rintro e w' ⟨rfl, rfl⟩))
              | (go_at_call 40; ((with_reducible refine H1.out.mono ?_); rintro e w' ⟨rfl, rfl⟩))
              | (go_at_call 40; ((with_reducible refine H2.out.mono ?_); rintro e w' ⟨rfl, rfl⟩))
              | (go_at_call 40; ((with_reducible refine H3.out.mono ?_); rintro e w' ⟨rfl, rfl⟩))
              | (go_at_call 40; ((with_reducible refine H4.out.mono ?_); rintro e w' ⟨rfl, rfl⟩)))
            go_ret2
            exact ⟨by rw [HK.out]; rfl, rfl⟩
        · go_enter Tryd.func25, Tryd.ntmps25
          go_wp2_with (first
            | (go_at_call 40; ((with_reducible refine H0.out.mono ?_); rintro e w' ⟨rfl, rfl⟩))
            | (go_at_call 40; ((with_reducible refine H1.out.mono ?_); rintro e w' ⟨rfl, rfl⟩))
            | (go_at_call 40; ((with_reducible refine H2.out.mono ?_); rintro e w' ⟨rfl, rfl⟩))
            | (go_at_call 40; ((with_reducible refine H3.out.mono ?_); rintro e w' ⟨rfl, rfl⟩)))
          go_ret2
          exact ⟨by rw [HK.out]; rfl, rfl⟩
      · go_enter Tryd.func25, Tryd.ntmps25
        go_wp2_with (first
          | (go_at_call 40; ((with_reducible refine H0.out.mono ?_); rintro e w' ⟨rfl, rfl⟩))
          | (go_at_call 40; ((with_reducible refine H1.out.mono ?_); rintro e w' ⟨rfl, rfl⟩))
          | (go_at_call 40; ((with_reducible refine H2.out.mono ?_); rintro e w' ⟨rfl, rfl⟩)))
        go_ret2
        exact ⟨by rw [HK.out]; rfl, rfl⟩
    · go_enter Tryd.func25, Tryd.ntmps25
      go_wp2_with (first
        | (go_at_call 40; ((with_reducible refine H0.out.mono ?_); rintro e w' ⟨rfl, rfl⟩))
        | (go_at_call 40; ((with_reducible refine H1.out.mono ?_); rintro e w' ⟨rfl, rfl⟩)))
      go_ret2
      exact ⟨by rw [HK.out]; rfl, rfl⟩
  · go_enter Tryd.func25, Tryd.ntmps25
    go_wp2_with (go_at_call 40; ((with_reducible refine H0.out.mono ?_); rintro e w' ⟨rfl, rfl⟩))
    go_ret2
    exact ⟨by rw [HK.out]; rfl, rfl⟩

/-! Pieces and Encode, by kinds. -/
theorem byte_of_bys {zs : List Int} (h : Bys zs) : U16.Byte zs := fun z hz => by have := h z hz; omega

/-- The pieces of bytes of a kind. -/
def piecesOf (kd : Int) (zs : List Int) : List (Int × Int × Int) := if kd = 0 then itemsOf (strOfNums zs) else if kd = 1 then U16.items zs true zs.length else if kd = 2 then U16.items zs false zs.length else []
/-- Runes' bytes of a kind. -/
def encsOf (kd : Int) (l : List Int) : List Int := if kd = 0 then U8.encs l else if kd = 1 then U16.encs true l else if kd = 2 then U16.encs false l else []

set_option maxHeartbeats 1000000 in
theorem pieces_any (kd : Int) (a : Option Addr) (n cap : Nat) (zs : List Int) (w : World) (hn : zs.length = n) (hc : n ≤ cap) (hbig : n ≤ 1099511627776) (hb : Bys zs) (hat : AtCells w a (zs.map (.int .u8))) :
    Calls Tryd.prog 27 #[.int .i64 kd, .slice a n cap] w (OwnItems w (piecesOf kd zs)) := by
  have H8 := Lib.hid (items_any a n cap zs w hn hbig hat)
  have H16 := Lib.hid (fun big => witems_any big a n cap zs w hn hc hbig hat (byte_of_bys hb))
  have HP := Lib.hid (show ∀ k, kd = k → piecesOf kd zs = if k = 0 then itemsOf (strOfNums zs) else if k = 1 then U16.items zs true n else if k = 2 then U16.items zs false n else [] from fun k hk => by rw [hk, ← hn]; rfl)
  clear hat hn hb
  by_cases h0 : kd = 0
  · rw [HP.out 0 h0]
    subst h0
    go_enter Tryd.func27, Tryd.ntmps27
    go_wp2_with (go_at_call 41; refine H8.out.mono ?_; rintro e w' ⟨v, rfl, hown, hb⟩)
    go_ret
    exact ⟨v, rfl, hown, hb⟩
  · by_cases h1 : kd = 1
    · rw [HP.out 1 h1]
      subst h1
      have H := Lib.hid (H16.out true)
      go_enter Tryd.func27, Tryd.ntmps27
      go_wp2_with (go_at_call 42; refine H.out.mono ?_; rintro e w' ⟨v, rfl, hown, hb⟩)
      go_ret
      exact ⟨v, rfl, hown, hb⟩
    · by_cases h2 : kd = 2
      · rw [HP.out 2 h2]
        subst h2
        have H := Lib.hid (H16.out false)
        go_enter Tryd.func27, Tryd.ntmps27
        go_wp2_with (go_at_call 42; refine H.out.mono ?_; rintro e w' ⟨v, rfl, hown, hb⟩)
        go_ret
        exact ⟨v, rfl, hown, hb⟩
      · rw [show piecesOf kd zs = [] by unfold piecesOf; rw [if_neg h0, if_neg h1, if_neg h2]]
        have e0 : (kd == 0) = false := by simp [h0]
        have e1 : (kd == 1) = false := by simp [h1]
        have e2 : (kd == 2) = false := by simp [h2]
        clear h0 h1 h2
        go_enter Tryd.func27, Tryd.ntmps27
        go_wp2
        go_ret
        exact ⟨_, rfl, World.ownsRow_nil _ _ _ _, Below.refl _ _⟩

set_option maxHeartbeats 1000000 in
theorem encode_any (kd : Int) (a : Option Addr) (n cap : Nat) (zs : List Int) (w : World) (hn : zs.length = n) (hbig : n ≤ 1099511627776) (hz : Runes zs) (hat : AtCells w a (zs.map (.int .i32))) :
    Calls Tryd.prog 16 #[.int .i64 kd, .slice a n cap] w (OwnBytes w (encsOf kd zs)) := by
  have H8 := Lib.hid (bytes_any a n cap zs w hn hbig hat hz)
  have H16 := Lib.hid (fun big => wbytes_any big a n cap zs w hn hbig hat)
  clear hat hn hz
  by_cases h0 : kd = 0
  · subst h0
    go_enter Tryd.func16, Tryd.ntmps16
    go_wp2_with (go_at_call 31; refine H8.out.mono ?_; rintro e w' ⟨v, rfl, hown, hb⟩)
    go_ret
    exact ⟨v, rfl, hown, hb⟩
  · by_cases h1 : kd = 1
    · subst h1
      have H := Lib.hid (H16.out true)
      go_enter Tryd.func16, Tryd.ntmps16
      go_wp2_with (go_at_call 32; refine H.out.mono ?_; rintro e w' ⟨v, rfl, hown, hb⟩)
      go_ret
      exact ⟨v, rfl, hown, hb⟩
    · by_cases h2 : kd = 2
      · subst h2
        have H := Lib.hid (H16.out false)
        go_enter Tryd.func16, Tryd.ntmps16
        go_wp2_with (go_at_call 32; refine H.out.mono ?_; rintro e w' ⟨v, rfl, hown, hb⟩)
        go_ret
        exact ⟨v, rfl, hown, hb⟩
      · rw [show encsOf kd zs = [] by unfold encsOf; rw [if_neg h0, if_neg h1, if_neg h2]]
        have e0 : (kd == 0) = false := by simp [h0]
        have e1 : (kd == 1) = false := by simp [h1]
        have e2 : (kd == 2) = false := by simp [h2]
        clear h0 h1 h2
        go_enter Tryd.func16, Tryd.ntmps16
        go_wp2
        go_ret
        exact ⟨_, rfl, World.ownsRow_nil _ _ _ _, Below.refl _ _⟩

set_option maxHeartbeats 1000000 in
theorem refEncode_any (kd : Int) (a : Option Addr) (n cap : Nat) (zs : List Int) (w : World) (hn : zs.length = n) (hbig : n ≤ 1099511627776) (hat : AtCells w a (zs.map (.int .i32))) :
    Calls Tryd.prog 18 #[.int .i64 kd, .slice a n cap] w (OwnBytes w (encsOf kd zs)) := by
  have H8 := Lib.hid (refBytes_any a n cap zs w hn hbig hat)
  have H16 := Lib.hid (fun big => wrefBytes_any big a n cap zs w hn hbig hat)
  clear hat hn
  by_cases h0 : kd = 0
  · subst h0
    go_enter Tryd.func18, Tryd.ntmps18
    go_wp2_with (go_at_call 24; refine H8.out.mono ?_; rintro e w' ⟨v, rfl, hown, hb⟩)
    go_ret
    exact ⟨v, rfl, hown, hb⟩
  · by_cases h1 : kd = 1
    · subst h1
      have H := Lib.hid (H16.out true)
      go_enter Tryd.func18, Tryd.ntmps18
      go_wp2_with (go_at_call 33; refine H.out.mono ?_; rintro e w' ⟨v, rfl, hown, hb⟩)
      go_ret
      exact ⟨v, rfl, hown, hb⟩
    · by_cases h2 : kd = 2
      · subst h2
        have H := Lib.hid (H16.out false)
        go_enter Tryd.func18, Tryd.ntmps18
        go_wp2_with (go_at_call 33; refine H.out.mono ?_; rintro e w' ⟨v, rfl, hown, hb⟩)
        go_ret
        exact ⟨v, rfl, hown, hb⟩
      · rw [show encsOf kd zs = [] by unfold encsOf; rw [if_neg h0, if_neg h1, if_neg h2]]
        have e0 : (kd == 0) = false := by simp [h0]
        have e1 : (kd == 1) = false := by simp [h1]
        have e2 : (kd == 2) = false := by simp [h2]
        clear h0 h1 h2
        go_enter Tryd.func18, Tryd.ntmps18
        go_wp2
        go_ret
        exact ⟨_, rfl, World.ownsRow_nil _ _ _ _, Below.refl _ _⟩

/-- The reference's pieces of bytes: of each number that is none of the three it speaks as of the lower byte first. -/
def refPiecesOf (kd : Int) (zs : List Int) : List (Int × Int × Int) := if kd = 0 then itemsOf (strOfNums zs) else U16.items zs (decide (kd = 1)) zs.length

theorem refPiecesOf_eq {kd : Int} (h : kd = 0 ∨ kd = 1 ∨ kd = 2) (zs : List Int) : refPiecesOf kd zs = piecesOf kd zs := by
  rcases h with rfl | rfl | rfl <;> rfl

set_option maxHeartbeats 1000000 in
theorem ref3Items_any (kd : Int) (a : Option Addr) (n cap : Nat) (zs : List Int) (w : World) (hn : zs.length = n) (hc : n ≤ cap) (hm : cap ≤ maxLen) (hbig : n ≤ 1099511627776) (hb : Bys zs) (hat : AtCells w a (zs.map (.int .u8))) :
    Calls Tryd.prog 28 #[.slice a n cap, .int .i64 kd] w (OwnRefItems w (refPiecesOf kd zs)) := by
  have H8 := Lib.hid (refItems_any a n cap zs w hn hc hm hbig hb hat)
  have H16 := Lib.hid (fun big => wrefItems_any big a n cap zs w hn hc hbig hat (byte_of_bys hb))
  have HP := Lib.hid (show ∀ k, kd = k → refPiecesOf kd zs = if k = 0 then itemsOf (strOfNums zs) else U16.items zs (decide (k = 1)) n from fun k hk => by rw [hk, ← hn]; rfl)
  clear hat hn hb
  by_cases h0 : kd = 0
  · rw [HP.out 0 h0]
    subst h0
    go_enter Tryd.func28, Tryd.ntmps28
    go_wp2_with (go_at_call 43; refine H8.out.mono ?_; rintro e w' ⟨v, rfl, hown, hb⟩)
    go_ret
    exact ⟨v, rfl, hown, hb⟩
  · by_cases h1 : kd = 1
    · rw [HP.out 1 h1]
      subst h1
      have H := Lib.hid (H16.out true)
      go_enter Tryd.func28, Tryd.ntmps28
      go_wp2_with (go_at_call 44; refine H.out.mono ?_; rintro e w' ⟨v, rfl, hown, hb⟩)
      go_ret
      exact ⟨v, rfl, hown, hb⟩
    · rw [HP.out kd rfl, if_neg h0, decide_eq_false h1]
      have H := Lib.hid (H16.out false)
      have e0 : (kd == 0) = false := by simp [h0]
      have e1 : (kd == 1) = false := by simp [h1]
      clear h0 h1
      go_enter Tryd.func28, Tryd.ntmps28
      go_wp2_with (go_at_call 44; refine H.out.mono ?_; rintro e w' ⟨v, rfl, hown, hb⟩)
      go_ret
      exact ⟨v, rfl, hown, hb⟩

end Go.Proofs.YtmibajofbagphaaDoor
