/-
  Contract of layer 12: Apply.
-/
import Derived.Test.YtbljgoieieoamaaSqE
import Derived.Deep.AppendLies
import Derived.OwnWalk
namespace Go.Proofs.Ytbljgoieieoamaa
open Go.Shelf Go.RowKit Go.Lib Go.Sort
set_option linter.unusedVariables false

/-- One behind the other, without where the bytes lie. -/
def chP : Int → List PC → Prop
  | _, [] => True
  | e, x :: r => e ≤ x.1 ∧ x.1 ≤ x.2.1 ∧ chP x.2.1 r
theorem chP_of : ∀ (S : List Chg) (e : Int), takenC e S = false → (∀ x ∈ S, ¬ badC x) → chP e (S.map img)
  | [], _, _, _ => trivial
  | x :: r, e, h, hb => by
    simp only [takenC, Bool.or_eq_false_iff, decide_eq_false_iff_not] at h
    have hx := hb x (List.mem_cons_self ..)
    unfold badC at hx
    exact ⟨by simp only [img]; omega, by simp only [img]; omega, chP_of r _ h.2 fun y hy => hb y (List.mem_cons_of_mem _ hy)⟩

/-- Where a part of a row begins. -/
def partA (a : Option Addr) (cap lo : Nat) : Option Addr := if cap = lo then a else a.map (fun x => x.add lo)
theorem partA_at {w : World} {a : Option Addr} {B : List Int} {len cap : Nat} (hl : B.length = len) (hc : len ≤ cap) (hat : AtCells w a (B.map (.int .u8))) (lo hi : Nat) (hlo : lo ≤ hi) (hhi : hi ≤ len) : AtCells w (partA a cap lo) (((B.take hi).drop lo).map (.int .u8)) := by
  unfold partA
  by_cases h : cap = lo
  · rw [if_pos h]
    have : (B.take hi).drop lo = [] := List.drop_eq_nil_of_le (by rw [List.length_take]; omega)
    rw [this]; exact AtCells.nil _ _
  · rw [if_neg h]
    intro j u hj
    rw [List.map_drop, List.map_take, List.getElem?_drop] at hj
    obtain ⟨b, off, rfl, hcl⟩ := (hat.take hi) (lo + j) u hj
    exact ⟨b, off + lo, by simp [Addr.add], by rw [Nat.add_assoc]; exact hcl⟩
theorem partA_nil {a : Option Addr} {cap lo hi len : Nat} (hn : a = none → cap = 0) (hlo : lo ≤ hi) (hhi : hi ≤ len) (hc : len ≤ cap) (h : partA a cap lo = none) : hi - lo = 0 ∧ cap - lo = 0 := by
  have : a = none := by
    unfold partA at h
    split at h
    · exact h
    · simpa using h
  have := hn this
  omega
theorem part_len {B : List Int} {len lo hi : Nat} (hl : B.length = len) (hlo : lo ≤ hi) (hhi : hi ≤ len) : ((B.take hi).drop lo).length = hi - lo := by
  rw [List.length_drop, List.length_take]; omega

theorem one_u8 (D : List Int) : ∀ u ∈ D.map (Value.int .u8), u.oneCell' = true := fun u hu => by
  obtain ⟨x, _, rfl⟩ := List.mem_map.1 hu
  rfl

theorem one_chg (a b : Int) (v : Option Addr) (n c : Nat) : ∀ u ∈ [Value.int .i64 a, .int .i64 b, .slice v n c], u.oneCell' = true := by
  intro u hu
  simp only [List.mem_cons, List.not_mem_nil, or_false] at hu
  rcases hu with rfl | rfl | rfl <;> rfl
theorem sep_of {g H n c : Nat} {v : Value} (h : v.ownBlock = some g ∨ g = H) : (Value.slice (some ⟨g, 0, none⟩) n c).ownBlock = v.ownBlock ∨ (Value.slice (some ⟨g, 0, none⟩) n c).ownBlock = some H := by
  rcases h with h | rfl
  · left; rw [h]; rfl
  · right; rfl

/-- What Apply answers where Sorted refuses nothing. -/
def ApplyR (w : World) (B : List Int) (S : List PC) (e : Ending) (w' : World) : Prop :=
  ((apP B 0 [] [] S = none ∧ e = .returned (.tuple #[.slice none 0 0, .slice none 0 0, .int .i64 3])) ∨ (∃ v9 v10 C K, apP B 0 [] [] S = some (C, K.map img) ∧ e = .returned (.tuple #[v9, v10, .int .i64 0]) ∧ w'.ownsRow w.heap.size 5 1 v9 C.length (C.map (.int .u8)) ∧ w'.ownsRow w.heap.size 39 3 v10 K.length (cellsC K) ∧ (∀ x ∈ K, BytesO w' v9.ownBlock v10.ownBlock x) ∧ C.length ≤ (S.length + 1) * 20000 ∧ K.length = S.length)) ∧ Below w.heap.size w w'

set_option maxRecDepth 20000 in
set_option maxHeartbeats 4000000 in
theorem apC_main (a : Option Addr) (len cap : Nat) (B : List Int) (v : Value) (n : Nat) (L : List Chg) (w : World) (hnil : a = none → cap = 0) (hB : B.length = len) (hB1 : len ≤ 1000) (hcap : len ≤ cap) (hmax : cap ≤ maxLen) (hat : AtCells w a (B.map (.int .u8))) (hL : L.length = n) (hn : n < 20)
    (hS : Calls Try.prog 35 #[v] w (SortD w L n)) (hbad : ∀ x ∈ L, ¬ badC x) (htk : takenC 0 (isort ltC L) = false) :
    Calls Try.prog 14 #[.slice a len cap, v] w (ApplyR w B ((isort ltC L).map img)) := by
  obtain ⟨S, hSS⟩ : ∃ S, S = isort ltC L := ⟨_, rfl⟩
  rw [← hSS] at htk ⊢
  have HS : Hid (Calls Try.prog 35 #[v] w fun e w' => ∃ v L' g, e = .returned (.tuple #[v, .int .i64 0]) ∧ w'.ownsRow w.heap.size 39 3 v n (cellsC L') ∧ L'.map img = S.map img ∧ Held w' g L' ∧ Below w.heap.size w w') := Lib.hid (hS.mono fun e w' h => by
    obtain ⟨⟨ht, _⟩ | ⟨_, v, L', g, h1, h2, h3, h4⟩, hb⟩ := h
    · rw [← hSS, htk] at ht; cases ht
    · exact ⟨v, L', g, h1, h2, by rw [hSS]; exact h3, h4, hb⟩)
  have HCH := Lib.hid (chP_of S 0 htk (fun x hx => hbad x (by rw [hSS] at hx; exact mem_isort.1 hx)))
  have HSL := Lib.hid (show S.length = n by rw [hSS, isort_length, hL])
  have HB := Lib.hid (And.intro hB (And.intro hcap hat))
  have HN := Lib.hid (And.intro hnil hB1)
  obtain ⟨i8, hi8, hz0, hz1, hz2⟩ := info_parts Try.infoU8S
  have HI8 := Lib.hid (And.intro hi8 (And.intro hz0 (And.intro hz1 hz2)))
  clear hi8 hz0 hz1 hz2
  obtain ⟨iC, hiC, hz0, hz1, hz2⟩ := info_parts Try.infoChg
  have HIC := Lib.hid (And.intro hiC (And.intro hz0 (And.intro hz1 hz2)))
  clear hiC hz0 hz1 hz2 hS hbad htk hSS hL hB hat hnil hB1
  go_enter Try.func14, Try.ntmps14
  go_wp2_with (go_at_call 35; (with_reducible refine HS.out.mono ?_); rintro e w2 ⟨v2, L2, g2, rfl, own2, him2, held2, hb2⟩; obtain ⟨a2, c2, rfl, hc2⟩ := owns_slice own2; have HL2 := Lib.hid (And.intro (AtCells.of_owns own2) (And.intro him2 (And.intro held2 hb2))); clear own2 him2 held2 hb2)
  have HLL := Lib.hid (show L2.length = n by have := congrArg List.length HL2.out.2.1; rw [List.length_map, List.length_map, HSL.out] at this; exact this)
  go_loopw [9, 10, 11, 13, 14, 25] (fun x9 x10 ev _p _q iv wr => ∃ (k e : Nat) (v9 v10 : Value) (C : List Int) (K : List Chg), v9 = x9 ∧ v10 = x10 ∧ iv = .int .i64 k ∧ ev = .int .i64 e ∧ k ≤ n ∧ e ≤ len ∧ C.length ≤ k * 20000 ∧ K.length = k ∧ Hid (AL w2 wr v9 v10 C K) ∧ Hid (apP B e C (K.map img) ((L2.drop k).map img) = apP B 0 [] [] (S.map img)) ∧ Hid (chP e ((L2.drop k).map img))) (fun _ _ _ _ _ iv _ => n - (intOf iv).toNat)
  case atStart => exact ⟨0, 0, _, _, [], [], rfl, rfl, rfl, rfl, Nat.zero_le _, Nat.zero_le _, by simp, rfl, Lib.hid ⟨World.ownsRow_nil _ _ _ _, World.ownsRow_nil _ _ _ _, fun x hx => by simp at hx, Below.refl _ _⟩, Lib.hid (by rw [List.drop_zero, HL2.out.2.1]; rfl), Lib.hid (by rw [List.drop_zero, HL2.out.2.1]; exact HCH.out)⟩
  case round =>
    obtain ⟨k, e, v9, v10, C, K, rfl, rfl, rfl, rfl, hk, he, hC, hK, HA, HP, HC⟩ := hrel
    by_cases hkn : k < n
    · obtain ⟨⟨f, t, ba, bc, bs⟩, hx⟩ : ∃ x, L2[k]? = some x := ⟨_, List.getElem?_eq_getElem (by rw [HLL.out]; omega)⟩
      have hdr : L2.drop k = (f, t, ba, bc, bs) :: L2.drop (k + 1) := by
        rw [List.drop_eq_getElem_cons (by rw [HLL.out]; exact hkn), (List.getElem?_eq_some_iff.1 hx).2]
      have HPP := HP.out
      have HCC := HC.out
      rw [hdr] at HPP HCC
      obtain ⟨bl, hbl⟩ : ∃ bl, bl = bs.length := ⟨_, rfl⟩
      have hBx : BytesAt w2 g2 (f, t, ba, bc, bs) := HL2.out.2.2.1 _ (List.mem_of_getElem? hx)
      obtain ⟨hef, hft, hch⟩ := HCC
      simp only [img] at hef hft hch
      obtain ⟨fn, rfl⟩ : ∃ m : Nat, f = m := ⟨f.toNat, by omega⟩
      obtain ⟨tn, rfl⟩ : ∃ m : Nat, t = m := ⟨t.toNat, by omega⟩
      obtain ⟨b', off', rfl, c0, c1, c2'⟩ := chg_cells (HL2.out.1.below HA.out.below) hx
      simp only at c0 c1 c2'
      rw [← hbl] at c2'
      have hkn2 : (k : Int) < (n : Int) := by omega
      have HCN := Lib.hid hch
      clear hx hdr hch
      by_cases htl : len < tn
      · have htl2 : (len : Int) < (tn : Int) := by omega
        have HF := Lib.hid (show apP B 0 [] [] (S.map img) = none by
          rw [← HPP]
          simp only [List.map_cons, apP, img]
          rw [if_pos (by rw [HB.out.1]; omega)])
        clear HPP hBx hef hft htl
        go_wp2
        go_ret3
        exact ⟨.inl ⟨HF.out, rfl⟩, (Below.more HL2.out.2.2.2 HA.out.below).alloc (Below.more HL2.out.2.2.2 HA.out.below).size _⟩
      · have htl2 : ¬ (len : Int) < (tn : Int) := by omega
        have hef2 : e ≤ fn := by omega
        have hft2 : fn ≤ tn := by omega
        have htl3 : tn ≤ len := by omega
        clear hef hft htl
        obtain ⟨D1, hD1⟩ : ∃ D, D = (B.take fn).drop e := ⟨_, rfl⟩
        obtain ⟨D2, hD2⟩ : ∃ D, D = (B.take tn).drop fn := ⟨_, rfl⟩
        have HD1 := Lib.hid (show D1.length = fn - e by rw [hD1]; exact part_len HB.out.1 hef2 (by omega))
        have HD2 := Lib.hid (show D2.length = tn - fn by rw [hD2]; exact part_len HB.out.1 hft2 htl3)
        have HQ1 := Lib.hid (fun (W : World) (hb : Below w2.heap.size w2 W) (ad : Option Addr) (h : ad = partA a cap e) => show AtCells W ad (D1.map (.int .u8)) ∧ (ad = none → fn - e = 0 ∧ cap - e = 0) from by
          subst h; rw [hD1]
          exact ⟨(partA_at HB.out.1 HB.out.2.1 HB.out.2.2 e fn hef2 (by omega)).below (Below.more HL2.out.2.2.2 hb), partA_nil HN.out.1 hef2 (by omega) HB.out.2.1⟩)
        have HQ2 := Lib.hid (fun (W : World) (hb : Below w2.heap.size w2 W) (ad : Option Addr) (h : ad = partA a cap fn) => show AtCells W ad (D2.map (.int .u8)) from by
          subst h; rw [hD2]
          exact (partA_at HB.out.1 HB.out.2.1 HB.out.2.2 fn tn hft2 htl3).below (Below.more HL2.out.2.2.2 hb))
        have HNX := Lib.hid (show apP B tn (C ++ D1 ++ bs) (K.map img ++ [((((C ++ D1).length : Nat) : Int), (((C ++ D1).length + bl : Nat) : Int), D2)]) ((L2.drop (k + 1)).map img) = apP B 0 [] [] (S.map img) by
          rw [← HPP]
          simp only [List.map_cons, apP, img]
          rw [if_neg (by rw [HB.out.1]; omega), hbl, hD1, hD2]
          rfl)
        have HBB := Lib.hid (And.intro hbl hBx)
        have hlen1 := HN.out.2
        have HCL := Lib.hid (fun (W : World) (hb : Below w2.heap.size w2 W) (ad : Option Addr) (h : ad = partA a cap fn) (m c : Nat) (hm : m = tn - fn) => cloneB_any ad m c D2 W (by rw [HD2.out, hm]) (by omega) (HQ2.out W hb ad h))
        have HA1 := Lib.hid (fun o => HA.out.next (one_ok wr o))
        obtain ⟨d0, d1⟩ : ((wr.alloc (.cells #[.int .i64 fn, .int .i64 tn, .slice ba bl bc] 39)).cell? ⟨wr.heap.size, 0, none⟩ = some (.int .i64 fn)) ∧ ((wr.alloc (.cells #[.int .i64 fn, .int .i64 tn, .slice ba bl bc] 39)).cell? ⟨wr.heap.size, 1, none⟩ = some (.int .i64 tn)) := ⟨by simp, by simp⟩
        have d2 : (wr.alloc (.cells #[.int .i64 fn, .int .i64 tn, .slice ba bl bc] 39)).cell? ⟨wr.heap.size, 2, none⟩ = some (.slice ba bl bc) := by simp
        have HNE9 := Lib.hid (show some wr.heap.size ≠ v9.ownBlock from fun h => absurd (HA.out.o9.lt _ h.symm).2 (by omega))
        have HNE10 := Lib.hid (show some wr.heap.size ≠ v10.ownBlock from fun h => absurd (HA.out.o10.lt _ h.symm).2 (by omega))
        have tok1 : True := trivial
        have hbl1 : bl ≤ 10000 := by have := hBx.few; simp only at this; omega
        clear HPP hBx hD1 hD2 hbl HP HC
        have hcs : (cap = e ∧ cap = fn) ∨ (¬ cap = e ∧ cap = fn) ∨ (¬ cap = e ∧ ¬ cap = fn) := by omega
        rcases hcs with ⟨h1, h2⟩ | ⟨h1, h2⟩ | ⟨h1, h2⟩
        · skip
          have HD2z := Lib.hid (show D2.length = 0 by have := HD2.out; omega)
          have HD1z := Lib.hid (show D1.length = 0 by have := HD1.out; omega)
          subst h2
          subst h1
          go_wp2_with (at_builtin; (have _t := tok1); refine wpList_append_sep rfl _ _ 22 rfl w2.heap.size 5 i8 _ 1 1 Try.underlying22 HI8.out.1 HI8.out.2.1 HI8.out.2.2.1 HI8.out.2.2.2 rfl (by decide) _ C.length _ rfl (HA1.out _).o9 _ _ _ (D1.map (.int .u8)) rfl (fun h => by have := (HQ1.out _ (HA1.out (.cells #[.int .i64 cap, .int .i64 tn, .slice ba bl bc] 39)).below _ (by unfold partA; split <;> first | rfl | (exfalso; omega))).2 h; omega) (by rw [List.length_map, HD1z.out]) (HQ1.out _ (HA1.out _).below _ (by unfold partA; split <;> first | rfl | (exfalso; omega))).1 (one_u8 D1) (by unfold maxLen; omega) (by omega) (HA1.out _).below.size _ rfl ?_; clear tok1 _t; intro v9' w4 own4 gr4 sep4; obtain ⟨a9, c9, rfl, hc9⟩ := owns_slice own4; have HA2 := Lib.hid ((HA1.out _).app9 (by rw [HD1z.out]) own4 gr4 sep4); have e0 := gr4.cell (a := ⟨wr.heap.size, 0, none⟩) d0 HNE9.out; have e1 := gr4.cell (a := ⟨wr.heap.size, 1, none⟩) d1 HNE9.out; have e2 := gr4.cell (a := ⟨wr.heap.size, 2, none⟩) d2 HNE9.out; have hz4 := gr4.size; have HNE9b := Lib.hid (show some wr.heap.size ≠ (Value.slice a9 (C.length + 0) c9).ownBlock from fun h => by (rcases sep4 with s | s); (exact HNE9.out (h.trans s)); (rw [s] at h; simp at h)); clear own4 gr4 sep4 hc9 d0 d1 d2; obtain ⟨q, hq⟩ : ∃ q, q = C.length + 0 := ⟨_, rfl⟩; (simp only [← hq] at HA2 HNE9b ⊢); have hq2 : q ≤ 400000 := (by omega); have hq3 : q ≤ k * 20000 + 1000 := (by omega); have HQL := Lib.hid (show (C ++ D1).length = q by rw [List.length_append, HD1z.out, hq]); clear hq; have tok2 : True := trivial)
          have f0 : (w4.alloc (.cells #[.int .i64 q, .int .i64 ((q : Int) + bl)] 37)).cell? ⟨w4.heap.size, 0, none⟩ = some (.int .i64 q) := by simp
          have f1 : (w4.alloc (.cells #[.int .i64 q, .int .i64 ((q : Int) + bl)] 37)).cell? ⟨w4.heap.size, 1, none⟩ = some (.int .i64 ((q : Int) + bl)) := by simp
          have X0 := kp_alloc (.cells #[.int .i64 q, .int .i64 ((q : Int) + bl)] 37) e0
          have X1 := kp_alloc (.cells #[.int .i64 q, .int .i64 ((q : Int) + bl)] 37) e1
          have X2 := kp_alloc (.cells #[.int .i64 q, .int .i64 ((q : Int) + bl)] 37) e2
          have HA3 := Lib.hid (HA2.out.next (one_ok w4 (.cells #[.int .i64 q, .int .i64 ((q : Int) + bl)] 37)))
          obtain ⟨W5, hW5⟩ : ∃ W5, W5 = w4.alloc (.cells #[.int .i64 q, .int .i64 ((q : Int) + bl)] 37) := ⟨_, rfl⟩
          obtain ⟨P2, hP2⟩ : ∃ P2, P2 = w4.heap.size := ⟨_, rfl⟩
          rw [← hW5] at f0 f1 X0 X1 X2 HA3 ⊢
          rw [← hP2] at f0 f1 ⊢
          have HNP10 := Lib.hid (show some P2 ≠ v10.ownBlock from fun h => absurd (HA2.out.o10.lt _ h.symm).2 (by omega))
          have X3 := f0
          have X4 := f1
          have HC5 := Lib.hid (fun ad h m c hm => HCL.out W5.drew HA3.out.below.drew ad h m c hm)
          clear f0 f1 hW5 e0 e1 e2 hP2 HA2
          go_region_held_law (fun W => W.cell? ⟨wr.heap.size, 0, none⟩ = some (.int .i64 cap) ∧ W.cell? ⟨wr.heap.size, 1, none⟩ = some (.int .i64 tn) ∧ W.cell? ⟨P2, 0, none⟩ = some (.int .i64 q) ∧ W.cell? ⟨P2, 1, none⟩ = some (.int .i64 ((q : Int) + bl)))
            ((refine ⟨?_, ?_, ?_, ?_⟩ <;> (repeat (first | (with_reducible exact X0) | (with_reducible exact X1) | (with_reducible exact X3) | (with_reducible exact X4) | (with_reducible exact E0) | (with_reducible exact E1) | (with_reducible exact E3) | (with_reducible exact E4) | (with_reducible exact G0) | (with_reducible exact G1) | (with_reducible exact G3) | (with_reducible exact G4) | (with_reducible refine kp_alloc _ ?_) | (with_reducible refine kp_drew ?_)))))
            (first
              | (go_at_call 36; (with_reducible refine (HC5.out _ (by unfold partA; split <;> first | rfl | (exfalso; omega)) _ _ (by omega)).mono ?_); rintro e' w6 ⟨v3, rfl, own3, hb3⟩; obtain ⟨a3, c3, rfl, hc3⟩ := owns_slice own3; have HA6 := Lib.hid ((HA3.out.next (Below.refl _ W5).drew).next hb3); have HO3 := Lib.hid (And.intro own3 hc3); have E0 := kp_bel hb3 (kp_drew X0); have E1 := kp_bel hb3 (kp_drew X1); have E2 := kp_bel hb3 (kp_drew X2); have E3 := kp_bel hb3 (kp_drew X3); have E4 := kp_bel hb3 (kp_drew X4); clear own3 hb3 hc3)
              | (refine step_append_lies _ rfl _ _ 26 rfl w2.heap.size 39 iC _ 3 40 Try.underlying26 HIC.out.1 HIC.out.2.1 HIC.out.2.2.1 HIC.out.2.2.2 rfl (by decide) v10 K.length (cellsC K) rfl (owns_below HA6.out.o10 (one_ok w6 _)) ⟨w6.heap.size, 0, none⟩ 1 1 [.int .i64 q, .int .i64 ((q : Int) + bl), .slice a3 0 c3] rfl rfl (new_cells_at w6 _ _ _ rfl) (one_chg _ _ _ _ _) (by decide) (by unfold maxLen; omega) (by omega) (Nat.le_trans HA6.out.below.size (one_ok w6 _).size) _ rfl ?_; intro g gc w7 own7 g7 at7 _; have HA7 := Lib.hid (AL.app10 (x := ((q : Int), (q : Int) + bl, a3, c3, D2)) (HA6.out.next (one_ok w6 _)) (by (rw [show encC ((q : Int), (q : Int) + bl, a3, c3, D2) = [.int .i64 q, .int .i64 ((q : Int) + bl), .slice a3 0 c3] by (simp only [encC]; rw [HD2z.out])]); exact own7) g7 (sep_of at7) ((BytesO.fresh (x := ((q : Int), (q : Int) + bl, a3, c3, D2)) (by (simp only [HD2z.out]); exact HO3.out.1) (fun k hk => (HA3.out.o9.lt k hk).2) (fun k hk => (HA3.out.o10.lt k hk).2) (by (simp only [HD2z.out]); exact HO3.out.2) (by (simp only [HD2z.out]); omega)).below (one_ok w6 _))); have G0 := g7.cell (a := ⟨wr.heap.size, 0, none⟩) (kp_alloc _ E0) HNE10.out; have G1 := g7.cell (a := ⟨wr.heap.size, 1, none⟩) (kp_alloc _ E1) HNE10.out; have G2 := g7.cell (a := ⟨wr.heap.size, 2, none⟩) (kp_alloc _ E2) HNE10.out; have G3 := g7.cell (a := ⟨P2, 0, none⟩) (kp_alloc _ E3) HNP10.out; have G4 := g7.cell (a := ⟨P2, 1, none⟩) (kp_alloc _ E4) HNP10.out; clear own7 g7 at7))
          go_wp2_with (at_builtin; (have _t := tok2); refine wpList_append_sep rfl _ _ 22 rfl w2.heap.size 5 i8 _ 1 1 Try.underlying22 HI8.out.1 HI8.out.2.1 HI8.out.2.2.1 HI8.out.2.2.2 rfl (by decide) _ (C ++ D1).length _ rfl HA7.out.o9 _ _ _ (bs.map (.int .u8)) rfl (fun h => by have := HBB.out.2.none_ h; simp only at this; rw [← HBB.out.1] at this; exact this) (by rw [List.length_map, HBB.out.1, Nat.mul_one]) (HBB.out.2.at_.below HA7.out.below) (one_u8 bs) (by have := HQL.out; unfold maxLen; omega) (by have := HQL.out; omega) HA7.out.below.size _ rfl ?_; clear tok2 _t; intro v9'' w8 own8 gr8 sep8; have HA8 := Lib.hid (HA7.out.app9 HBB.out.1 own8 gr8 sep8); have k1 := gr8.cell (a := ⟨wr.heap.size, 1, none⟩) G1 HNE9b.out; clear own8 gr8 sep8; have tok3 : True := trivial)
          go_roundw
          case rel => exact ⟨k + 1, tn, _, _, C ++ D1 ++ bs, K ++ [((q : Int), (q : Int) + bl, a3, c3, D2)], rfl, rfl, by go_num, rfl, by omega, htl3, by have h1 := HQL.out; have h2 := HBB.out.1; rw [List.length_append, h1]; omega, by rw [List.length_append, hK]; rfl, Lib.hid (by have h := HA8.out; simp only [hK] at h; exact h), Lib.hid (by
              rw [List.map_append, show [((q : Int), (q : Int) + bl, a3, c3, D2)].map img = [((((C ++ D1).length : Nat) : Int), (((C ++ D1).length + bl : Nat) : Int), D2)] by simp [img, HQL.out]]
              exact HNX.out), HCN⟩
          case measure => simp [intOf]; omega
        · skip
          have HD2z := Lib.hid (show D2.length = 0 by have := HD2.out; omega)
          subst h2
          go_wp2_with (at_builtin; (have _t := tok1); refine wpList_append_sep rfl _ _ 22 rfl w2.heap.size 5 i8 _ 1 1 Try.underlying22 HI8.out.1 HI8.out.2.1 HI8.out.2.2.1 HI8.out.2.2.2 rfl (by decide) _ C.length _ rfl (HA1.out _).o9 _ _ _ (D1.map (.int .u8)) rfl (fun h => by have := (HQ1.out _ (HA1.out (.cells #[.int .i64 cap, .int .i64 tn, .slice ba bl bc] 39)).below _ (by unfold partA; split <;> first | rfl | (exfalso; omega))).2 h; omega) (by rw [List.length_map, HD1.out]; omega) (HQ1.out _ (HA1.out _).below _ (by unfold partA; split <;> first | rfl | (exfalso; omega))).1 (one_u8 D1) (by unfold maxLen; omega) (by omega) (HA1.out _).below.size _ rfl ?_; clear tok1 _t; intro v9' w4 own4 gr4 sep4; obtain ⟨a9, c9, rfl, hc9⟩ := owns_slice own4; have HA2 := Lib.hid ((HA1.out _).app9 (by rw [HD1.out]) own4 gr4 sep4); have e0 := gr4.cell (a := ⟨wr.heap.size, 0, none⟩) d0 HNE9.out; have e1 := gr4.cell (a := ⟨wr.heap.size, 1, none⟩) d1 HNE9.out; have e2 := gr4.cell (a := ⟨wr.heap.size, 2, none⟩) d2 HNE9.out; have hz4 := gr4.size; have HNE9b := Lib.hid (show some wr.heap.size ≠ (Value.slice a9 (C.length + (cap - e)) c9).ownBlock from fun h => by (rcases sep4 with s | s); (exact HNE9.out (h.trans s)); (rw [s] at h; simp at h)); clear own4 gr4 sep4 hc9 d0 d1 d2; obtain ⟨q, hq⟩ : ∃ q, q = C.length + (cap - e) := ⟨_, rfl⟩; (simp only [← hq] at HA2 HNE9b ⊢); have hq2 : q ≤ 400000 := (by omega); have hq3 : q ≤ k * 20000 + 1000 := (by omega); have HQL := Lib.hid (show (C ++ D1).length = q by rw [List.length_append, HD1.out, hq]); clear hq; have tok2 : True := trivial)
          have f0 : (w4.alloc (.cells #[.int .i64 q, .int .i64 ((q : Int) + bl)] 37)).cell? ⟨w4.heap.size, 0, none⟩ = some (.int .i64 q) := by simp
          have f1 : (w4.alloc (.cells #[.int .i64 q, .int .i64 ((q : Int) + bl)] 37)).cell? ⟨w4.heap.size, 1, none⟩ = some (.int .i64 ((q : Int) + bl)) := by simp
          have X0 := kp_alloc (.cells #[.int .i64 q, .int .i64 ((q : Int) + bl)] 37) e0
          have X1 := kp_alloc (.cells #[.int .i64 q, .int .i64 ((q : Int) + bl)] 37) e1
          have X2 := kp_alloc (.cells #[.int .i64 q, .int .i64 ((q : Int) + bl)] 37) e2
          have HA3 := Lib.hid (HA2.out.next (one_ok w4 (.cells #[.int .i64 q, .int .i64 ((q : Int) + bl)] 37)))
          obtain ⟨W5, hW5⟩ : ∃ W5, W5 = w4.alloc (.cells #[.int .i64 q, .int .i64 ((q : Int) + bl)] 37) := ⟨_, rfl⟩
          obtain ⟨P2, hP2⟩ : ∃ P2, P2 = w4.heap.size := ⟨_, rfl⟩
          rw [← hW5] at f0 f1 X0 X1 X2 HA3 ⊢
          rw [← hP2] at f0 f1 ⊢
          have HNP10 := Lib.hid (show some P2 ≠ v10.ownBlock from fun h => absurd (HA2.out.o10.lt _ h.symm).2 (by omega))
          have X3 := f0
          have X4 := f1
          have HC5 := Lib.hid (fun ad h m c hm => HCL.out W5.drew HA3.out.below.drew ad h m c hm)
          clear f0 f1 hW5 e0 e1 e2 hP2 HA2
          go_region_held_law (fun W => W.cell? ⟨wr.heap.size, 0, none⟩ = some (.int .i64 cap) ∧ W.cell? ⟨wr.heap.size, 1, none⟩ = some (.int .i64 tn) ∧ W.cell? ⟨P2, 0, none⟩ = some (.int .i64 q) ∧ W.cell? ⟨P2, 1, none⟩ = some (.int .i64 ((q : Int) + bl)))
            ((refine ⟨?_, ?_, ?_, ?_⟩ <;> (repeat (first | (with_reducible exact X0) | (with_reducible exact X1) | (with_reducible exact X3) | (with_reducible exact X4) | (with_reducible exact E0) | (with_reducible exact E1) | (with_reducible exact E3) | (with_reducible exact E4) | (with_reducible exact G0) | (with_reducible exact G1) | (with_reducible exact G3) | (with_reducible exact G4) | (with_reducible refine kp_alloc _ ?_) | (with_reducible refine kp_drew ?_)))))
            (first
              | (go_at_call 36; (with_reducible refine (HC5.out _ (by unfold partA; split <;> first | rfl | (exfalso; omega)) _ _ (by omega)).mono ?_); rintro e' w6 ⟨v3, rfl, own3, hb3⟩; obtain ⟨a3, c3, rfl, hc3⟩ := owns_slice own3; have HA6 := Lib.hid ((HA3.out.next (Below.refl _ W5).drew).next hb3); have HO3 := Lib.hid (And.intro own3 hc3); have E0 := kp_bel hb3 (kp_drew X0); have E1 := kp_bel hb3 (kp_drew X1); have E2 := kp_bel hb3 (kp_drew X2); have E3 := kp_bel hb3 (kp_drew X3); have E4 := kp_bel hb3 (kp_drew X4); clear own3 hb3 hc3)
              | (refine step_append_lies _ rfl _ _ 26 rfl w2.heap.size 39 iC _ 3 40 Try.underlying26 HIC.out.1 HIC.out.2.1 HIC.out.2.2.1 HIC.out.2.2.2 rfl (by decide) v10 K.length (cellsC K) rfl (owns_below HA6.out.o10 (one_ok w6 _)) ⟨w6.heap.size, 0, none⟩ 1 1 [.int .i64 q, .int .i64 ((q : Int) + bl), .slice a3 0 c3] rfl rfl (new_cells_at w6 _ _ _ rfl) (one_chg _ _ _ _ _) (by decide) (by unfold maxLen; omega) (by omega) (Nat.le_trans HA6.out.below.size (one_ok w6 _).size) _ rfl ?_; intro g gc w7 own7 g7 at7 _; have HA7 := Lib.hid (AL.app10 (x := ((q : Int), (q : Int) + bl, a3, c3, D2)) (HA6.out.next (one_ok w6 _)) (by (rw [show encC ((q : Int), (q : Int) + bl, a3, c3, D2) = [.int .i64 q, .int .i64 ((q : Int) + bl), .slice a3 0 c3] by (simp only [encC]; rw [HD2z.out])]); exact own7) g7 (sep_of at7) ((BytesO.fresh (x := ((q : Int), (q : Int) + bl, a3, c3, D2)) (by (simp only [HD2z.out]); exact HO3.out.1) (fun k hk => (HA3.out.o9.lt k hk).2) (fun k hk => (HA3.out.o10.lt k hk).2) (by (simp only [HD2z.out]); exact HO3.out.2) (by (simp only [HD2z.out]); omega)).below (one_ok w6 _))); have G0 := g7.cell (a := ⟨wr.heap.size, 0, none⟩) (kp_alloc _ E0) HNE10.out; have G1 := g7.cell (a := ⟨wr.heap.size, 1, none⟩) (kp_alloc _ E1) HNE10.out; have G2 := g7.cell (a := ⟨wr.heap.size, 2, none⟩) (kp_alloc _ E2) HNE10.out; have G3 := g7.cell (a := ⟨P2, 0, none⟩) (kp_alloc _ E3) HNP10.out; have G4 := g7.cell (a := ⟨P2, 1, none⟩) (kp_alloc _ E4) HNP10.out; clear own7 g7 at7))
          go_wp2_with (at_builtin; (have _t := tok2); refine wpList_append_sep rfl _ _ 22 rfl w2.heap.size 5 i8 _ 1 1 Try.underlying22 HI8.out.1 HI8.out.2.1 HI8.out.2.2.1 HI8.out.2.2.2 rfl (by decide) _ (C ++ D1).length _ rfl HA7.out.o9 _ _ _ (bs.map (.int .u8)) rfl (fun h => by have := HBB.out.2.none_ h; simp only at this; rw [← HBB.out.1] at this; exact this) (by rw [List.length_map, HBB.out.1, Nat.mul_one]) (HBB.out.2.at_.below HA7.out.below) (one_u8 bs) (by have := HQL.out; unfold maxLen; omega) (by have := HQL.out; omega) HA7.out.below.size _ rfl ?_; clear tok2 _t; intro v9'' w8 own8 gr8 sep8; have HA8 := Lib.hid (HA7.out.app9 HBB.out.1 own8 gr8 sep8); have k1 := gr8.cell (a := ⟨wr.heap.size, 1, none⟩) G1 HNE9b.out; clear own8 gr8 sep8; have tok3 : True := trivial)
          go_roundw
          case rel => exact ⟨k + 1, tn, _, _, C ++ D1 ++ bs, K ++ [((q : Int), (q : Int) + bl, a3, c3, D2)], rfl, rfl, by go_num, rfl, by omega, htl3, by have h1 := HQL.out; have h2 := HBB.out.1; rw [List.length_append, h1]; omega, by rw [List.length_append, hK]; rfl, Lib.hid (by have h := HA8.out; simp only [hK] at h; exact h), Lib.hid (by
              rw [List.map_append, show [((q : Int), (q : Int) + bl, a3, c3, D2)].map img = [((((C ++ D1).length : Nat) : Int), (((C ++ D1).length + bl : Nat) : Int), D2)] by simp [img, HQL.out]]
              exact HNX.out), HCN⟩
          case measure => simp [intOf]; omega
        · skip
          go_wp2_with (at_builtin; (have _t := tok1); refine wpList_append_sep rfl _ _ 22 rfl w2.heap.size 5 i8 _ 1 1 Try.underlying22 HI8.out.1 HI8.out.2.1 HI8.out.2.2.1 HI8.out.2.2.2 rfl (by decide) _ C.length _ rfl (HA1.out _).o9 _ _ _ (D1.map (.int .u8)) rfl (fun h => by have := (HQ1.out _ (HA1.out (.cells #[.int .i64 fn, .int .i64 tn, .slice ba bl bc] 39)).below _ (by unfold partA; split <;> first | rfl | (exfalso; omega))).2 h; omega) (by rw [List.length_map, HD1.out]; omega) (HQ1.out _ (HA1.out _).below _ (by unfold partA; split <;> first | rfl | (exfalso; omega))).1 (one_u8 D1) (by unfold maxLen; omega) (by omega) (HA1.out _).below.size _ rfl ?_; clear tok1 _t; intro v9' w4 own4 gr4 sep4; obtain ⟨a9, c9, rfl, hc9⟩ := owns_slice own4; have HA2 := Lib.hid ((HA1.out _).app9 (by rw [HD1.out]) own4 gr4 sep4); have e0 := gr4.cell (a := ⟨wr.heap.size, 0, none⟩) d0 HNE9.out; have e1 := gr4.cell (a := ⟨wr.heap.size, 1, none⟩) d1 HNE9.out; have e2 := gr4.cell (a := ⟨wr.heap.size, 2, none⟩) d2 HNE9.out; have hz4 := gr4.size; have HNE9b := Lib.hid (show some wr.heap.size ≠ (Value.slice a9 (C.length + (fn - e)) c9).ownBlock from fun h => by (rcases sep4 with s | s); (exact HNE9.out (h.trans s)); (rw [s] at h; simp at h)); clear own4 gr4 sep4 hc9 d0 d1 d2; obtain ⟨q, hq⟩ : ∃ q, q = C.length + (fn - e) := ⟨_, rfl⟩; (simp only [← hq] at HA2 HNE9b ⊢); have hq2 : q ≤ 400000 := (by omega); have hq3 : q ≤ k * 20000 + 1000 := (by omega); have HQL := Lib.hid (show (C ++ D1).length = q by rw [List.length_append, HD1.out, hq]); clear hq; have tok2 : True := trivial)
          have f0 : (w4.alloc (.cells #[.int .i64 q, .int .i64 ((q : Int) + bl)] 37)).cell? ⟨w4.heap.size, 0, none⟩ = some (.int .i64 q) := by simp
          have f1 : (w4.alloc (.cells #[.int .i64 q, .int .i64 ((q : Int) + bl)] 37)).cell? ⟨w4.heap.size, 1, none⟩ = some (.int .i64 ((q : Int) + bl)) := by simp
          have X0 := kp_alloc (.cells #[.int .i64 q, .int .i64 ((q : Int) + bl)] 37) e0
          have X1 := kp_alloc (.cells #[.int .i64 q, .int .i64 ((q : Int) + bl)] 37) e1
          have X2 := kp_alloc (.cells #[.int .i64 q, .int .i64 ((q : Int) + bl)] 37) e2
          have HA3 := Lib.hid (HA2.out.next (one_ok w4 (.cells #[.int .i64 q, .int .i64 ((q : Int) + bl)] 37)))
          obtain ⟨W5, hW5⟩ : ∃ W5, W5 = w4.alloc (.cells #[.int .i64 q, .int .i64 ((q : Int) + bl)] 37) := ⟨_, rfl⟩
          obtain ⟨P2, hP2⟩ : ∃ P2, P2 = w4.heap.size := ⟨_, rfl⟩
          rw [← hW5] at f0 f1 X0 X1 X2 HA3 ⊢
          rw [← hP2] at f0 f1 ⊢
          have HNP10 := Lib.hid (show some P2 ≠ v10.ownBlock from fun h => absurd (HA2.out.o10.lt _ h.symm).2 (by omega))
          have X3 := f0
          have X4 := f1
          have HC5 := Lib.hid (fun ad h m c hm => HCL.out W5.drew HA3.out.below.drew ad h m c hm)
          clear f0 f1 hW5 e0 e1 e2 hP2 HA2
          go_region_held_law (fun W => W.cell? ⟨wr.heap.size, 0, none⟩ = some (.int .i64 fn) ∧ W.cell? ⟨wr.heap.size, 1, none⟩ = some (.int .i64 tn) ∧ W.cell? ⟨P2, 0, none⟩ = some (.int .i64 q) ∧ W.cell? ⟨P2, 1, none⟩ = some (.int .i64 ((q : Int) + bl)))
            ((refine ⟨?_, ?_, ?_, ?_⟩ <;> (repeat (first | (with_reducible exact X0) | (with_reducible exact X1) | (with_reducible exact X3) | (with_reducible exact X4) | (with_reducible exact E0) | (with_reducible exact E1) | (with_reducible exact E3) | (with_reducible exact E4) | (with_reducible exact G0) | (with_reducible exact G1) | (with_reducible exact G3) | (with_reducible exact G4) | (with_reducible refine kp_alloc _ ?_) | (with_reducible refine kp_drew ?_)))))
            (first
              | (go_at_call 36; (with_reducible refine (HC5.out _ (by unfold partA; split <;> first | rfl | (exfalso; omega)) _ _ (by omega)).mono ?_); rintro e' w6 ⟨v3, rfl, own3, hb3⟩; obtain ⟨a3, c3, rfl, hc3⟩ := owns_slice own3; have HA6 := Lib.hid ((HA3.out.next (Below.refl _ W5).drew).next hb3); have HO3 := Lib.hid (And.intro own3 hc3); have E0 := kp_bel hb3 (kp_drew X0); have E1 := kp_bel hb3 (kp_drew X1); have E2 := kp_bel hb3 (kp_drew X2); have E3 := kp_bel hb3 (kp_drew X3); have E4 := kp_bel hb3 (kp_drew X4); clear own3 hb3 hc3)
              | (refine step_append_lies _ rfl _ _ 26 rfl w2.heap.size 39 iC _ 3 40 Try.underlying26 HIC.out.1 HIC.out.2.1 HIC.out.2.2.1 HIC.out.2.2.2 rfl (by decide) v10 K.length (cellsC K) rfl (owns_below HA6.out.o10 (one_ok w6 _)) ⟨w6.heap.size, 0, none⟩ 1 1 [.int .i64 q, .int .i64 ((q : Int) + bl), .slice a3 (tn - fn) c3] rfl rfl (new_cells_at w6 _ _ _ rfl) (one_chg _ _ _ _ _) (by decide) (by unfold maxLen; omega) (by omega) (Nat.le_trans HA6.out.below.size (one_ok w6 _).size) _ rfl ?_; intro g gc w7 own7 g7 at7 _; have HA7 := Lib.hid (AL.app10 (x := ((q : Int), (q : Int) + bl, a3, c3, D2)) (HA6.out.next (one_ok w6 _)) (by (rw [show encC ((q : Int), (q : Int) + bl, a3, c3, D2) = [.int .i64 q, .int .i64 ((q : Int) + bl), .slice a3 (tn - fn) c3] by (simp only [encC]; rw [HD2.out])]); exact own7) g7 (sep_of at7) ((BytesO.fresh (x := ((q : Int), (q : Int) + bl, a3, c3, D2)) (by (simp only [HD2.out]); exact HO3.out.1) (fun k hk => (HA3.out.o9.lt k hk).2) (fun k hk => (HA3.out.o10.lt k hk).2) (by (simp only [HD2.out]); exact HO3.out.2) (by (simp only [HD2.out]); omega)).below (one_ok w6 _))); have G0 := g7.cell (a := ⟨wr.heap.size, 0, none⟩) (kp_alloc _ E0) HNE10.out; have G1 := g7.cell (a := ⟨wr.heap.size, 1, none⟩) (kp_alloc _ E1) HNE10.out; have G2 := g7.cell (a := ⟨wr.heap.size, 2, none⟩) (kp_alloc _ E2) HNE10.out; have G3 := g7.cell (a := ⟨P2, 0, none⟩) (kp_alloc _ E3) HNP10.out; have G4 := g7.cell (a := ⟨P2, 1, none⟩) (kp_alloc _ E4) HNP10.out; clear own7 g7 at7))
          go_wp2_with (at_builtin; (have _t := tok2); refine wpList_append_sep rfl _ _ 22 rfl w2.heap.size 5 i8 _ 1 1 Try.underlying22 HI8.out.1 HI8.out.2.1 HI8.out.2.2.1 HI8.out.2.2.2 rfl (by decide) _ (C ++ D1).length _ rfl HA7.out.o9 _ _ _ (bs.map (.int .u8)) rfl (fun h => by have := HBB.out.2.none_ h; simp only at this; rw [← HBB.out.1] at this; exact this) (by rw [List.length_map, HBB.out.1, Nat.mul_one]) (HBB.out.2.at_.below HA7.out.below) (one_u8 bs) (by have := HQL.out; unfold maxLen; omega) (by have := HQL.out; omega) HA7.out.below.size _ rfl ?_; clear tok2 _t; intro v9'' w8 own8 gr8 sep8; have HA8 := Lib.hid (HA7.out.app9 HBB.out.1 own8 gr8 sep8); have k1 := gr8.cell (a := ⟨wr.heap.size, 1, none⟩) G1 HNE9b.out; clear own8 gr8 sep8; have tok3 : True := trivial)
          go_roundw
          case rel => exact ⟨k + 1, tn, _, _, C ++ D1 ++ bs, K ++ [((q : Int), (q : Int) + bl, a3, c3, D2)], rfl, rfl, by go_num, rfl, by omega, htl3, by have h1 := HQL.out; have h2 := HBB.out.1; rw [List.length_append, h1]; omega, by rw [List.length_append, hK]; rfl, Lib.hid (by have h := HA8.out; simp only [hK] at h; exact h), Lib.hid (by
              rw [List.map_append, show [((q : Int), (q : Int) + bl, a3, c3, D2)].map img = [((((C ++ D1).length : Nat) : Int), (((C ++ D1).length + bl : Nat) : Int), D2)] by simp [img, HQL.out]]
              exact HNX.out), HCN⟩
          case measure => simp [intOf]; omega
    · obtain rfl : k = n := by omega
      have hfin := HP.out
      rw [List.drop_eq_nil_of_le (by rw [HLL.out]; exact Nat.le_refl _)] at hfin
      simp only [List.map_nil, apP] at hfin
      obtain ⟨D3, hD3⟩ : ∃ D, D = (B.take len).drop e := ⟨_, rfl⟩
      have hD3' : B.drop e = D3 := by rw [hD3, List.take_of_length_le (by rw [HB.out.1]; exact Nat.le_refl _)]
      rw [hD3'] at hfin
      have HFN := Lib.hid hfin
      have HD3 := Lib.hid (show D3.length = len - e by rw [hD3]; exact part_len HB.out.1 he (Nat.le_refl _))
      have HQ3 := Lib.hid (fun (W : World) (hb : Below w2.heap.size w2 W) (ad : Option Addr) (h : ad = partA a cap e) => show AtCells W ad (D3.map (.int .u8)) ∧ (ad = none → len - e = 0 ∧ cap - e = 0) from by
        subst h; rw [hD3]
        exact ⟨(partA_at HB.out.1 HB.out.2.1 HB.out.2.2 e len he (Nat.le_refl _)).below (Below.more HL2.out.2.2.2 hb), partA_nil HN.out.1 he (Nat.le_refl _) HB.out.2.1⟩)
      have hlen1 := HN.out.2
      have hknf : ¬ (k : Int) < (k : Int) := by omega
      clear hfin hD3 hD3' HP HC hkn
      have hcs : cap = e ∨ ¬ cap = e := by omega
      rcases hcs with h1 | h1
      all_goals
        go_wp2_with (at_builtin; refine wpList_append_sep rfl _ _ 22 rfl w2.heap.size 5 i8 _ 1 1 Try.underlying22 HI8.out.1 HI8.out.2.1 HI8.out.2.2.1 HI8.out.2.2.2 rfl (by decide) _ C.length _ rfl HA.out.o9 _ _ _ (D3.map (.int .u8)) rfl (fun h => by have := (HQ3.out _ HA.out.below _ (by unfold partA; split <;> first | rfl | (exfalso; omega))).2 h; omega) (by rw [List.length_map, HD3.out]; omega) (HQ3.out _ HA.out.below _ (by unfold partA; split <;> first | rfl | (exfalso; omega))).1 (one_u8 D3) (by unfold maxLen; omega) (by omega) HA.out.below.size _ rfl ?_; intro v9' w4 own4 gr4 sep4; have HA2 := Lib.hid (HA.out.app9 (by rw [HD3.out]) own4 gr4 sep4); clear own4 gr4 sep4)
        go_ret3
        have hz0 := HL2.out.2.2.2.size
        exact ⟨.inr ⟨_, _, C ++ D3, K, HFN.out.symm, rfl, owns_lower HA2.out.o9 hz0, owns_lower HA2.out.o10 hz0, HA2.out.held, by rw [List.length_append, HD3.out, List.length_map, HSL.out]; omega, by rw [List.length_map, HSL.out, hK]⟩, Below.more HL2.out.2.2.2 HA2.out.below⟩

end Go.Proofs.Ytbljgoieieoamaa
