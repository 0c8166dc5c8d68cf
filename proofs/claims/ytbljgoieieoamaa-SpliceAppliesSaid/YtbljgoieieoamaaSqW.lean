/-
  The reference of layer 12: Apply, where nothing is refused.
-/
import Derived.Test.YtbljgoieieoamaaSqV
namespace Go.Proofs.Ytbljgoieieoamaa
open Go.Shelf Go.RowKit Go.Lib Go.Sort
set_option linter.unusedVariables false

/-- What the reference's Apply answers where nothing is refused. -/
def RaR (w : World) (B : List Int) (S : List Chg) (n : Nat) (e : Ending) (w' : World) : Prop :=
  ∃ v9 v10 K, e = .returned (.tuple #[v9, v10, .int .i64 0]) ∧ w'.ownsRow w.heap.size 5 1 v9 (revP B (S.map img)).length ((revP B (S.map img)).map (.int .u8)) ∧ w'.ownsRow w.heap.size 66 3 v10 n (cellsC K) ∧ K.map img = backP B 0 (S.map img) ∧ (∀ x ∈ K, BytesW w' x) ∧ Below w.heap.size w w'

set_option maxRecDepth 20000 in
set_option maxHeartbeats 4000000 in
theorem raC_main {a : Option Addr} {len cap : Nat} {B : List Int} (v : Value) (n : Nat) (S : List Chg) (w : World) (RB : RowB w a len cap B) (hn : n ≤ 20) (hl : S.length = n)
    (hS : Calls Try.prog 37 #[v] w fun e w' => ∃ v, e = .returned (.tuple #[v, .int .i64 0]) ∧ w'.ownsRow w.heap.size 66 3 v n (cellsC S) ∧ Below w.heap.size w w') (hH : Held w w.heap.size S) (hsh : ∀ x ∈ S, x.2.2.2.2.length ≤ 80) (hch : chP 0 (S.map img)) (hok : ∀ x ∈ S, x.2.1 ≤ (len : Int)) :
    Calls Try.prog 16 #[.slice a len cap, v] w (RaR w B S n) := by
  have HS := Lib.hid hS
  have HL := Lib.hid hl
  have HB := Lib.hid RB
  have HH := Lib.hid (And.intro hH (And.intro hsh (And.intro hch hok)))
  have HCH : Hid (∀ (j : Nat) (x : Chg), S[j]? = some x → 0 ≤ x.1 ∧ x.1 ≤ x.2.1 ∧ chP x.2.1 ((S.drop (j + 1)).map img)) := Lib.hid (fun j x hx => by
    have h := chP_drop (S.map img) 0 j (img x) hch (by rw [List.getElem?_map, hx]; rfl)
    rw [← List.map_drop] at h
    exact h)
  have HRL := Lib.hid (show ∀ j, (revP B ((S.drop j).map img)).length ≤ 3000 from fun j => by
    have h := revP_len B ((S.drop j).map img) (fun x hx => by
      obtain ⟨y, hy, rfl⟩ := List.mem_map.1 hx
      have hyS := List.mem_of_mem_drop hy
      obtain ⟨q, hq⟩ := List.getElem?_of_mem hyS
      have h2 := chP_drop (S.map img) 0 q (img y) hch (by rw [List.getElem?_map, hq]; rfl)
      exact ⟨hsh y hyS, h2.2.1⟩)
    rw [List.length_map, List.length_drop, RB.length] at h
    have := RB.few
    omega)
  have HN := Lib.hid hn
  obtain ⟨i8, hi8, hz0, hz1, hz2⟩ := info_parts Try.infoU8S
  have HI8 := Lib.hid (And.intro hi8 (And.intro hz0 (And.intro hz1 hz2)))
  clear hi8 hz0 hz1 hz2
  obtain ⟨iC, hiC, hz0, hz1, hz2⟩ := info_parts Try.infoRC
  have HIC := Lib.hid (And.intro hiC (And.intro hz0 (And.intro hz1 hz2)))
  have hle := RB.le
  have hfew := RB.few
  clear hiC hz0 hz1 hz2 hS hl RB hH hsh hch hok
  go_enter Try.func16, Try.ntmps16
  go_wp2_with (go_at_call 37; (with_reducible refine HS.out.mono ?_); rintro e w2 ⟨v2, rfl, own2, hb2⟩; obtain ⟨a2, c2, rfl, hc2⟩ := owns_slice own2; have HAT := Lib.hid (And.intro (AtCells.of_owns own2) hb2); clear own2 hb2)
  go_loopw [10, 28] (fun _p i wr => ∃ k : Nat, i = .int .i64 k ∧ k ≤ n ∧ Hid (Below w2.heap.size w2 wr)) (fun _ i _ => n - (intOf i).toNat)
  case atStart => exact ⟨0, rfl, Nat.zero_le _, Lib.hid (Below.refl _ _)⟩
  case round =>
    obtain ⟨k, rfl, hk, HBL⟩ := hrel
    by_cases hkn : k < n
    · obtain ⟨⟨f, t, ba, bc, bs⟩, hx⟩ : ∃ x, S[k]? = some x := ⟨_, List.getElem?_eq_getElem (by rw [HL.out]; omega)⟩
      obtain ⟨b, off, rfl, c0, c1, c2⟩ := chg_cells (HAT.out.1.below HBL.out) hx
      simp only at c0 c1 c2
      have hkn2 : (k : Int) < (n : Int) := by omega
      have hb : ¬ (len : Int) < t := by have h := HH.out.2.2.2 _ (List.mem_of_getElem? hx); simp only at h; omega
      obtain ⟨bl, hbl⟩ : ∃ bl, bl = bs.length := ⟨_, rfl⟩
      rw [← hbl] at c2
      have HB2 := Lib.hid (fun o => HBL.out.alloc HBL.out.size o)
      clear hx hbl
      go_wp2
      go_roundw
      case rel => exact ⟨k + 1, by go_num, by omega, Lib.hid (HB2.out _)⟩
      case measure => simp [intOf]; omega
    · obtain rfl : k = n := by omega
      have hknf : ¬ (k : Int) < (k : Int) := by omega
      have HMD := Lib.hid (show (wr.alloc (.cells #[] 5)).ownsRow wr.heap.size 5 1 (.slice (some ⟨wr.heap.size, 0, none⟩) 0 0) 0 [] from World.ownsRow_made wr #[] 0 (Nat.le_refl _) (Nat.zero_le _) (by simp))
      have HM := Lib.hid (show 0 + len ≤ maxLen ∧ (0 + len) * 1 ≤ 140737488355328 from by unfold maxLen; omega)
      have HAB := Lib.hid (Below.more HAT.out.2 HBL.out)
      clear hkn
      go_wp2_with (at_builtin; refine wpList_append_sep rfl _ _ 22 rfl wr.heap.size 5 i8 _ 1 1 Try.underlying22 HI8.out.1 HI8.out.2.1 HI8.out.2.2.1 HI8.out.2.2.2 rfl (by decide) _ _ _ rfl HMD.out _ _ _ (B.map (.int .u8)) rfl (fun h => by have := HB.out.nil h; omega) (by rw [List.length_map, HB.out.length, Nat.mul_one]) (HB.out.at_.below (Below.more HAB.out (one_ok _ _))) (one_u8 B) HM.out.1 HM.out.2 (by simp) _ rfl ?_; intro v1 w4 own1 hg1 _; have hb4 := below_grown_alloc (Below.refl wr.heap.size wr) (Nat.le_refl _) hg1 (fun q hq => (HMD.out.lt q hq).1); have HO4 := Lib.hid (And.intro own1 (And.intro (Below.more HAT.out.2 (Below.more HBL.out hb4)) (Below.more HBL.out hb4))); clear own1 hg1 hb4)
      go_loopw [11, 12] (fun ov iv w5 => ∃ (j : Nat) (vo : Value), vo = ov ∧ j ≤ k ∧ iv = .int .i64 ((j : Int) - 1) ∧ Hid (w5.ownsRow w2.heap.size 5 1 vo (revP B ((S.drop j).map img)).length ((revP B ((S.drop j).map img)).map (.int .u8)) ∧ Below w2.heap.size w2 w5)) (fun _ iv _ => (intOf iv + 1).toNat)
      case atStart => exact ⟨k, _, rfl, Nat.le_refl _, by go_num, Lib.hid ⟨by
        rw [List.drop_of_length_le (by rw [HL.out]; exact Nat.le_refl _)]
        have h := owns_lower HO4.out.1 HBL.out.size
        simp only [List.map_nil, revP]
        rw [HB.out.length]
        simpa using h, HO4.out.2.2⟩⟩
      case round =>
        obtain ⟨j, vo, rfl, hj, rfl, HO⟩ := hrel
        by_cases hj0 : j = 0
        · subst hj0
          rw [List.drop_zero] at HO
          obtain ⟨C, hC⟩ : ∃ C, C = revP B (S.map img) := ⟨_, rfl⟩
          rw [← hC] at HO
          have HCE := Lib.hid hC
          have HV := Lib.hid HO.out
          clear hC HO
          have ez : ((0 : Nat) : Int) - 1 = -1 := rfl
          rw [ez]
          clear ez
          go_wp2
          go_loopw [14, 15, 76] (fun bv mv iv w6 => ∃ (q : Nat) (m : Int) (K : List Chg) (vb : Value), vb = bv ∧ iv = .int .i64 q ∧ mv = .int .i64 m ∧ q ≤ k ∧ -((q : Int) * 2000) ≤ m ∧ m ≤ (q : Int) * 2000 ∧ K.length = q ∧ Hid (AR w2 w6 vo vb C K) ∧ Hid (K.map img ++ backP B m ((S.drop q).map img) = backP B 0 (S.map img))) (fun _ _ iv _ => k - (intOf iv).toNat)
          case atStart => exact ⟨0, 0, [], _, rfl, rfl, rfl, Nat.zero_le _, by omega, by omega, rfl, Lib.hid ⟨HV.out.1, World.ownsRow_nil _ _ _ _, fun x hx => by simp at hx, HV.out.2⟩, Lib.hid rfl⟩
          case round =>
            obtain ⟨q, m, K, bv, rfl, rfl, rfl, hqk, hm1, hm2, hKl, HA, HP⟩ := hrel
            by_cases hqn : q < k
            · obtain ⟨⟨f, t, ba, bc, bs⟩, hx⟩ : ∃ x, S[q]? = some x := ⟨_, List.getElem?_eq_getElem (by rw [HL.out]; omega)⟩
              have hbs := HH.out.2.1 _ (List.mem_of_getElem? hx)
              have hok := HH.out.2.2.2 _ (List.mem_of_getElem? hx)
              obtain ⟨h0, hft, hch⟩ := HCH.out q _ hx
              simp only at hbs hok h0 hft hch
              obtain ⟨fn, rfl⟩ : ∃ m : Nat, f = m := ⟨f.toNat, by omega⟩
              obtain ⟨tn, rfl⟩ : ∃ m : Nat, t = m := ⟨t.toNat, by omega⟩
              obtain ⟨b, off, rfl, c0, c1, c2⟩ := chg_cells (HAT.out.1.below HA.out.below) hx
              simp only at c0 c1 c2
              have hdr : (S.drop q).map img = ((fn : Int), (tn : Int), bs) :: (S.drop (q + 1)).map img := by
                rw [List.drop_eq_getElem_cons (by rw [HL.out]; exact hqn), (List.getElem?_eq_some_iff.1 hx).2, List.map_cons]; rfl
              have HPN := HP.out
              rw [hdr, backP] at HPN
              simp only [Int.toNat_natCast] at HPN
              obtain ⟨D2, hD2⟩ : ∃ D, D = (B.take tn).drop fn := ⟨_, rfl⟩
              have hft2 : fn ≤ tn := by omega
              have htl : tn ≤ len := by omega
              have HD2 := Lib.hid (show D2.length = tn - fn from by rw [hD2]; exact part_len HB.out.length hft2 htl)
              have HQ2 := Lib.hid (fun (W : World) (hb : Below w2.heap.size w2 W) (ad : Option Addr) (h : ad = partA a cap fn) => show AtCells W ad (D2.map (.int .u8)) ∧ (ad = none → tn - fn = 0 ∧ cap - fn = 0) from by
                subst h; rw [hD2]
                exact ⟨(partA_at HB.out.length HB.out.le HB.out.at_ fn tn hft2 htl).below (Below.more HAT.out.2 hb), partA_nil HB.out.nil hft2 htl HB.out.le⟩)
              rw [← hD2] at HPN
              obtain ⟨bl, hbl⟩ : ∃ n, n = bs.length := ⟨_, rfl⟩
              rw [← hbl] at c2 hbs HPN
              have HPP := Lib.hid HPN
              have hqk2 : (q : Int) < (k : Int) := by omega
              have r1 : IntKind.i64.wrap ((fn : Int) + m) = (fn : Int) + m := by rw [IntKind.wrap_i64]; omega
              have r2 : IntKind.i64.wrap ((fn : Int) + m + (bl : Int)) = (fn : Int) + m + (bl : Int) := by rw [IntKind.wrap_i64]; omega
              have r3 : IntKind.i64.wrap ((tn : Int) - (fn : Int)) = (tn : Int) - (fn : Int) := by rw [IntKind.wrap_i64]; omega
              have r4 : IntKind.i64.wrap ((bl : Int) - ((tn : Int) - (fn : Int))) = (bl : Int) - ((tn : Int) - (fn : Int)) := by rw [IntKind.wrap_i64]; omega
              have r5 : IntKind.i64.wrap (m + ((bl : Int) - ((tn : Int) - (fn : Int)))) = m + ((bl : Int) - ((tn : Int) - (fn : Int))) := by rw [IntKind.wrap_i64]; omega
              have i1 : (fn : Int) ≤ (tn : Int) := by omega
              have i2 : (tn : Int) ≤ (cap : Int) := by omega
              have i3 : tn ≤ cap := by omega
              have HKL := Lib.hid hKl
              clear hx hdr HPN hok h0 hft hch hbl hD2 hKl
              have hcs : fn = cap ∨ ¬ cap = fn := by omega
              rcases hcs with rfl | hcf
              · have HPA := Lib.hid (show a = partA a fn fn from (if_pos rfl).symm)
                go_wp2
                obtain ⟨X0, X1, X2⟩ := box3 wr (.int .i64 fn) (.int .i64 tn) (.slice ba bl bc) 66
                have HA1 := Lib.hid (HA.out.next (one_ok wr (.cells #[.int .i64 fn, .int .i64 tn, .slice ba bl bc] 66)))
                have HNE := Lib.hid (show some wr.heap.size ≠ bv.ownBlock from fun h => absurd (HA.out.o10.lt _ h.symm).2 (by omega))
                obtain ⟨W5, hW5⟩ : ∃ W5, W5 = wr.alloc (.cells #[.int .i64 fn, .int .i64 tn, .slice ba bl bc] 66) := ⟨_, rfl⟩
                obtain ⟨P, hP⟩ : ∃ P, P = wr.heap.size := ⟨_, rfl⟩
                rw [← hW5] at X0 X1 X2 HA1 ⊢
                rw [← hP] at X0 X1 X2 HNE ⊢
                have HMD := Lib.hid (show (W5.drew.alloc (.cells #[] 5)).ownsRow W5.heap.size 5 1 (.slice (some ⟨W5.heap.size, 0, none⟩) 0 0) 0 [] from World.ownsRow_made W5.drew #[] 0 (Nat.le_refl _) (Nat.zero_le _) (by simp))
                have HQ5 := Lib.hid (HQ2.out (W5.drew.alloc (.cells #[] 5)) (Below.more HA1.out.below.drew (one_ok _ _)) _ HPA.out)
                clear hW5 hP c0 c1 c2
                go_region_held_law (fun W => W.cell? ⟨P, 0, none⟩ = some (.int .i64 fn) ∧ W.cell? ⟨P, 1, none⟩ = some (.int .i64 tn) ∧ W.cell? ⟨P, 2, none⟩ = some (.slice ba bl bc))
                  ((refine ⟨?_, ?_, ?_⟩ <;> (repeat (first | (with_reducible exact X0) | (with_reducible exact X1) | (with_reducible exact X2) | (with_reducible exact E0) | (with_reducible exact E1) | (with_reducible exact E2) | (with_reducible exact G0) | (with_reducible exact G1) | (with_reducible exact G2) | (with_reducible refine kp_alloc _ ?_) | (with_reducible refine kp_drew ?_)))))
                  (first
                    | (refine step_append_lies _ rfl _ _ 23 rfl w2.heap.size 66 iC _ 3 40 Try.underlying23 HIC.out.1 HIC.out.2.1 HIC.out.2.2.1 HIC.out.2.2.2 rfl (by decide) bv K.length (cellsC K) rfl (owns_below HA7.out.o10 (one_ok w7 _)) ⟨w7.heap.size, 0, none⟩ 1 1 [.int .i64 ((fn : Int) + m), .int .i64 ((fn : Int) + m + bl), .slice a3 m3 c3] rfl rfl (new_cells_at w7 _ _ _ rfl) (one_chg _ _ _ _ _) (by decide) (by have := HKL.out; unfold maxLen; omega) (by have := HKL.out; omega) (Nat.le_trans HA7.out.below.size (one_ok w7 _).size) _ rfl ?_; intro g gc w8 own8 g8 at8 _; have HA8 := Lib.hid (AR.app10 (x := ((fn : Int) + m, (fn : Int) + m + bl, a3, c3, D2)) (HA7.out.next (one_ok w7 _)) (by (rw [show encC ((fn : Int) + m, (fn : Int) + m + bl, a3, c3, D2) = [.int .i64 ((fn : Int) + m), .int .i64 ((fn : Int) + m + bl), .slice a3 m3 c3] by (simp only [encC]; rw [HM3.out])]); exact own8) g8 (sep_of at8) ((BytesO.fresh (x := ((fn : Int) + m, (fn : Int) + m + bl, a3, c3, D2)) (by (simp only [HM3.out]); exact HO3.out.1) (fun k hk => (HA1.out.o9.lt k hk).2) (fun k hk => (HA1.out.o10.lt k hk).2) (by (simp only [HM3.out]); exact HO3.out.2) (by have := HD2.out; (simp only [HD2.out]); omega)).below (one_ok w7 _))); have G0 := g8.cell (a := ⟨P, 0, none⟩) (kp_alloc _ E0) HNE.out; have G1 := g8.cell (a := ⟨P, 1, none⟩) (kp_alloc _ E1) HNE.out; have G2 := g8.cell (a := ⟨P, 2, none⟩) (kp_alloc _ E2) HNE.out; clear own8 g8 at8)
                    | (refine step_append_sep rfl _ _ 22 rfl W5.heap.size 5 i8 _ 1 1 Try.underlying22 HI8.out.1 HI8.out.2.1 HI8.out.2.2.1 HI8.out.2.2.2 rfl (by decide) _ _ _ rfl HMD.out _ _ _ (D2.map (.int .u8)) rfl (fun h => by have h9 := HQ5.out.2 h; exact ⟨by omega, by omega⟩) (by have h9 := HD2.out; simp only [List.length_map]; omega) HQ5.out.1 (one_u8 D2) (by unfold maxLen; omega) (by omega) (Nat.le_of_lt (by simp)) _ rfl ?_; intro v3 w7 own3 g3 at3; have own4 : w7.ownsRow W5.heap.size 5 1 v3 D2.length (D2.map (.int .u8)) := (by (rw [HD2.out]); first | (simpa using own3) | (have h9 : tn - fn = 0 := (by omega); (rw [h9]); simpa using own3)); obtain ⟨m3, hm3⟩ : ∃ n, n = D2.length := ⟨_, rfl⟩; (rw [← hm3] at own4); have HM3 := Lib.hid hm3.symm; obtain ⟨a3, c3, rfl, hc3⟩ := owns_slice own4; have hb7 : Below W5.drew.heap.size W5.drew w7 := below_grown_alloc (Below.refl _ W5.drew) (Nat.le_refl _) g3 (fun q hq => (HMD.out.lt q hq).1); have HA7 := Lib.hid ((HA1.out.next (Below.refl _ W5).drew).next hb7); have HO3 := Lib.hid (And.intro own4 hc3); have E0 := kp_bel hb7 (kp_drew X0); have E1 := kp_bel hb7 (kp_drew X1); have E2 := kp_bel hb7 (kp_drew X2); clear own3 own4 g3 at3 hb7 hc3 hm3))
                go_wp2
                go_roundw
                case rel =>
                  trace_state
                  exact ⟨q + 1, m + ((bl : Int) - ((tn : Int) - (fn : Int))), K ++ [((fn : Int) + m, (fn : Int) + m + bl, a3, c3, D2)], _, rfl, by go_num, rfl, by omega, by omega, by omega, by have := HKL.out; rw [List.length_append, this]; rfl, HA8, Lib.hid (by
                  rw [List.map_append, show [((fn : Int) + m, (fn : Int) + m + bl, a3, c3, D2)].map img = [((fn : Int) + m, (fn : Int) + m + bl, D2)] from rfl, List.append_assoc, List.singleton_append]
                  exact HPP.out)⟩
                case measure => simp [intOf]; omega
              · have HPA := Lib.hid (show a.map (fun x => x.add fn) = partA a cap fn from (if_neg hcf).symm)
                go_wp2
                obtain ⟨X0, X1, X2⟩ := box3 wr (.int .i64 fn) (.int .i64 tn) (.slice ba bl bc) 66
                have HA1 := Lib.hid (HA.out.next (one_ok wr (.cells #[.int .i64 fn, .int .i64 tn, .slice ba bl bc] 66)))
                have HNE := Lib.hid (show some wr.heap.size ≠ bv.ownBlock from fun h => absurd (HA.out.o10.lt _ h.symm).2 (by omega))
                obtain ⟨W5, hW5⟩ : ∃ W5, W5 = wr.alloc (.cells #[.int .i64 fn, .int .i64 tn, .slice ba bl bc] 66) := ⟨_, rfl⟩
                obtain ⟨P, hP⟩ : ∃ P, P = wr.heap.size := ⟨_, rfl⟩
                rw [← hW5] at X0 X1 X2 HA1 ⊢
                rw [← hP] at X0 X1 X2 HNE ⊢
                have HMD := Lib.hid (show (W5.drew.alloc (.cells #[] 5)).ownsRow W5.heap.size 5 1 (.slice (some ⟨W5.heap.size, 0, none⟩) 0 0) 0 [] from World.ownsRow_made W5.drew #[] 0 (Nat.le_refl _) (Nat.zero_le _) (by simp))
                have HQ5 := Lib.hid (HQ2.out (W5.drew.alloc (.cells #[] 5)) (Below.more HA1.out.below.drew (one_ok _ _)) _ HPA.out)
                clear hW5 hP c0 c1 c2
                go_region_held_law (fun W => W.cell? ⟨P, 0, none⟩ = some (.int .i64 fn) ∧ W.cell? ⟨P, 1, none⟩ = some (.int .i64 tn) ∧ W.cell? ⟨P, 2, none⟩ = some (.slice ba bl bc))
                  ((refine ⟨?_, ?_, ?_⟩ <;> (repeat (first | (with_reducible exact X0) | (with_reducible exact X1) | (with_reducible exact X2) | (with_reducible exact E0) | (with_reducible exact E1) | (with_reducible exact E2) | (with_reducible exact G0) | (with_reducible exact G1) | (with_reducible exact G2) | (with_reducible refine kp_alloc _ ?_) | (with_reducible refine kp_drew ?_)))))
                  (first
                    | (refine step_append_lies _ rfl _ _ 23 rfl w2.heap.size 66 iC _ 3 40 Try.underlying23 HIC.out.1 HIC.out.2.1 HIC.out.2.2.1 HIC.out.2.2.2 rfl (by decide) bv K.length (cellsC K) rfl (owns_below HA7.out.o10 (one_ok w7 _)) ⟨w7.heap.size, 0, none⟩ 1 1 [.int .i64 ((fn : Int) + m), .int .i64 ((fn : Int) + m + bl), .slice a3 m3 c3] rfl rfl (new_cells_at w7 _ _ _ rfl) (one_chg _ _ _ _ _) (by decide) (by have := HKL.out; unfold maxLen; omega) (by have := HKL.out; omega) (Nat.le_trans HA7.out.below.size (one_ok w7 _).size) _ rfl ?_; intro g gc w8 own8 g8 at8 _; have HA8 := Lib.hid (AR.app10 (x := ((fn : Int) + m, (fn : Int) + m + bl, a3, c3, D2)) (HA7.out.next (one_ok w7 _)) (by (rw [show encC ((fn : Int) + m, (fn : Int) + m + bl, a3, c3, D2) = [.int .i64 ((fn : Int) + m), .int .i64 ((fn : Int) + m + bl), .slice a3 m3 c3] by (simp only [encC]; rw [HM3.out])]); exact own8) g8 (sep_of at8) ((BytesO.fresh (x := ((fn : Int) + m, (fn : Int) + m + bl, a3, c3, D2)) (by (simp only [HM3.out]); exact HO3.out.1) (fun k hk => (HA1.out.o9.lt k hk).2) (fun k hk => (HA1.out.o10.lt k hk).2) (by (simp only [HM3.out]); exact HO3.out.2) (by have := HD2.out; (simp only [HD2.out]); omega)).below (one_ok w7 _))); have G0 := g8.cell (a := ⟨P, 0, none⟩) (kp_alloc _ E0) HNE.out; have G1 := g8.cell (a := ⟨P, 1, none⟩) (kp_alloc _ E1) HNE.out; have G2 := g8.cell (a := ⟨P, 2, none⟩) (kp_alloc _ E2) HNE.out; clear own8 g8 at8)
                    | (refine step_append_sep rfl _ _ 22 rfl W5.heap.size 5 i8 _ 1 1 Try.underlying22 HI8.out.1 HI8.out.2.1 HI8.out.2.2.1 HI8.out.2.2.2 rfl (by decide) _ _ _ rfl HMD.out _ _ _ (D2.map (.int .u8)) rfl (fun h => by have h9 := HQ5.out.2 h; exact ⟨by omega, by omega⟩) (by have h9 := HD2.out; simp only [List.length_map]; omega) HQ5.out.1 (one_u8 D2) (by unfold maxLen; omega) (by omega) (Nat.le_of_lt (by simp)) _ rfl ?_; intro v3 w7 own3 g3 at3; have own4 : w7.ownsRow W5.heap.size 5 1 v3 D2.length (D2.map (.int .u8)) := (by (rw [HD2.out]); first | (simpa using own3) | (have h9 : tn - fn = 0 := (by omega); (rw [h9]); simpa using own3)); obtain ⟨m3, hm3⟩ : ∃ n, n = D2.length := ⟨_, rfl⟩; (rw [← hm3] at own4); have HM3 := Lib.hid hm3.symm; obtain ⟨a3, c3, rfl, hc3⟩ := owns_slice own4; have hb7 : Below W5.drew.heap.size W5.drew w7 := below_grown_alloc (Below.refl _ W5.drew) (Nat.le_refl _) g3 (fun q hq => (HMD.out.lt q hq).1); have HA7 := Lib.hid ((HA1.out.next (Below.refl _ W5).drew).next hb7); have HO3 := Lib.hid (And.intro own4 hc3); have E0 := kp_bel hb7 (kp_drew X0); have E1 := kp_bel hb7 (kp_drew X1); have E2 := kp_bel hb7 (kp_drew X2); clear own3 own4 g3 at3 hb7 hc3 hm3))
                go_wp2
                go_roundw
                case rel =>
                  trace_state
                  exact ⟨q + 1, m + ((bl : Int) - ((tn : Int) - (fn : Int))), K ++ [((fn : Int) + m, (fn : Int) + m + bl, a3, c3, D2)], _, rfl, by go_num, rfl, by omega, by omega, by omega, by have := HKL.out; rw [List.length_append, this]; rfl, HA8, Lib.hid (by
                  rw [List.map_append, show [((fn : Int) + m, (fn : Int) + m + bl, a3, c3, D2)].map img = [((fn : Int) + m, (fn : Int) + m + bl, D2)] from rfl, List.append_assoc, List.singleton_append]
                  exact HPP.out)⟩
                case measure => simp [intOf]; omega
            · obtain rfl : q = k := by omega
              have hqf : ¬ (q : Int) < (q : Int) := by omega
              have hPN := HP.out
              rw [List.drop_of_length_le (by rw [HL.out]; exact Nat.le_refl _)] at hPN
              simp only [List.map_nil, backP, List.append_nil] at hPN
              have HPN := Lib.hid hPN
              clear hPN
              go_wp2
              go_ret3
              have hz := HAT.out.2.size
              exact ⟨_, _, K, rfl, by rw [← HCE.out]; exact owns_lower HA.out.o9 hz, by have h := owns_lower HA.out.o10 hz; rw [hKl] at h; exact h, HPN.out, fun x hx => ⟨fun j u hj => by
                obtain ⟨b, off, ha, _, _, hc⟩ := (HA.out.held x hx).cells j u hj
                exact ⟨b, off, ha, hc⟩, (HA.out.held x hx).le, (HA.out.held x hx).max⟩, Below.more HAT.out.2 HA.out.below⟩
        · obtain ⟨jp, rfl⟩ : ∃ m, j = m + 1 := ⟨j - 1, by omega⟩
          obtain ⟨⟨f, t, ba, bc, bs⟩, hx⟩ : ∃ x, S[jp]? = some x := ⟨_, List.getElem?_eq_getElem (by rw [HL.out]; omega)⟩
          have hBx : BytesAt w w.heap.size (f, t, ba, bc, bs) := HH.out.1 _ (List.mem_of_getElem? hx)
          have hbs := HH.out.2.1 _ (List.mem_of_getElem? hx)
          have hok := HH.out.2.2.2 _ (List.mem_of_getElem? hx)
          obtain ⟨h0, hft, hch⟩ := HCH.out jp _ hx
          simp only at hbs hok h0 hft hch
          obtain ⟨fn, rfl⟩ : ∃ m : Nat, f = m := ⟨f.toNat, by omega⟩
          obtain ⟨tn, rfl⟩ : ∃ m : Nat, t = m := ⟨t.toNat, by omega⟩
          obtain ⟨b, off, rfl, c0, c1, c2⟩ := chg_cells (HAT.out.1.below HO.out.2) hx
          simp only at c0 c1 c2
          have hst := revP_step B (S.map img) (j := jp) (x := img ((fn : Int), (tn : Int), ba, bc, bs)) (by rw [List.getElem?_map, hx]; rfl)
          have htk := revP_take B ((S.drop (jp + 1)).map img) tn (by rw [HB.out.length]; omega) hch (fun x hx => by
            obtain ⟨y, hy, rfl⟩ := List.mem_map.1 hx
            have := HH.out.2.2.2 y (List.mem_of_mem_drop hy)
            rw [HB.out.length]; exact this)
          rw [← List.map_drop, ← List.map_drop] at hst
          have hrl := HRL.out (jp + 1)
          obtain ⟨C, hC⟩ : ∃ C, C = revP B ((S.drop (jp + 1)).map img) := ⟨_, rfl⟩
          rw [← hC] at hst htk HO hrl
          simp only [img, Int.toNat_natCast] at hst
          obtain ⟨cl, hcl⟩ : ∃ n, n = C.length := ⟨_, rfl⟩
          rw [← hcl] at htk HO hrl
          have htc : tn ≤ cl := htk.2
          obtain ⟨oa, oc, rfl, hoc⟩ := owns_slice HO.out.1
          obtain ⟨bl, hbl⟩ : ∃ n, n = bs.length := ⟨_, rfl⟩
          rw [← hbl] at c2 hbs
          have hft2 : fn ≤ tn := by omega
          have HON := Lib.hid (fun (h : oa = none) => show fn = 0 ∧ cl = 0 ∧ oc = 0 from by have := owns_nil HO.out.1 h; omega)
          have HOA := Lib.hid (show AtCells wr oa (C.map (.int .u8)) from AtCells.of_owns HO.out.1)
          have HCL := Lib.hid hcl
          have HBL3 := Lib.hid hbl
          have HT1 := Lib.hid (show AtCells wr oa ((C.take fn).map (.int .u8)) from by rw [List.map_take]; exact HOA.out.take fn)
          have HT3 := Lib.hid (fun (W : World) (hb : Below wr.heap.size wr W) (ad : Option Addr) (h : ad = partA oa oc tn) => show AtCells W ad ((C.drop tn).map (.int .u8)) ∧ (ad = none → cl - tn = 0 ∧ oc - tn = 0) from by
            subst h
            have h1 := partA_at (w := wr) (B := C) (len := cl) (cap := oc) hcl.symm hoc HOA.out tn cl htc (Nat.le_refl _)
            rw [List.take_of_length_le (by rw [← hcl]; exact Nat.le_refl _)] at h1
            exact ⟨h1.below hb, partA_nil (fun h => (HON.out h).2.2) htc (Nat.le_refl _) hoc⟩)
          have HBX := Lib.hid (fun (W : World) (hb : Below wr.heap.size wr W) => show AtCells W ba (bs.map (.int .u8)) ∧ (ba = none → bl = 0 ∧ bc = 0) from by
            have h9 := hBx.below (Below.more (Below.more HAT.out.2 HO.out.2) hb)
            exact ⟨h9.at_, fun h => by have := h9.none_ h; simp only at this; rw [← hbl] at this; exact this⟩)
          have HMD := Lib.hid (show (wr.alloc (.cells #[] 5)).ownsRow wr.heap.size 5 1 (.slice (some ⟨wr.heap.size, 0, none⟩) 0 0) 0 [] from World.ownsRow_made wr #[] 0 (Nat.le_refl _) (Nat.zero_le _) (by simp))
          have HM := Lib.hid (show ∀ q, q ≤ 10000 → q ≤ maxLen ∧ q * 1 ≤ 140737488355328 from fun q hq => by unfold maxLen; omega)
          have FIN : Hid (∀ (q : Nat) (v3 : Value) (w8 : World), q = 0 + fn + bl + (cl - tn) → w8.ownsRow wr.heap.size 5 1 v3 q ([] ++ (C.take fn).map (.int .u8) ++ bs.map (.int .u8) ++ (C.drop tn).map (.int .u8)) → w8.ownsRow w2.heap.size 5 1 v3 (revP B ((S.drop jp).map img)).length ((revP B ((S.drop jp).map img)).map (.int .u8))) := Lib.hid (fun q v3 w8 hq h => by
            have e1 : (revP B ((S.drop jp).map img)).length = q := by rw [hst, List.length_append, List.length_append, List.length_take, List.length_drop, hq, ← hcl, ← hbl]; omega
            rw [e1, hst, List.map_append, List.map_append]
            rw [List.nil_append] at h
            exact owns_lower h HO.out.2.size)
          have HC := Lib.hid (And.intro c0 (And.intro c1 c2))
          have HO5 := Lib.hid HO.out.2
          have ej : ((jp + 1 : Nat) : Int) - 1 = (jp : Int) := by omega
          rw [ej]
          have i1 : (jp : Int) < (k : Int) := by omega
          have i2 : (fn : Int) ≤ (oc : Int) := by omega
          have i3 : (tn : Int) ≤ (cl : Int) := by omega
          have i4 : fn ≤ oc := by omega
          have i5 : jp < k := by omega
          have i6 : (cl : Int) ≤ (oc : Int) := by omega
          have i7 : fn ≤ cl := by omega
          have i8' : IntKind.i64.wrap ((jp : Int) - 1) = (jp : Int) - 1 := by rw [IntKind.wrap_i64]; omega
          have c0' := kp_alloc (.cells #[] 5) c0
          have c1' := kp_alloc (.cells #[] 5) c1
          have c2' := kp_alloc (.cells #[] 5) c2
          clear hcl hbl hBx hch hst htk hC hx hok h0 hft HO ej
          by_cases hct : oc = tn
          · have HPA := Lib.hid (show oa = partA oa oc tn from (if_pos hct).symm)
            go_wp2_with (first
              | (at_builtin; refine wpList_append_sep rfl _ _ 22 rfl wr.heap.size 5 i8 _ 1 1 Try.underlying22 HI8.out.1 HI8.out.2.1 HI8.out.2.2.1 HI8.out.2.2.2 rfl (by decide) _ _ _ rfl HO7.out.1 _ _ _ ((C.drop tn).map (.int .u8)) rfl (fun h => by have h9 := (HT3.out _ HO7.out.2 _ HPA.out).2 h; exact ⟨by omega, by omega⟩) (by have h9 := HCL.out; simp only [List.length_map, List.length_drop]; omega) (HT3.out _ HO7.out.2 _ HPA.out).1 (one_u8 _) (HM.out _ (by omega)).1 (HM.out _ (by omega)).2 HO7.out.2.size _ rfl ?_; intro v3 w8 own3 g3 _; have hb8 := HO7.out.2.grown g3 HO7.out.2.size (fun q hq => (HO7.out.1.lt q hq).1); have HO8 := Lib.hid (And.intro own3 (Below.more HO5.out hb8)); clear own3 g3 hb8 d0 d1 d2)
              | (at_builtin; refine wpList_append_sep rfl _ _ 22 rfl wr.heap.size 5 i8 _ 1 1 Try.underlying22 HI8.out.1 HI8.out.2.1 HI8.out.2.2.1 HI8.out.2.2.2 rfl (by decide) _ _ _ rfl HO6.out.1 _ _ _ (bs.map (.int .u8)) rfl (HBX.out _ HO6.out.2).2 (by have h9 := HBL3.out; simp only [List.length_map]; omega) (HBX.out _ HO6.out.2).1 (one_u8 _) (HM.out _ (by omega)).1 (HM.out _ (by omega)).2 HO6.out.2.size _ rfl ?_; intro v2 w7 own2 g2 _; have hb7 := HO6.out.2.grown g2 HO6.out.2.size (fun q hq => (HO6.out.1.lt q hq).1); have d0 := kp_bel hb7 HC.out.1; have d1 := kp_bel hb7 HC.out.2.1; have d2 := kp_bel hb7 HC.out.2.2; have HO7 := Lib.hid (And.intro own2 hb7); clear own2 g2 hb7 e0 e1 e2)
              | (at_builtin; refine wpList_append_sep rfl _ _ 22 rfl wr.heap.size 5 i8 _ 1 1 Try.underlying22 HI8.out.1 HI8.out.2.1 HI8.out.2.2.1 HI8.out.2.2.2 rfl (by decide) _ _ _ rfl HMD.out _ _ _ ((C.take fn).map (.int .u8)) rfl (fun h => by have h9 := HON.out h; omega) (by have h9 := HCL.out; simp only [List.length_map, List.length_take]; omega) (HT1.out.alloc _) (one_u8 _) (HM.out _ (by omega)).1 (HM.out _ (by omega)).2 (by simp) _ rfl ?_; intro v1 w6 own1 g1 _; have hb6 := below_grown_alloc (Below.refl wr.heap.size wr) (Nat.le_refl _) g1 (fun q hq => (HMD.out.lt q hq).1); have e0 := kp_bel hb6 HC.out.1; have e1 := kp_bel hb6 HC.out.2.1; have e2 := kp_bel hb6 HC.out.2.2; have HO6 := Lib.hid (And.intro own1 hb6); clear own1 g1 hb6 c0 c1 c2 c0' c1' c2'))
            go_roundw
            case rel => exact ⟨jp, _, rfl, by omega, by go_num, Lib.hid ⟨FIN.out _ _ _ (by omega) HO8.out.1, HO8.out.2⟩⟩
            case measure => simp [intOf]
          · have HPA := Lib.hid (show oa.map (fun x => x.add tn) = partA oa oc tn from (if_neg hct).symm)
            go_wp2_with (first
              | (at_builtin; refine wpList_append_sep rfl _ _ 22 rfl wr.heap.size 5 i8 _ 1 1 Try.underlying22 HI8.out.1 HI8.out.2.1 HI8.out.2.2.1 HI8.out.2.2.2 rfl (by decide) _ _ _ rfl HO7.out.1 _ _ _ ((C.drop tn).map (.int .u8)) rfl (fun h => by have h9 := (HT3.out _ HO7.out.2 _ HPA.out).2 h; exact ⟨by omega, by omega⟩) (by have h9 := HCL.out; simp only [List.length_map, List.length_drop]; omega) (HT3.out _ HO7.out.2 _ HPA.out).1 (one_u8 _) (HM.out _ (by omega)).1 (HM.out _ (by omega)).2 HO7.out.2.size _ rfl ?_; intro v3 w8 own3 g3 _; have hb8 := HO7.out.2.grown g3 HO7.out.2.size (fun q hq => (HO7.out.1.lt q hq).1); have HO8 := Lib.hid (And.intro own3 (Below.more HO5.out hb8)); clear own3 g3 hb8 d0 d1 d2)
              | (at_builtin; refine wpList_append_sep rfl _ _ 22 rfl wr.heap.size 5 i8 _ 1 1 Try.underlying22 HI8.out.1 HI8.out.2.1 HI8.out.2.2.1 HI8.out.2.2.2 rfl (by decide) _ _ _ rfl HO6.out.1 _ _ _ (bs.map (.int .u8)) rfl (HBX.out _ HO6.out.2).2 (by have h9 := HBL3.out; simp only [List.length_map]; omega) (HBX.out _ HO6.out.2).1 (one_u8 _) (HM.out _ (by omega)).1 (HM.out _ (by omega)).2 HO6.out.2.size _ rfl ?_; intro v2 w7 own2 g2 _; have hb7 := HO6.out.2.grown g2 HO6.out.2.size (fun q hq => (HO6.out.1.lt q hq).1); have d0 := kp_bel hb7 HC.out.1; have d1 := kp_bel hb7 HC.out.2.1; have d2 := kp_bel hb7 HC.out.2.2; have HO7 := Lib.hid (And.intro own2 hb7); clear own2 g2 hb7 e0 e1 e2)
              | (at_builtin; refine wpList_append_sep rfl _ _ 22 rfl wr.heap.size 5 i8 _ 1 1 Try.underlying22 HI8.out.1 HI8.out.2.1 HI8.out.2.2.1 HI8.out.2.2.2 rfl (by decide) _ _ _ rfl HMD.out _ _ _ ((C.take fn).map (.int .u8)) rfl (fun h => by have h9 := HON.out h; omega) (by have h9 := HCL.out; simp only [List.length_map, List.length_take]; omega) (HT1.out.alloc _) (one_u8 _) (HM.out _ (by omega)).1 (HM.out _ (by omega)).2 (by simp) _ rfl ?_; intro v1 w6 own1 g1 _; have hb6 := below_grown_alloc (Below.refl wr.heap.size wr) (Nat.le_refl _) g1 (fun q hq => (HMD.out.lt q hq).1); have e0 := kp_bel hb6 HC.out.1; have e1 := kp_bel hb6 HC.out.2.1; have e2 := kp_bel hb6 HC.out.2.2; have HO6 := Lib.hid (And.intro own1 hb6); clear own1 g1 hb6 c0 c1 c2 c0' c1' c2'))
            go_roundw
            case rel => exact ⟨jp, _, rfl, by omega, by go_num, Lib.hid ⟨FIN.out _ _ _ (by omega) HO8.out.1, HO8.out.2⟩⟩
            case measure => simp [intOf]

end Go.Proofs.Ytbljgoieieoamaa
