/-
  Contract of layer 8: Read, its ways.
-/
import Derived.Test.YtblebkpnjeghoaaTagJ
namespace Go.Proofs.Ytblebkpnjeghoaa
open Go.RowKit
set_option linter.unusedVariables false

set_option maxRecDepth 20000 in
set_option maxHeartbeats 4000000 in
theorem read_N (a : Option Addr) (n cap : Nat) (l : List Int) (w : World) (hl : l.length = n) (hc : n ≤ cap) (hm : cap ≤ maxLen) (hn : n ≤ 1000) (hat : AtCells w a (l.map (.int .i32))) (f t : Int) (P : List PartA) (hP : parts l f t = P) {h0 h1 h2 m0 m1 m2 : Nat} {Q1 : List PartA} (H1 : Hid (takeP [1, 2] P = ([(h0, h1, h2), (m0, m1, m2)], true, Q1))) (hQ1 : Q1.length ≤ 1000) {al : List AttA} {Q2 : List PartA} (hA : attrsP Q1 = (al, Q2)) {n3 Q3 : List PartA} {o3 : Bool} (H3 : Hid (takeP [3] Q2 = (n3, o3, Q3))) {n6 Q6 : List PartA} (H6 : Hid (takeP [6] Q3 = (n6, false, Q6))) :
    Calls Try.prog 45 #[.slice a n cap, .int .i64 f, .int .i64 t] w (OwnTag w (m0, m1, m2) al false false) := by
  have HP := Lib.hid (parts_row a n cap l (w.alloc tagB) hl hc hm hn (hat.alloc _) f t)
  rw [hP] at HP
  have hPl := parts_len l f t
  rw [hP, hl] at hPl
  have HAT := Lib.hid (fun (w' : World) (rp : Nat) (R : RD w' rp Q1) => attrs_any R hQ1 hA)
  clear hP hat hA
  go_enter Try.func45, Try.ntmps45
  go_wp2_with (first
    | (go_at_call 75; (with_reducible refine HP.out.mono ?_); rintro e w1 ⟨v, rfl, hown, hb1⟩; obtain ⟨va, vc, rfl, hvc⟩ := owns_slice hown; have rd0 := RD.made hown hvc 128; have hs1 : w.heap.size + 1 ≤ w1.heap.size := (by have := hb1.size; simp at this; omega); have tok1 : True := trivial)
    | (go_at_call 76; (have _t := tok1); (refine (take2 rd0 1 2 H1.out 1 2 rfl rfl _ (by simp)).mono ?_); rintro e w2 ⟨A1, c1, rfl, hl1, at1, rd1, hk1⟩; have hkk1 := hk1; have hz1 : w1.heap.size + 1 ≤ w2.heap.size := (by have := hk1.size; simp at this; omega); clear tok1 _t; have tok2 : True := trivial))
  obtain ⟨nb, no, hA1, hnl, n0⟩ := at1 3 _ rfl
  obtain ⟨nb1, no1, hA2, _, n1⟩ := at1 4 _ rfl
  obtain ⟨nb2, no2, hA3, _, n2⟩ := at1 5 _ rfl
  have HA1 := Lib.hid at1
  subst hA1
  simp only [Option.some.injEq, Addr.mk.injEq] at hA2 hA3
  obtain ⟨rfl, rfl, _⟩ := hA2
  obtain ⟨rfl, rfl, _⟩ := hA3
  obtain ⟨rp, hrp⟩ : ∃ rp, rp = w1.heap.size := ⟨_, rfl⟩
  obtain ⟨W1, hW1⟩ : ∃ W1, W1 = w1.alloc (.cells #[.slice va P.length vc] 128) := ⟨_, rfl⟩
  rw [← hrp] at rd0 at1 rd1 hk1 hkk1 hnl HA1 ⊢
  rw [← hW1] at hk1 hkk1
  have hsz : W1.heap.size = rp + 1 := by rw [hW1, hrp]; simp
  have hsw : w.heap.size + 1 ≤ rp := by rw [hrp]; exact hs1
  have HW := Lib.hid (And.intro hrp hW1)
  clear hrp hW1
  go_cut [10] (fun s10 wx => ∃ tb av, s10 = .pointer (some ⟨tb, 0, none⟩) ∧ Hid (TB W1 wx rp tb (m0, m1, m2) av false false al Q2 (some ⟨nb, no, none⟩) [(h0, h1, h2), (m0, m1, m2)]))
  case first =>
    have hw2 : rp + 1 ≤ w2.heap.size := by have := hk1.size; omega
    have hn1 : ¬ w2.heap.size = rp := by omega
    have hnr : nb < w2.heap.size := by omega
    go_region_held_law (fun W => W.cell? ⟨nb, no + 3, none⟩ = some (.int .i64 m0) ∧ W.cell? ⟨nb, no + 4, none⟩ = some (.int .i64 m1) ∧ W.cell? ⟨nb, no + 5, none⟩ = some (.int .i64 m2))
      ((refine ⟨?_, ?_, ?_⟩ <;> (repeat (first | (with_reducible assumption) | (with_reducible refine kp_alloc _ ?_) | (with_reducible refine kp_drew ?_) | (with_reducible refine kp_set _ (ne_blk (by omega)) ?_)))))
      (first
        | (go_at_call 77; (refine (HAT.out _ rp (rd1.next (by first | exact (Below.refl _ _).drew | exact (one_ok _ _).drew))).mono ?_); rintro e w3 ⟨av, rfl, own3, rd3, hk3⟩; obtain ⟨ta, tc, rfl, htc⟩ := owns_slice own3; obtain ⟨kc, kf⟩ := kcell hk3; have E0 := (kc nb (no + 3) (by simp; omega) (by omega)).trans (by first | exact n0 | exact kp_drew (kp_alloc _ n0)); have E1 := (kc nb (no + 4) (by simp; omega) (by omega)).trans (by first | exact n1 | exact kp_drew (kp_alloc _ n1)); have E2 := (kc nb (no + 5) (by simp; omega) (by omega)).trans (by first | exact n2 | exact kp_drew (kp_alloc _ n2)); have hw3 : w2.heap.size ≤ w3.heap.size := (by have := hk3.size; simp at this; omega)))
    · go_wp2_with fail
      go_meet
      have hT := TB.made (nm := (m0, m1, m2)) (hd := [(h0, h1, h2), (m0, m1, m2)]) (Q2 := Q2) ((hk1.next ((Below.refl _ _).drew)).trans hk3) own3 (by have := hk1.size; simp; omega) rd3 ((at1.below ((Below.refl _ _).drew)).kept hk3) (m0 : Int) (m1 : Int) (m2 : Int) rfl rfl rfl false false 78
      exact ⟨w3.heap.size, .slice ta al.length tc, rfl, Lib.hid hT⟩
    · go_wp2_with fail
      go_meet
      have hT := TB.fill (nm := (m0, m1, m2)) (hd := [(h0, h1, h2), (m0, m1, m2)]) (Q2 := Q2) (tb := w2.heap.size) (wy := w3) (av := .slice ta al.length tc) (al := al) ((hk1.next ((one_ok w2 tagB).drew)).trans hk3) own3 (by have := hk1.size; simp; omega) (fun hc => by have := (own3.lt _ hc).1; simp at this; omega) hk1.size (by omega) rd3 ((at1.kept (Kept.of_below ((one_ok w2 tagB).drew))).kept hk3) ((kc w2.heap.size 0 (by simp) hn1).trans (Box6.new w2).1) ((kc w2.heap.size 1 (by simp) hn1).trans (Box6.new w2).2.1) ((kc w2.heap.size 2 (by simp) hn1).trans (Box6.new w2).2.2.1) ((kc w2.heap.size 3 (by simp) hn1).trans (Box6.new w2).2.2.2.1) ((kc w2.heap.size 4 (by simp) hn1).trans (Box6.new w2).2.2.2.2.1) ((kc w2.heap.size 5 (by simp) hn1).trans (Box6.new w2).2.2.2.2.2.1) (fun i => (kf w2.heap.size i (by simp) hn1).trans ((Box6.new w2).2.2.2.2.2.2 i)) (m0 : Int) (m1 : Int) (m2 : Int) rfl rfl rfl false false
      exact ⟨w2.heap.size, .slice ta al.length tc, rfl, Lib.hid hT⟩
  case rest =>
    obtain ⟨tb, av, rfl, HTB⟩ := hcut
    obtain ⟨ta, tc, hav, htc⟩ := owns_slice HTB.out.own
    subst hav
    have hrw : rp < W1.heap.size := by omega
    have tok3 : True := trivial
    clear at1 rd1 hk1 hkk1 n0 n1 n2 HAT HP
    go_wp2_with (first
      | (go_at_call 76; (have _t := tok3); (refine (take1 HTB.out.rd 3 H3.out 3 rfl _ (by simp)).mono ?_); rintro e w4 ⟨A3, c3, rfl, hl3, at3, rd3, hk3⟩; have HT4 := Lib.hid (HTB.out.keep hk3 rd3 hrw); clear tok3 _t at3 rd3 hk3; have tok6 : True := trivial)
      | (go_at_call 76; (have _t := tok6); (refine (take1 HT4.out.rd 6 H6.out 6 rfl _ (by simp)).mono ?_); rintro e w5 ⟨A6, c6, rfl, hl6, at6, rd6, hk6⟩; have HT5 := Lib.hid (HT4.out.keep hk6 rd6 hrw); clear tok6 _t rd6 hk6; obtain ⟨y0, y1, y2, y3, y4, y5, yz⟩ := res_cells hb1 (by rw [← HW.out.1, ← HW.out.2]; exact HT5.out.kept : Kept w1.heap.size (w1.alloc (.cells #[.slice va P.length vc] 128)) w5); have x0 := HT5.out.t0; have x1 := HT5.out.t1; have x2 := HT5.out.t2; have x3 := HT5.out.t3; have x4 := HT5.out.t4; have x5 := HT5.out.t5; have xz := HT5.out.fz; have hng : ¬ w.heap.size = tb := (by have := HT5.out.base; omega); have hng2 : ¬ tb = w.heap.size := (by omega)))
    have HD := TB.done (w := w) (by rw [← HW.out.1, ← HW.out.2]; exact HT5.out) hb1 (.int .i64 m0) (.int .i64 m1) (.int .i64 m2) (.slice ta al.length tc) (.bool false) (.bool false)
    refine bodyPost_ret (v := tagI m0 m1 m2 (.slice ta al.length tc) false false) ?_ rfl ⟨_, rfl, HD.1, HD.2⟩
    simp [results, Try.results45, go_sem, y0, y1, y2, y3, y4, y5]

set_option maxRecDepth 20000 in
set_option maxHeartbeats 4000000 in
theorem read_C1 (a : Option Addr) (n cap : Nat) (l : List Int) (w : World) (hl : l.length = n) (hc : n ≤ cap) (hm : cap ≤ maxLen) (hn : n ≤ 1000) (hat : AtCells w a (l.map (.int .i32))) (f t : Int) (P : List PartA) (hP : parts l f t = P) {h0 h1 h2 m0 m1 m2 : Nat} {Q1 : List PartA} (H1 : Hid (takeP [1, 2] P = ([(h0, h1, h2), (m0, m1, m2)], true, Q1))) (hQ1 : Q1.length ≤ 1000) {al : List AttA} {Q2 : List PartA} (hA : attrsP Q1 = (al, Q2)) {n3 Q3 : List PartA} {o3 : Bool} (H3 : Hid (takeP [3] Q2 = (n3, o3, Q3))) {p0 p1 p2 : Nat} {Q6 : List PartA} (H6 : Hid (takeP [6] Q3 = ([(p0, p1, p2)], true, Q6))) (hp1 : p1 ≤ 1000000) (hp2 : p2 ≤ 1000000) (hh1 : h1 ≤ 1000000) (hh2 : h2 ≤ 1000000) {e : Bool} (he : lenB (p0, p1, p2) 2 = e) (hE : lenB (h0, h1, h2) 2 = false)  :
    Calls Try.prog 45 #[.slice a n cap, .int .i64 f, .int .i64 t] w (OwnTag w (m0, m1, m2) al true e) := by
  have HP := Lib.hid (parts_row a n cap l (w.alloc tagB) hl hc hm hn (hat.alloc _) f t)
  rw [hP] at HP
  have hPl := parts_len l f t
  rw [hP, hl] at hPl
  have HAT := Lib.hid (fun (w' : World) (rp : Nat) (R : RD w' rp Q1) => attrs_any R hQ1 hA)
  clear hP hat hA
  go_enter Try.func45, Try.ntmps45
  go_wp2_with (first
    | (go_at_call 75; (with_reducible refine HP.out.mono ?_); rintro e w1 ⟨v, rfl, hown, hb1⟩; obtain ⟨va, vc, rfl, hvc⟩ := owns_slice hown; have rd0 := RD.made hown hvc 128; have hs1 : w.heap.size + 1 ≤ w1.heap.size := (by have := hb1.size; simp at this; omega); have tok1 : True := trivial)
    | (go_at_call 76; (have _t := tok1); (refine (take2 rd0 1 2 H1.out 1 2 rfl rfl _ (by simp)).mono ?_); rintro e w2 ⟨A1, c1, rfl, hl1, at1, rd1, hk1⟩; have hkk1 := hk1; have hz1 : w1.heap.size + 1 ≤ w2.heap.size := (by have := hk1.size; simp at this; omega); clear tok1 _t; have tok2 : True := trivial))
  obtain ⟨nb, no, hA1, hnl, n0⟩ := at1 3 _ rfl
  obtain ⟨nb1, no1, hA2, _, n1⟩ := at1 4 _ rfl
  obtain ⟨nb2, no2, hA3, _, n2⟩ := at1 5 _ rfl
  have HA1 := Lib.hid at1
  subst hA1
  simp only [Option.some.injEq, Addr.mk.injEq] at hA2 hA3
  obtain ⟨rfl, rfl, _⟩ := hA2
  obtain ⟨rfl, rfl, _⟩ := hA3
  obtain ⟨rp, hrp⟩ : ∃ rp, rp = w1.heap.size := ⟨_, rfl⟩
  obtain ⟨W1, hW1⟩ : ∃ W1, W1 = w1.alloc (.cells #[.slice va P.length vc] 128) := ⟨_, rfl⟩
  rw [← hrp] at rd0 at1 rd1 hk1 hkk1 hnl HA1 ⊢
  rw [← hW1] at hk1 hkk1
  have hsz : W1.heap.size = rp + 1 := by rw [hW1, hrp]; simp
  have hsw : w.heap.size + 1 ≤ rp := by rw [hrp]; exact hs1
  have HW := Lib.hid (And.intro hrp hW1)
  clear hrp hW1
  go_cut [10] (fun s10 wx => ∃ tb av, s10 = .pointer (some ⟨tb, 0, none⟩) ∧ Hid (TB W1 wx rp tb (m0, m1, m2) av false false al Q2 (some ⟨nb, no, none⟩) [(h0, h1, h2), (m0, m1, m2)]))
  case first =>
    have hw2 : rp + 1 ≤ w2.heap.size := by have := hk1.size; omega
    have hn1 : ¬ w2.heap.size = rp := by omega
    have hnr : nb < w2.heap.size := by omega
    go_region_held_law (fun W => W.cell? ⟨nb, no + 3, none⟩ = some (.int .i64 m0) ∧ W.cell? ⟨nb, no + 4, none⟩ = some (.int .i64 m1) ∧ W.cell? ⟨nb, no + 5, none⟩ = some (.int .i64 m2))
      ((refine ⟨?_, ?_, ?_⟩ <;> (repeat (first | (with_reducible assumption) | (with_reducible refine kp_alloc _ ?_) | (with_reducible refine kp_drew ?_) | (with_reducible refine kp_set _ (ne_blk (by omega)) ?_)))))
      (first
        | (go_at_call 77; (refine (HAT.out _ rp (rd1.next (by first | exact (Below.refl _ _).drew | exact (one_ok _ _).drew))).mono ?_); rintro e w3 ⟨av, rfl, own3, rd3, hk3⟩; obtain ⟨ta, tc, rfl, htc⟩ := owns_slice own3; obtain ⟨kc, kf⟩ := kcell hk3; have E0 := (kc nb (no + 3) (by simp; omega) (by omega)).trans (by first | exact n0 | exact kp_drew (kp_alloc _ n0)); have E1 := (kc nb (no + 4) (by simp; omega) (by omega)).trans (by first | exact n1 | exact kp_drew (kp_alloc _ n1)); have E2 := (kc nb (no + 5) (by simp; omega) (by omega)).trans (by first | exact n2 | exact kp_drew (kp_alloc _ n2)); have hw3 : w2.heap.size ≤ w3.heap.size := (by have := hk3.size; simp at this; omega)))
    · go_wp2_with fail
      go_meet
      have hT := TB.made (nm := (m0, m1, m2)) (hd := [(h0, h1, h2), (m0, m1, m2)]) (Q2 := Q2) ((hk1.next ((Below.refl _ _).drew)).trans hk3) own3 (by have := hk1.size; simp; omega) rd3 ((at1.below ((Below.refl _ _).drew)).kept hk3) (m0 : Int) (m1 : Int) (m2 : Int) rfl rfl rfl false false 78
      exact ⟨w3.heap.size, .slice ta al.length tc, rfl, Lib.hid hT⟩
    · go_wp2_with fail
      go_meet
      have hT := TB.fill (nm := (m0, m1, m2)) (hd := [(h0, h1, h2), (m0, m1, m2)]) (Q2 := Q2) (tb := w2.heap.size) (wy := w3) (av := .slice ta al.length tc) (al := al) ((hk1.next ((one_ok w2 tagB).drew)).trans hk3) own3 (by have := hk1.size; simp; omega) (fun hc => by have := (own3.lt _ hc).1; simp at this; omega) hk1.size (by omega) rd3 ((at1.kept (Kept.of_below ((one_ok w2 tagB).drew))).kept hk3) ((kc w2.heap.size 0 (by simp) hn1).trans (Box6.new w2).1) ((kc w2.heap.size 1 (by simp) hn1).trans (Box6.new w2).2.1) ((kc w2.heap.size 2 (by simp) hn1).trans (Box6.new w2).2.2.1) ((kc w2.heap.size 3 (by simp) hn1).trans (Box6.new w2).2.2.2.1) ((kc w2.heap.size 4 (by simp) hn1).trans (Box6.new w2).2.2.2.2.1) ((kc w2.heap.size 5 (by simp) hn1).trans (Box6.new w2).2.2.2.2.2.1) (fun i => (kf w2.heap.size i (by simp) hn1).trans ((Box6.new w2).2.2.2.2.2.2 i)) (m0 : Int) (m1 : Int) (m2 : Int) rfl rfl rfl false false
      exact ⟨w2.heap.size, .slice ta al.length tc, rfl, Lib.hid hT⟩
  case rest =>
    obtain ⟨tb, av, rfl, HTB⟩ := hcut
    obtain ⟨ta, tc, hav, htc⟩ := owns_slice HTB.out.own
    subst hav
    have hrw : rp < W1.heap.size := by omega
    have tok3 : True := trivial
    clear at1 rd1 hk1 hkk1 n0 n1 n2 HAT HP
    go_wp2_with (first
      | (go_at_call 76; (have _t := tok3); (refine (take1 HTB.out.rd 3 H3.out 3 rfl _ (by simp)).mono ?_); rintro e w4 ⟨A3, c3, rfl, hl3, at3, rd3, hk3⟩; have HT4 := Lib.hid (HTB.out.keep hk3 rd3 hrw); clear tok3 _t at3 rd3 hk3; have tok6 : True := trivial)
      | (go_at_call 76; (have _t := tok6); (refine (take1 HT4.out.rd 6 H6.out 6 rfl _ (by simp)).mono ?_); rintro e w5 ⟨A6, c6, rfl, hl6, at6, rd6, hk6⟩; have HT5 := Lib.hid (HT4.out.keep hk6 rd6 hrw); clear tok6 _t rd6 hk6; obtain ⟨lb, lo, hlq, hll, l0⟩ := at6 0 _ rfl; subst hlq; obtain ⟨lb1, lo1, hq, _, l1⟩ := at6 1 _ rfl; (simp only [Option.some.injEq, Addr.mk.injEq] at hq); obtain ⟨rfl, rfl, _⟩ := hq; obtain ⟨lb2, lo2, hq, _, l2⟩ := at6 2 _ rfl; (simp only [Option.some.injEq, Addr.mk.injEq] at hq); obtain ⟨rfl, rfl, _⟩ := hq; (rw [Nat.add_zero] at l0); clear at6; have tokL : True := trivial)
      | (go_at_call 78; (have _t := tokL); (refine (partIs hp1 hp2 ⟨#[47, 62]⟩ (by decide) he _).mono ?_); rintro e w6 ⟨rfl, hb6⟩; have HT6 := Lib.hid (HT5.out.next hb6 hrw); obtain ⟨gb, go, hgq, _, g0⟩ := HT6.out.hd 0 _ rfl; (simp only [Option.some.injEq, Addr.mk.injEq] at hgq); obtain ⟨rfl, rfl, _⟩ := hgq; obtain ⟨gb1, go1, hq, _, g1⟩ := HT6.out.hd 1 _ rfl; (simp only [Option.some.injEq, Addr.mk.injEq] at hq); obtain ⟨rfl, rfl, _⟩ := hq; obtain ⟨gb2, go2, hq, _, g2⟩ := HT6.out.hd 2 _ rfl; (simp only [Option.some.injEq, Addr.mk.injEq] at hq); obtain ⟨rfl, rfl, _⟩ := hq; (rw [Nat.add_zero] at g0); clear tokL _t l0 l1 l2; have tokH : True := trivial)
      | (go_at_call 78; (have _t := tokH); (refine (partIs hh1 hh2 ⟨#[60, 47]⟩ (by decide) hE _).mono ?_); rintro e w7 ⟨rfl, hb7⟩; have HT7 := Lib.hid (HT6.out.next hb7 hrw); clear tokH _t g0 g1 g2; obtain ⟨y0, y1, y2, y3, y4, y5, yz⟩ := res_cells hb1 (by rw [← HW.out.1, ← HW.out.2]; exact HT7.out.kept : Kept w1.heap.size (w1.alloc (.cells #[.slice va P.length vc] 128)) w7); have x0 := HT7.out.t0; have x1 := HT7.out.t1; have x2 := HT7.out.t2; have x3 := HT7.out.t3; have x4 := HT7.out.t4; have x5 := HT7.out.t5; have xz := HT7.out.fz; have hng : ¬ w.heap.size = tb := (by have := HT7.out.base; omega); have hng2 : ¬ tb = w.heap.size := (by omega)))
    have HTF := HT7.out.flags hrw true e
    have HD := TB.done (w := w) (by rw [← HW.out.1, ← HW.out.2]; exact HTF) hb1 (.int .i64 m0) (.int .i64 m1) (.int .i64 m2) (.slice ta al.length tc) (.bool true) (.bool e)
    refine bodyPost_ret (v := tagI m0 m1 m2 (.slice ta al.length tc) true e) ?_ rfl ⟨_, rfl, HD.1, HD.2⟩
    simp [results, Try.results45, go_sem, y0, y1, y2, y3, y4, y5, hng, hng2]

end Go.Proofs.Ytblebkpnjeghoaa
