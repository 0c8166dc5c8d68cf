/-
  Contract: the law's examples (awake) of layer 6.
-/
import Derived.Test.YtlkcnfkfccfhmaaSpD
import Derived.Test.YtlkcnfkfccfhmaaSpF
import Derived.Laws.BytesArg
import Derived.WalkSpells
import Derived.Lib.SlBytesConst
namespace Go.Proofs.Ytlkcnfkfccfhmaa
open Go.RowKit
set_option linter.unusedVariables false

theorem run_strB {P : Program} (w : World) (src e dst : TypeId) (hs : P.underlying src = some (.slice e)) (he : P.underlying e = some (.int .u8)) (hd : P.underlying dst = some .string)
    (a : Option Addr) (n cap : Nat) (zs : List Int) (hn : zs.length = n) (hat : AtCells w a (zs.map (Value.int .u8))) :
    Sem.run P (convert src dst (.slice a n cap)) w = .ok (.string (strOfNums zs)) w := by
  rcases zs with _ | ⟨z, zs⟩
  · simp at hn; subst hn
    rw [run_convert_bytes_string w src dst e a _ cap hs he hd]
    cases a with
    | none => rfl
    | some x => rw [run_bytesToString w x 0 cap [] (by rfl)]; rfl
  · obtain ⟨b, off, rfl, _⟩ := hat.int (k := 0) (by simp)
    exact run_convert_bytes_arg w src e hs he b off n cap _ hn (fun i hi => by
      obtain ⟨b', off', hb, hc⟩ := hat.int (k := i) (by omega)
      simp only [Option.some.injEq, Addr.mk.injEq] at hb
      obtain ⟨rfl, rfl, _⟩ := hb
      exact hc) dst hd

/-- A row that was just laid. -/
theorem at_new (w : World) (k : IntKind) (zs : List Int) (e : TypeId) (m : Nat × Nat) : AtCells (w.alloc (.cells (zs.map (Value.int k)).toArray e m)) (some ⟨w.heap.size, 0, none⟩) (zs.map (.int k)) := by
  intro j u hj
  refine ⟨w.heap.size, 0, rfl, ?_⟩
  have h : (w.alloc (.cells (zs.map (Value.int k)).toArray e m)).heap[w.heap.size]? = some (.cells (zs.map (Value.int k)).toArray e m) := by
    show (w.heap.push _)[w.heap.size]? = _
    simp
  unfold World.cell?
  simp only [h]
  simpa using hj

theorem awakeLine (w : World) : Calls Try.prog 16 #[.slice (some ⟨w.heap.size, 0, none⟩) 4 4, .int .i64 3] (w.alloc (.cells #[.int .i32 97, .int .i32 13, .int .i32 10, .int .i32 98] 21))
    fun e w' => e = .returned (.tuple #[.int .i64 2, .int .i64 1]) ∧ (w.alloc (.cells #[.int .i32 97, .int .i32 13, .int .i32 10, .int .i32 98] 21)) = w' := by
  have h := line_any (some ⟨w.heap.size, 0, none⟩) 4 4 [97, 13, 10, 98] 3 (w.alloc (.cells #[.int .i32 97, .int .i32 13, .int .i32 10, .int .i32 98] 21)) rfl (by omega) (by omega) (by unfold maxLen; omega) (at_new w .i32 [97, 13, 10, 98] 21 (0, 0))
  have e : lc [97, 13, 10, 98] (clampN 3 4) = (2, 1) := by decide
  rw [e] at h
  exact h

theorem awakeReplace (w : World) (o : Obj) (k k2 : Nat) (hk : k = (w.alloc o).heap.size) (hk2 : k2 = k + 1) : Calls Try.prog 19 #[.slice (some ⟨k, 0, none⟩) 3 3, .agg #[.int .i64 1, .int .i64 2], .slice (some ⟨k2, 0, none⟩) 2 2]
      (((w.alloc o).alloc (.cells #[.int .u8 97, .int .u8 98, .int .u8 99] 5 (3, 4))).alloc (.cells #[.int .u8 120, .int .u8 121] 5 (2, 3)))
    fun e w' => (∃ v, e = .returned (.tuple #[v, .int .i64 0]) ∧ w'.ownsRow w.heap.size 5 1 v 4 ([97, 120, 121, 99].map (Value.int .u8))) ∧ Below w.heap.size w w' := by
  subst hk hk2
  obtain ⟨W, hW⟩ : ∃ W, W = w.alloc o := ⟨_, rfl⟩
  rw [← hW]
  have hb : Below w.heap.size w W := by rw [hW]; exact bl1 _ _
  have h1 := at_new W .u8 [97, 98, 99] 5 (3, 4)
  have h2 := at_new (W.alloc (.cells #[.int .u8 97, .int .u8 98, .int .u8 99] 5 (3, 4))) .u8 [120, 121] 5 (2, 3)
  have h := replace_ok (some ⟨W.heap.size, 0, none⟩) (some ⟨W.heap.size + 1, 0, none⟩) 3 3 2 2 [97, 98, 99] [120, 121] 1 2 ((W.alloc (.cells #[.int .u8 97, .int .u8 98, .int .u8 99] 5 (3, 4))).alloc (.cells #[.int .u8 120, .int .u8 121] 5 (2, 3))) (by unfold maxLen; omega)
    ⟨rfl, Nat.le_refl _, (fun h => by cases h), h1.below (bl1 _ _)⟩ (by omega)
    ⟨rfl, Nat.le_refl _, (fun h => by cases h), by simpa using h2⟩ (by omega) (by omega) (by omega) (by omega) (fun x hx _ => by cases hx; rfl)
  refine h.mono fun e w' ⟨v, he, ho, hb2⟩ => ⟨⟨v, he, owns_base ho ?_⟩, Below.more (Below.more hb (bl2 _ _ _)) hb2⟩
  exact (Below.more hb (bl2 _ _ _)).size

theorem awake_text : strOfNums [97, 120, 121, 99] = ⟨#[97, 120, 121, 99]⟩ := by rfl

theorem conv_at (w : World) (o : Obj) (C : Array Value) (n c k : Nat) (hk : k = (w.alloc o).heap.size) :
    Sem.run Try.prog (convert 49 49 (.slice (some ⟨k, 0, none⟩) n c)) ((w.alloc o).alloc (.cells C 5)) = .ok (.slice (some ⟨k, 0, none⟩) n c) ((w.alloc o).alloc (.cells C 5 (C.size, C.size + 1))) := by
  subst hk
  exact Lib.run_convert_bytes_const (P := Try.prog) (w.alloc o) _ _ C n c Try.underlying49 Try.underlying5

set_option maxHeartbeats 1000000 in
theorem awake_any (w : World) : Calls Try.prog 13 #[] w fun e w' => e = .returned (.bool true) ∧ Below w.heap.size w w' := by
  have HT := Lib.hid awake_text
  have k1 := conv_at w (.cells #[.int .i32 97, .int .i32 13, .int .i32 10, .int .i32 98] 21) #[.int .u8 97, .int .u8 98, .int .u8 99] 3 3 (w.heap.size + 1) (by simp)
  have k2 := conv_at (w.alloc (.cells #[.int .i32 97, .int .i32 13, .int .i32 10, .int .i32 98] 21)) (.cells #[.int .u8 97, .int .u8 98, .int .u8 99] 5 (3, 4)) #[.int .u8 120, .int .u8 121] 2 2 (w.heap.size + 1 + 1) (by simp)
  go_enter Try.func13, Try.ntmps13
  go_wp2_with (first
    | (go_at_call 16; (with_reducible refine (awakeLine _).mono ?_); rintro e w' ⟨rfl, rfl⟩)
    | (go_at_call 19; (refine (awakeReplace _ _ _ _ (by simp) rfl).mono ?_); rintro e w' ⟨⟨v, rfl, hown⟩, hb⟩; obtain ⟨va, vc, rfl, hvc⟩ := owns_slice hown; have hr := run_strB (P := Try.prog) w' 49 5 9 Try.underlying49 Try.underlying5 Try.underlying9 va 4 vc _ rfl (AtCells.of_owns hown); rw [HT.out] at hr; clear hown))
  go_ret
  exact ⟨rfl, hb⟩

end Go.Proofs.Ytlkcnfkfccfhmaa
