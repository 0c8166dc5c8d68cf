/-
  Bytes of a row as a string.
-/
import Derived.Test.YtbljgoieieoamaaRows0
import Derived.Laws.BytesArg
import Derived.WalkSpells
namespace Go.Proofs.Ytbljgoieieoamaa
open Go.RowKit
set_option linter.unusedVariables false

theorem run_strB {P : Program} (w : World) (src e dst : TypeId) (hs : P.underlying src = some (.slice e)) (he : P.underlying e = some (.int .u8)) (hd : P.underlying dst = some .string)
    (a : Option Addr) (n cap : Nat) (zs : List Int) (hn : zs.length = n) (hat : AtCells w a (zs.map (Value.int .u8))) :
    Sem.run P (convert src dst (.slice a n cap)) w = .ok (.string (strOfNums zs)) w := by
  rcases zs with _ | ⟨z, zs⟩
  · simp at hn; subst hn
    rw [run_convert_bytes_string w src dst e a _ cap hs he hd]
    cases a with
    | none => rfl
    | some x => rw [run_bytesToString w x 0 cap [] (by rfl)]; rfl
  · obtain ⟨b, off, rfl, _⟩ := hat.int (k := 0) (by simp)
    exact run_convert_bytes_arg w src e hs he b off n cap _ hn (fun i hi => by
      obtain ⟨b', off', hb, hc⟩ := hat.int (k := i) (by omega)
      simp only [Option.some.injEq, Addr.mk.injEq] at hb
      obtain ⟨rfl, rfl, _⟩ := hb
      exact hc) dst hd

end Go.Proofs.Ytbljgoieieoamaa
