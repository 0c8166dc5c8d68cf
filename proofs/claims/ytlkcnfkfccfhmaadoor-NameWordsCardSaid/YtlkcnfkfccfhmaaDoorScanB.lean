/-
  Contracts: few, short, piece, Items of layer 1.
-/
import Derived.Test.YtlkcnfkfccfhmaaDoorScanA
import Derived.Lib.OthersKept
import Derived.Lib.RuneCount
import Derived.WalkSmall
import Derived.Laws.BytesArg
namespace Go.Proofs.YtlkcnfkfccfhmaaDoor
open Go.RowKit

theorem run_str {P : Program} (w : World) (src e dst : TypeId) (hs : P.underlying src = some (.slice e)) (he : P.underlying e = some (.int .u8)) (hd : P.underlying dst = some .string)
    (a : Option Addr) (n cap : Nat) (zs : List Int) (hn : zs.length = n) (hat : AtCells w a (zs.map (Value.int .u8))) :
    Sem.run P (convert src dst (.slice a n cap)) w = .ok (.string (strOfNums zs)) w := by
  rcases zs with _ | ⟨z, zs⟩
  · simp at hn; subst hn
    rw [run_convert_bytes_string w src dst e a _ cap hs he hd]
    cases a with
    | none => rfl
    | some x => rw [run_bytesToString w x 0 cap [] (by rfl)]; rfl
  · obtain ⟨b, off, rfl, _⟩ := hat.int (k := 0) (by simp)
    exact run_convert_bytes_arg w src e hs he b off n cap _ hn (fun i hi => by
      obtain ⟨b', off', hb, hc⟩ := hat.int (k := i) (by omega)
      simp only [Option.some.injEq, Addr.mk.injEq] at hb
      obtain ⟨rfl, rfl, _⟩ := hb
      exact hc) dst hd

/-- Do bytes, at a place, that the library reads as U+FFFD, not have it? -/
def badAt (s : ByteArray) (r : Int) : Bool := decide (r = 65533) && !Lib.hasPrefix s.data.toList [239, 191, 189]
def pieceR (s : ByteArray) (r : Int) : Int := if badAt s r then -1 else r
def pieceN (s : ByteArray) (r : Int) : Int := if badAt s r then 1 else U8.width r


/-- A piece's three cells; all pieces' cells. -/
def itemCells (x : Int × Int × Int) : List Value := [.int .i32 x.1, .int .i64 x.2.1, .int .i64 x.2.2]
def itemsCells (l : List (Int × Int × Int)) : List Value := l.flatMap itemCells

/-- The piece at a place. -/
def itemAt (s : ByteArray) (pos : Nat) : Int × Int × Int := (pieceR (s.extract pos s.size) (Utf8.decode s pos).1, (pos : Int), pieceN (s.extract pos s.size) (Utf8.decode s pos).1)

/-- The pieces of a string from a place on, by at most so many. -/
def itemsFrom (s : ByteArray) : Nat → Nat → List (Int × Int × Int)
  | 0, _ => []
  | fuel + 1, pos => if pos < s.size then
      itemAt s pos :: itemsFrom s fuel (pos + (Utf8.decode s pos).2)
    else []
def itemsOf (s : ByteArray) : List (Int × Int × Int) := itemsFrom s s.size 0

theorem itemsFrom_end (s : ByteArray) (fuel pos : Nat) (h : ¬ pos < s.size) : itemsFrom s fuel pos = [] := by
  cases fuel with
  | zero => rfl
  | succ f => simp [itemsFrom, h]

theorem itemsCells_length (l : List (Int × Int × Int)) : (itemsCells l).length = l.length * 3 := by
  induction l with
  | nil => rfl
  | cons x l ih => simp only [itemsCells, List.flatMap_cons, List.length_append, List.length_cons] at *; rw [ih]; simp [itemCells]; omega
theorem itemsCells_snoc (l : List (Int × Int × Int)) (x : Int × Int × Int) : itemsCells (l ++ [x]) = itemsCells l ++ itemCells x := by simp [itemsCells]


theorem itemCells_one (x : Int × Int × Int) : ∀ u ∈ itemCells x, u.oneCell' = true := by
  intro u hu
  simp only [itemCells, List.mem_cons, List.not_mem_nil, or_false] at hu
  rcases hu with rfl | rfl | rfl <;> rfl



end Go.Proofs.YtlkcnfkfccfhmaaDoor
