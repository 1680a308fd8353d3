/-
  What date.Parse does, over this seat's program.
-/
import Derived.Test.YtdallfakfhajdaaGreatDoorDrd
set_option linter.unusedVariables false
namespace Go.Proofs.YtdallfakfhajdaaGreatDoor
open Go.RowKit Go.Proofs.Dcl

/-- The day, if nothing is left. -/
def dayOnly (o : Option (Int × List UInt8)) : Option Int := match o with
  | some (d, []) => some d
  | _ => none
/-- A client's day. -/
def parseR (l : List UInt8) : Option Int :=
  if Lib.indexByte l 45 < 1 ∨ 2 < Lib.indexByte l 45 ∨ (Lib.indexByte l 45 = 2 ∧ l.head? = some 48) then none
  else dayOnly (readDayR (Lib.indexByte l 45).toNat l)
/-- A number, or an error. -/
def numV (o : Option Int) (no : Int) : Value := match o with
  | some n => .tuple #[.int .i64 n, .int .i64 0]
  | none => .tuple #[.int .i64 0, .int .i64 no]

theorem mom_new (w : World) (l : ByteArray) : Mom (w.alloc (.cells #[.int .i64 0, .int .i64 0, .int .i64 0, .string l] 94)) w.heap.size 0 0 0 l := Blk.new w _ _

theorem bts_ne (l : List UInt8) : ((bts l).toList == (ByteArray.toList { data := #[] })) = decide (l = []) := by
  rw [ByteArray.toList_eq, ByteArray.toList_eq, toList_bts]
  cases l <;> simp

end Go.Proofs.YtdallfakfhajdaaGreatDoor
