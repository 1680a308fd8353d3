/-
  What date.monthOf and the moment's has, take and readDay do, over this seat's program.
-/
import Derived.Test.YthpjogfclklefaaDoorDtx
set_option linter.unusedVariables false
namespace Go.Proofs.YthpjogfclklefaaDoor
open Go.RowKit Go.Proofs.Dcl

theorem nmL_len (k : Nat) (h : k < 12) : (nmL k).length = 3 := by
  have : k = 0 ∨ k = 1 ∨ k = 2 ∨ k = 3 ∨ k = 4 ∨ k = 5 ∨ k = 6 ∨ k = 7 ∨ k = 8 ∨ k = 9 ∨ k = 10 ∨ k = 11 := by omega
  rcases this with rfl | rfl | rfl | rfl | rfl | rfl | rfl | rfl | rfl | rfl | rfl | rfl <;> rfl

def monV (m : Nat) : Value := if m = 0 then .tuple #[.int .i64 0, .bool false] else .tuple #[.int .i64 (m : Int), .bool true]

/-- A moment at work: its day, second, zone, and what is left of its text. -/
def Mom (w : World) (b : Nat) (d s z : Int) (l : ByteArray) : Prop := Blk w b 84 #[.int .i64 d, .int .i64 s, .int .i64 z, .string l]

theorem Mom.left {w : World} {b : Nat} {d s z : Int} {l : ByteArray} (h : Mom w b d s z l) (l' : ByteArray) : Mom (w.setCell ⟨b, 3, none⟩ (.string l')) b d s z l' := Blk.set h 3 (.string l')
theorem Mom.day {w : World} {b : Nat} {d s z : Int} {l : ByteArray} (h : Mom w b d s z l) (d' : Int) : Mom (w.setCell ⟨b, 0, none⟩ (.int .i64 d')) b d' s z l := Blk.set h 0 (.int .i64 d')
theorem Mom.drew {w : World} {b : Nat} {d s z : Int} {l : ByteArray} (h : Mom w b d s z l) (q : Nat) : Mom (w.drewN q) b d s z l := h

/-- What is left behind a byte that is asked for. -/
def behindB (c : UInt8) (l : ByteArray) : ByteArray := if l.data.toList.head? = some c then l.extract 1 l.size else l

end Go.Proofs.YthpjogfclklefaaDoor
