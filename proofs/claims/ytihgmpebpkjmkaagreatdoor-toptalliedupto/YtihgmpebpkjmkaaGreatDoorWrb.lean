/-
  A builder at work: a byte and a text are put behind, over this seat's program.
-/
import Derived.Test.YtihgmpebpkjmkaaGreatDoorBlc
set_option linter.unusedVariables false
namespace Go.Proofs.YtihgmpebpkjmkaaGreatDoor
open Go.RowKit

/-- A builder at work, that was made behind the world u. -/
structure Wr (u W : World) (l : List UInt8) : Prop where
  isb : Lib.IsBuilderF 60 5 u.heap.size u.heap.size (Lib.byteCells l) W
  bel : Below u.heap.size u W

theorem Wr.new (u : World) : Wr u (u.alloc (.cells #[.pointer none, .slice none 0 0] 60)) [] :=
  ⟨Lib.IsBuilderF.of (Lib.fresh_isBuilder 60 5 u), (Below.refl _ _).alloc (Nat.le_refl _) _⟩
theorem Wr.below {u W W' : World} {l : List UInt8} (h : Wr u W l) (hb : Below W.heap.size W W') : Wr u W' l :=
  ⟨isB_below h.isb hb, h.bel.trans (hb.mono h.bel.size)⟩

theorem wByte {u W : World} {l : List UInt8} (h : Wr u W l) (c : UInt8) (x : Int) (hx : x = (c.toNat : Int)) (hl : l.length ≤ 1099511627776) :
    Calls Tryz.prog 57 #[.pointer (some ⟨u.heap.size, 0, none⟩), .int .u8 x] W fun e w' => e = .returned .nilIface ∧ Wr u w' (l ++ [c]) := by
  refine (writeByte_k u.heap.size u.heap.size (Lib.byteCells l) x W h.isb (by rw [Lib.byteCells_length]; omega) h.bel.size).mono ?_
  rintro e w' ⟨rfl, h1, h2, _⟩
  refine ⟨rfl, ?_, h.bel.trans h2⟩
  rw [← byteCells_snoc l c x hx]
  exact Or.inr h1

theorem wStr {u W : World} {l : List UInt8} (h : Wr u W l) (s : ByteArray) (hl : l.length + s.size ≤ 1099511627776) :
    Calls Tryz.prog 21 #[.pointer (some ⟨u.heap.size, 0, none⟩), .string s] W fun e w' => e = .returned (.tuple #[.int .i64 s.size, .nilIface]) ∧ Wr u w' (l ++ s.data.toList) := by
  refine (writeString_k u.heap.size u.heap.size l s W h.isb (by omega) h.bel.size).mono ?_
  rintro e w' ⟨rfl, h1, h2⟩
  exact ⟨rfl, h1, h.bel.trans h2⟩

end Go.Proofs.YtihgmpebpkjmkaaGreatDoor
