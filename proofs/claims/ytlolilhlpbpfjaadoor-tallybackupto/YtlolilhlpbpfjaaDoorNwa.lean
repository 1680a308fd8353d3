/-
  What a span's ends, order and Has do, over this seat's program.
-/
import Derived.Test.YtlolilhlpbpfjaaDoorRwg
import Derived.Test.YtlolilhlpbpfjaaDoorNsb
import Derived.Test.YtlolilhlpbpfjaaDoorNsc
import Derived.Deep.QuietTactic
import Derived.BigQuiet
import Derived.WalkLawsBesides
import Derived.Deep.RegionWith
import Derived.Deep.RegionHeld3
set_option linter.unusedVariables false
namespace Go.Proofs.YtlolilhlpbpfjaaDoor
open Go.RowKit Go.Proofs.Nst

/-- The cells of a span, and slices of spans. -/
def cellsS (s : Sp) : List Value := [.int .u32 (s.1 : Int), .int .u32 (s.2 : Int)]
theorem cellsS_len (s : Sp) : (cellsS s).length = 2 := rfl
def FitS (s : Sp) : Prop := s.1 ≤ 4294967295 ∧ s.2 ≤ 4294967295
def RowSp (w : World) (v : Value) (l : List Sp) : Prop := RowG cellsS FitS w v l
theorem RowSp.below {w w' : World} {v : Value} {l : List Sp} (h : RowSp w v l) (hb : Below w.heap.size w w') : RowSp w' v l := RowG.below h hb

theorem below_alloc0 (w : World) (o : Obj) : Below w.heap.size w (w.alloc o) := (Below.refl _ w).alloc (Nat.le_refl _) _

end Go.Proofs.YtlolilhlpbpfjaaDoor
