/-
  What nset.Only does, over this seat's program: the walk.
-/
import Derived.Test.YtlolilhlpbpfjaaGreatDoorNwj
set_option linter.unusedVariables false
namespace Go.Proofs.YtlolilhlpbpfjaaGreatDoor
open Go.RowKit Go.Proofs.Nst

end Go.Proofs.YtlolilhlpbpfjaaGreatDoor
