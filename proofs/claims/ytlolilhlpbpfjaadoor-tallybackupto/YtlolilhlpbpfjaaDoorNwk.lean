/-
  What nset.Only does, over this seat's program: the walk.
-/
import Derived.Test.YtlolilhlpbpfjaaDoorNwj
set_option linter.unusedVariables false
namespace Go.Proofs.YtlolilhlpbpfjaaDoor
open Go.RowKit Go.Proofs.Nst

end Go.Proofs.YtlolilhlpbpfjaaDoor
