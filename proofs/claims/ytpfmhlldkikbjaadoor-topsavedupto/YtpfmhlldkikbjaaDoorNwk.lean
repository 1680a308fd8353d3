/-
  What nset.Only does, over this seat's program: the walk.
-/
import Derived.Test.YtpfmhlldkikbjaaDoorNwj
set_option linter.unusedVariables false
namespace Go.Proofs.YtpfmhlldkikbjaaDoor
open Go.RowKit Go.Proofs.Nst

end Go.Proofs.YtpfmhlldkikbjaaDoor
