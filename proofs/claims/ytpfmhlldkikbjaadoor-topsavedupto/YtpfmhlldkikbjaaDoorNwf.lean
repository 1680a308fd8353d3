/-
  Nothing is wanted here at this seat: it sorts no spans.
-/
import Derived.Test.YtpfmhlldkikbjaaDoorNwe
