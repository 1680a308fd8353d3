/-
  Nothing of its own: the sort of spans is not called over this seat's program.
-/
import Derived.Test.YtlolilhlpbpfjaaDoorNwe
