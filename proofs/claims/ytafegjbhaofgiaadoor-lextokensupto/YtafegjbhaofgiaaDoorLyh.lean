/-
  What missiveref28.token does, over this seat's program.
-/
import Derived.Test.YtafegjbhaofgiaaDoorLye
import Derived.Test.YtafegjbhaofgiaaDoorLyf
import Derived.Test.YtafegjbhaofgiaaDoorLyg
set_option linter.unusedVariables false
set_option linter.unusedSimpArgs false
namespace Go.Proofs.YtafegjbhaofgiaaDoor
open Go.RowKit Go.Proofs.Lx

theorem refTok_any (s : ByteArray) (w : World) (hs : s.size ≤ 4194304) :
    Calls Tryd.prog 31 #[.string s] w fun e w' => (∃ v, e = .returned v ∧ RefTV s.data.toList v) ∧ Below w.heap.size w w' := by
  by_cases h0 : s.size = 0
  · exact refTok_empty s w h0
  have h1 : 1 ≤ s.size := by omega
  by_cases c40 : s[0] = 40
  · exact refTok_open s w h1 (by omega) c40
  by_cases c41 : s[0] = 41
  · exact refTok_shut s w h1 (by omega) c41
  by_cases c34 : s[0] = 34
  · exact refTok_quo s w h1 hs c34
  by_cases c123 : s[0] = 123
  · exact refTok_lit s w h1 hs c123
  exact refTok_atom s w h1 hs ⟨c40, c41, c34, c123⟩
end Go.Proofs.YtafegjbhaofgiaaDoor
