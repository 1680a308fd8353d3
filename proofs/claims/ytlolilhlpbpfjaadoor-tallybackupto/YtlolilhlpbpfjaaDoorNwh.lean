/-
  What nset.Sort and nset.Count do, over this seat's program.
-/
import Derived.Test.YtlolilhlpbpfjaaDoorNwg
set_option linter.unusedVariables false
namespace Go.Proofs.YtlolilhlpbpfjaaDoor
open Go.RowKit Go.Proofs.Nst

def sortR (m : Nat) (l : List Sp) : List Sp × Nat := if l.length ≤ 1024 then (apartS m l, 0) else ([], 1)
def countR (m : Nat) (l : List Sp) : Nat × Nat := if l.length ≤ 1024 then (cntS (apartS m l), 0) else (0, 1)

theorem cntS_take {l : List Sp} {k : Nat} (h : k < l.length) : cntS (l.take (k + 1)) = cntS (l.take k) + ((l[k]).2 - (l[k]).1 + 1) := by
  rw [List.take_succ_eq_append_getElem h, cntS_append, cntS_one]
theorem cntS_le {l : List Sp} (hf : ∀ x ∈ l, FitS x) : cntS l ≤ l.length * 4294967296 := by
  induction l with
  | nil => simp [cntS]
  | cons s r ih =>
    have h1 := ih (fun x hx => hf x (List.mem_cons_of_mem _ hx))
    have h2 := hf s List.mem_cons_self
    unfold FitS at h2
    have h3 : cntS (s :: r) = (s.2 - s.1 + 1) + cntS r := by simp [cntS]
    rw [h3, List.length_cons]
    omega

end Go.Proofs.YtlolilhlpbpfjaaDoor
