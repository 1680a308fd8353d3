/-
  What nset.Pack does, over this seat's program.
-/
import Derived.Test.YtpfmhlldkikbjaaDoorNwh
set_option linter.unusedVariables false
namespace Go.Proofs.YtpfmhlldkikbjaaDoor
open Go.RowKit Go.Proofs.Nst

def cellsN (n : Nat) : List Value := [.int .u32 (n : Int)]
theorem cellsN_len (n : Nat) : (cellsN n).length = 1 := rfl
def RowN (w : World) (v : Value) (l : List Nat) : Prop := RowG cellsN (fun n => n ≤ 4294967295) w v l
theorem RowN.below {w w' : World} {v : Value} {l : List Nat} (h : RowN w v l) (hb : Below w.heap.size w w') : RowN w' v l := RowG.below h hb
/-- Whether numbers rise. -/
def riseB (l : List Nat) : Bool := decide (l.Pairwise (· < ·))
def packR (ns : List Nat) : List Sp × Nat :=
  if riseB ns = true then if ns = [] ∨ ns.head? = some 0 then ([], 1) else if (packS ns).length ≤ 1024 then (packS ns, 0) else ([], 1) else ([], 12)
theorem rise_of {l : List Nat} (h : ∀ (j : Nat) (h : j + 1 < l.length), l[j] < l[j + 1]) : l.Pairwise (· < ·) := by
  rw [List.pairwise_iff_getElem]
  intro i j hi hj hij
  obtain ⟨d, rfl⟩ : ∃ d, j = i + 1 + d := ⟨j - i - 1, by omega⟩
  clear hij
  induction d with
  | zero => exact h i hj
  | succ d ih =>
    have h3 := ih (by omega)
    have h4 : l[i + 1 + d] < l[i + 1 + (d + 1)] := h (i + 1 + d) hj
    omega
theorem rise_not {l : List Nat} {k : Nat} (h : k + 1 < l.length) (hle : l[k + 1] ≤ l[k]) : riseB l = false := by
  unfold riseB
  rw [decide_eq_false_iff_not]
  intro hp
  have := List.pairwise_iff_getElem.1 hp k (k + 1) (by omega) h (by omega)
  omega
theorem wrap64_back {k : Nat} (h : k ≤ 4194304) : wrap64 ((k : Int) + 1 - 1) = (k : Int) := by unfold wrap64; omega
theorem wrap_back {k : Nat} (h : k ≤ 4194304) : IntKind.i64.wrap ((k : Int) + 1 - 1) = (k : Int) := by rw [IntKind.wrap_i64]; omega

theorem packS_next {ns : List Nat} {j : Nat} (h : j < ns.length) : packS (ns.take (j + 1)) = putS (packS (ns.take j)) (ns[j], ns[j]) := by
  rw [List.take_succ_eq_append_getElem h, packS_snoc]
theorem packS_fit {ns : List Nat} (hf : ∀ n ∈ ns, n ≤ 4294967295) : (∀ x ∈ packS ns, FitS x) ∧ (packS ns).length ≤ ns.length := by
  refine ⟨?_, ?_⟩
  · exact put_fit_all (R := []) (by simp) _ [] (fun x hx => by obtain ⟨n, hn, rfl⟩ := List.mem_map.1 hx; exact ⟨hf n hn, hf n hn⟩) (by simp)
  · have h9 := putAll_len (ns.map (fun n => (n, n))) []
    rw [List.length_map, List.length_nil] at h9
    have h10 : packS ns = (ns.map (fun n => (n, n))).foldl putS [] := rfl
    rw [h10]
    omega

end Go.Proofs.YtpfmhlldkikbjaaDoor
