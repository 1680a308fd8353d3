/-
  What nset.apart does, over this seat's program.
-/
import Derived.Test.YtlolilhlpbpfjaaDoorNwf
set_option linter.unusedVariables false
namespace Go.Proofs.YtlolilhlpbpfjaaDoor
open Go.RowKit Go.Proofs.Nst

theorem own_monoS {w : World} {B B' e z : Nat} {v : Value} {n : Nat} {xs : List Value} (h : w.ownsRow B e z v n xs) (hb : B' ≤ B) : w.ownsRow B' e z v n xs := by
  refine ⟨h.1, ?_⟩
  rcases h.2 with h1 | ⟨g, cap, cur, hv, hg, r⟩
  · exact .inl h1
  · exact .inr ⟨g, cap, cur, hv, Nat.le_trans hb hg, r⟩
theorem own_some {w : World} {B e z : Nat} {a : Addr} {n cap : Nat} {xs : List Value} (h : w.ownsRow B e z (.slice (some a) n cap) n xs) : ∃ g, a = ⟨g, 0, none⟩ ∧ B ≤ g ∧ g < w.heap.size := by
  rcases h.2 with ⟨h1, _⟩ | ⟨g, cap', cur, hv, hg, hh, r⟩
  · cases h1
  · injection hv with e1
    injection e1 with e1
    exact ⟨g, e1, hg, (Array.getElem?_eq_some_iff.1 hh).1⟩
theorem ord_fit {m : Nat} (hm : m ≤ 4294967295) {l : List Sp} (hf : ∀ x ∈ l, FitS x) : ∀ x ∈ l.map (ordS m), FitS x := by
  intro x hx
  obtain ⟨y, hy, rfl⟩ := List.mem_map.1 hx
  have := hf y hy
  unfold FitS at *
  unfold ordS endN
  simp only
  split <;> split <;> omega
theorem take_map_next {l : List Sp} {m k : Nat} (h : k < l.length) : (l.take (k + 1)).map (ordS m) = (l.take k).map (ordS m) ++ [ordS m l[k]] := by
  rw [List.take_succ_eq_append_getElem h, List.map_append]
  rfl
theorem take_put_next {R : List Sp} {k : Nat} (h : k < R.length) : (R.take (k + 1)).foldl putS [] = putS ((R.take k).foldl putS []) R[k] := by
  rw [List.take_succ_eq_append_getElem h, List.foldl_append]
  rfl
theorem put_fit_all {R : List Sp} (hf : ∀ x ∈ R, FitS x) : ∀ (r : List Sp) (L : List Sp), (∀ x ∈ r, FitS x) → (∀ x ∈ L, FitS x) → ∀ x ∈ r.foldl putS L, FitS x
  | [], L, _, hL => hL
  | s :: r, L, hr, hL => put_fit_all hf r (putS L s) (fun x hx => hr x (List.mem_cons_of_mem _ hx)) (putS_fit hL (hr s List.mem_cons_self))

end Go.Proofs.YtlolilhlpbpfjaaDoor
