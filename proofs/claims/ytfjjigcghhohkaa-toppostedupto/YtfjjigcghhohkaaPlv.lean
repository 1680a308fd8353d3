/-
  What missivelaw13.lists does, over this seat's program.
-/
import Derived.Test.YtfjjigcghhohkaaPsm
set_option linter.unusedVariables false
namespace Go.Proofs.Ytfjjigcghhohkaa
open Go.RowKit Go.Proofs.Num Go.Proofs.Dct Go.Proofs.Pst

theorem rowP_lit (w : World) (l : List Nat) (cs : Array Value) (hcs : flatG cells32 l = cs.toList) (hl : l.length ≤ 4194304) (hf : ∀ x ∈ l, x ≤ 4294967295) (n : Nat) (hn : n = l.length) (g : Nat) (hg : g = w.heap.size) :
    Row32 (w.alloc (.cells cs 31)) (.slice (some ⟨g, 0, none⟩) n n) l := by
  subst hn hg
  refine ⟨_, _, rfl, by omega, hf, Or.inr ⟨w.heap.size, 0, rfl, by simp, fun j u hj => ?_⟩⟩
  rw [Nat.zero_add, Blk.cell (Blk.new w 31 cs)]
  rw [hcs] at hj
  simpa using hj
theorem below_alloc (w : World) (o : Obj) : Below w.heap.size w (w.alloc o) := (Below.refl _ w).alloc (Nat.le_refl _) _
def p1 : List Nat := [1, 2, 5]
def p2 : List Nat := [2, 3, 5]
theorem fit_p {l : List Nat} (h : l.all (fun x => decide (x ≤ 4294967295)) = true) : ∀ x ∈ l, x ≤ 4294967295 := by
  intro x hx
  have := List.all_eq_true.1 h x hx
  exact of_decide_eq_true this
theorem and_p : andR [p1, p2] = ([2, 5], 0) := by decide +kernel
theorem merge_p : mergeL p1 p2 = [1, 2, 3, 5] := by
  unfold p1 p2
  rw [merge_lt (by decide), merge_eq rfl, merge_gt (by decide), merge_eq rfl, merge_nil]
theorem or_p : orR [p1, p2] = ([1, 2, 3, 5], 0) := by
  have hu : unionF 3 [p1, p2] = [1, 2, 3, 5] := by
    show (mergeL (unionF 2 [p1]) (unionF 2 [p2])).take 65537 = _
    rw [show unionF 2 [p1] = p1 by rfl, show unionF 2 [p2] = p2 by rfl, merge_p]
    rfl
  unfold orR
  rw [show [p1, p2].length + 1 = 3 from rfl, hu]
  rfl
theorem or_p2 : orR [[2, 2]] = ([], 12) := by
  unfold orR
  rw [if_pos (by decide)]
  rfl
theorem wo_p : withoutR p1 p2 = ([1], 0) := by decide +kernel
/-- Two lists that were just built. -/
theorem two_lits (w : World) : Row32 ((w.alloc (.cells #[.int .u32 1, .int .u32 2, .int .u32 5] 31)).alloc (.cells #[.int .u32 2, .int .u32 3, .int .u32 5] 31)) (.slice (some ⟨w.heap.size, 0, none⟩) 3 3) p1
    ∧ Row32 ((w.alloc (.cells #[.int .u32 1, .int .u32 2, .int .u32 5] 31)).alloc (.cells #[.int .u32 2, .int .u32 3, .int .u32 5] 31)) (.slice (some ⟨w.heap.size + 1, 0, none⟩) 3 3) p2
    ∧ Below w.heap.size w ((w.alloc (.cells #[.int .u32 1, .int .u32 2, .int .u32 5] 31)).alloc (.cells #[.int .u32 2, .int .u32 3, .int .u32 5] 31)) :=
  ⟨(rowP_lit w p1 _ rfl (by decide) (fit_p (by decide)) 3 rfl _ rfl).below (below_alloc _ _), rowP_lit _ p2 _ rfl (by decide) (fit_p (by decide)) 3 rfl _ (by simp), belows' (below_alloc _ _) (below_alloc _ _)⟩

end Go.Proofs.Ytfjjigcghhohkaa
