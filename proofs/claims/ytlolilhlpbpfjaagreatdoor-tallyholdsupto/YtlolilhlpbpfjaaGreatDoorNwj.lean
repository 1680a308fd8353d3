/-
  What nset.Only does, over this seat's program.
-/
import Derived.Test.YtlolilhlpbpfjaaGreatDoorNwi
import Derived.Lib.Small
set_option linter.unusedVariables false
namespace Go.Proofs.YtlolilhlpbpfjaaGreatDoor
open Go.RowKit Go.Proofs.Nst

theorem cmp_neg {y n : Nat} : Lib.compareInt (y : Int) (n : Int) < 0 ↔ y < n := by
  unfold Lib.compareInt
  by_cases h1 : (y : Int) < (n : Int)
  · rw [if_pos h1]
    constructor
    · intro _; omega
    · intro _; decide
  · rw [if_neg h1]
    constructor
    · intro h
      split at h
      · exact absurd h (by decide)
      · exact absurd h (by decide)
    · intro h; omega
theorem apart_to {l : List Sp} (h : Apart l) {i j : Nat} (hj : j < l.length) (hij : i < j) : (l[i]).2 < (l[j]).2 := by
  have h1 := List.pairwise_iff_getElem.1 h.up i j (by omega) hj hij
  have h2 := h.ok l[j] (List.getElem_mem hj)
  omega

def LoS (l : List Sp) (n k : Nat) : Prop := ∀ t (ht : t < l.length), t < k → (l[t]).2 < n
def HiS (l : List Sp) (n k : Nat) : Prop := ∀ t (ht : t < l.length), k ≤ t → ¬ (l[t]).2 < n

theorem u32I : (Tryz.prog.info? 25).map (fun i => (i.zero, i.size, i.bytes)) = some (some (.int .u32 0), 1, 4) := by kernel_rfl
theorem run_appN (w : World) (B : Nat) (v : Value) (k : List Nat) (p : Nat) (ty : TypeId) (hown : w.ownsRow B 25 1 v k.length (flatG cellsN k)) (hkl : k.length ≤ 4194304) (hB : B ≤ w.heap.size) :
    ∃ v' w', (Builtin.append_ #[23, 23] ty #[v, .slice (some ⟨w.heap.size, 0, none⟩) 1 1]).run Tryz.prog (w.alloc (.cells #[.int .u32 (p : Int)] 25)) = .ok v' w' ∧ w'.ownsRow B 25 1 v' (k ++ [p]).length (flatG cellsN (k ++ [p])) ∧ Below B w w' := by
  obtain ⟨i0, hi, hz0, hz1, hz2⟩ := info_partsN u32I
  have hx : (w.alloc (.cells (cellsN p).toArray 25)).ownsRow B 25 1 (.slice (some ⟨w.heap.size, 0, none⟩) 1 1) 1 (cellsN p).toArray.toList := World.ownsRow_lit w (cellsN p).toArray 1 hB (by unfold maxLen; omega) rfl
  have hc := hx.cells (g := w.heap.size) rfl
  have hown' := own_below hown ((Below.refl _ w).alloc (Nat.le_refl _) (.cells (cellsN p).toArray 25))
  obtain ⟨v', w', hrun, h2, h3, h4⟩ := run_append_own (P := Tryz.prog) (w.alloc (.cells (cellsN p).toArray 25)) B 23 ty 25 i0 (.int .u32 0) 1 4 Tryz.underlying23 hi hz0 hz1 hz2 rfl (by decide) v k.length (flatG cellsN k) hown' ⟨w.heap.size, 0, none⟩ 1 1 (cellsN p) rfl hc (by intro u hu; simp [cellsN] at hu; rcases hu with rfl; rfl) (by unfold maxLen; omega) (by omega) (by rw [World.size_alloc]; omega)
  refine ⟨v', w', hrun, ?_, ?_⟩
  · rw [List.length_append, flatG_append]
    simpa [flatG] using h2
  · exact below_own ((Below.refl B w).alloc hB _) hown' h3 (by rw [World.size_alloc]; omega)
theorem filter_take {ns : List Nat} {j : Nat} (h : j < ns.length) (p : Nat → Bool) : (ns.take (j + 1)).filter p = (ns.take j).filter p ++ (if p ns[j] then [ns[j]] else []) := by
  rw [List.take_succ_eq_append_getElem h, List.filter_append]
  congr 1
  by_cases hp : p ns[j] = true
  · rw [List.filter_cons_of_pos hp, if_pos hp]; rfl
  · rw [List.filter_cons_of_neg hp, if_neg hp]; rfl
/-- Whether a number is in spans apart, by the first one that does not end ahead of it. -/
theorem mem_at {A : List Sp} (hA : Apart A) {k n : Nat} (h1 : LoS A n k) (h2 : HiS A n k) : memS n A = true ↔ ∃ h : k < A.length, (A[k]).1 ≤ n := by
  rw [memS_iff]
  constructor
  · rintro ⟨s, hs, h3, h4⟩
    obtain ⟨t, ht, rfl⟩ := List.getElem_of_mem hs
    have hkt : k ≤ t := by
      rcases Nat.lt_or_ge t k with h | h
      · have := h1 t ht h; omega
      · exact h
    have hk : k < A.length := by omega
    refine ⟨hk, ?_⟩
    rcases Nat.lt_or_ge k t with h | h
    · have h5 := List.pairwise_iff_getElem.1 hA.up k t hk ht h
      have h6 := hA.ok A[k] (List.getElem_mem hk)
      omega
    · have : t = k := by omega
      subst this
      exact h3
  · rintro ⟨hk, h3⟩
    exact ⟨A[k], List.getElem_mem hk, h3, by have := h2 k hk (Nat.le_refl _); omega⟩
end Go.Proofs.YtlolilhlpbpfjaaGreatDoor
