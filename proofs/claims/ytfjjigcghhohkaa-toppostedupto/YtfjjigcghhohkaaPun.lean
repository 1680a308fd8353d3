/-
  What post.union does, over this seat's program.
-/
import Derived.Test.YtfjjigcghhohkaaPmg
import Derived.Deep.RegionWith
set_option linter.unusedVariables false
namespace Go.Proofs.Ytfjjigcghhohkaa
open Go.RowKit Go.Proofs.Num Go.Proofs.Dct Go.Proofs.Pst

/-- Lists put together, half by half. -/
def unionF : Nat → List (List Nat) → List Nat
  | 0, _ => []
  | f + 1, ls => if ls.length = 0 then [] else if ls.length = 1 then ls.headD [] else (mergeL (unionF f (ls.take (ls.length / 2))) (unionF f (ls.drop (ls.length / 2)))).take 65537

theorem neat_nil : NeatS (.slice none 0 0) := by
  refine ⟨fun n c h => ?_, fun a n c h => ?_⟩
  · injection h with _ h2 h3
    exact ⟨h2.symm, h3.symm⟩
  · injection h with _ h2 h3
    omega
theorem neat_some (a : Addr) {n cap : Nat} (hn : n ≤ cap) : NeatS (.slice (some a) n cap) := by
  refine ⟨fun m c h => ?_, fun a' m c h => ?_⟩
  · injection h with h1
    cases h1
  · injection h with _ h2 h3
    omega

set_option maxHeartbeats 400000 in
set_option maxRecDepth 100000 in
theorem clone_empty (a : Option Addr) (cap : Nat) (w : World) :
    Calls Try.prog 31 #[.slice a 0 cap] w fun e w' => ∃ v', e = .returned v' ∧ Row32 w' v' [] ∧ NeatS v' ∧ Below w.heap.size w w' := by
  obtain ⟨i0, hi, hz0, hz1, hz2⟩ := info_parts u32Info
  cases a with
  | none =>
    refine (Try.slices_Clone_nil _ _ w).mono ?_
    rintro e w' ⟨rfl, rfl⟩
    exact ⟨_, rfl, RowG.nil _ _ _, neat_nil, Below.refl _ _⟩
  | some ad =>
    go_enter Try.func31, Try.ntmps31
    have q22 := fun (w : World) (a : Option Addr) (n c n' c' : Nat) => Lib.run_eql_slice_nil (P := Try.prog) w 22 31 a n c n' c' Try.underlying22
    go_wp2
    go_ret
    exact ⟨_, rfl, RowG.nil _ _ _, neat_some _ (Nat.le_refl _), (Below.refl _ w).alloc (Nat.le_refl _) _⟩

theorem cells_u32 : Try.prog.cellsOf 31 = 1 := by kernel_rfl
/-- What slices.Clone does with numbers. -/
theorem clone32_any (v : Value) (l : List Nat) (w : World) (h : Row32 w v l) (hl : l.length ≤ 4194304) :
    Calls Try.prog 31 #[v] w fun e w' => ∃ v', e = .returned v' ∧ Row32 w' v' l ∧ NeatS v' ∧ Below w.heap.size w w' := by
  obtain ⟨i0, hi, hz0, hz1, hz2⟩ := info_parts u32Info
  obtain ⟨a, cap, rfl, hl', hr, hc⟩ := h
  rcases hc with rfl | ⟨b, off, rfl, hlt, hcl⟩
  · exact clone_empty a cap w
  · refine (Try.slices_Clone i0 (.int .u32 0) 1 4 hi hz0 hz1 hz2 rfl (by decide) (fun W => by rw [run_sizeOf (P := Try.prog) (w := W) hi, cells_u32]) b off l.length cap (flatG cells32 l) w (flatG_length cells32_len l) (by unfold maxLen; omega) (by omega) hcl (by
        intro u hu
        obtain ⟨n, _, hn⟩ := List.mem_flatMap.1 hu
        simp only [cells32, List.mem_cons, List.not_mem_nil, or_false] at hn
        subst hn
        rfl)).mono ?_
    rintro e w' ⟨v', rfl, h1, _, h2⟩
    exact ⟨v', rfl, row32_of h1 hl hr, own_neat h1, h2⟩

theorem rowV_part {w : World} {b off n cap : Nat} {vs : List Value} (h : RowV w (.slice (some ⟨b, off, none⟩) n cap) vs) (i k cap' : Nat) (hik : i + k ≤ vs.length) : RowV w (.slice (some ⟨b, off + i, none⟩) k cap') ((vs.drop i).take k) := by
  obtain ⟨a, c, hv, hl, hf, hc⟩ := h
  injection hv with e1 e2 e3
  have hlen : ((vs.drop i).take k).length = k := by rw [List.length_take, List.length_drop]; omega
  refine ⟨_, cap', by rw [hlen], by omega, fun _ _ => trivial, ?_⟩
  rcases hc with hc | ⟨b2, off2, ha2, hlt, hc⟩
  · left; subst hc; simp
  · right
    rw [← e1] at ha2
    injection ha2 with e4
    injection e4 with e5 e6
    subst e5 e6
    refine ⟨b, off + i, rfl, hlt, fun j u hj => ?_⟩
    rw [flatG_take cellsV_len, flatG_drop cellsV_len, List.getElem?_take] at hj
    split at hj
    · rw [List.getElem?_drop, Nat.mul_one] at hj
      rw [Nat.add_assoc]
      exact hc _ _ hj
    · cases hj
theorem rowRR_part {w : World} {b off n cap : Nat} {ls : List (List Nat)} (h : RowRR w (.slice (some ⟨b, off, none⟩) n cap) ls) (i k cap' : Nat) (hik : i + k ≤ ls.length) : RowRR w (.slice (some ⟨b, off + i, none⟩) k cap') ((ls.drop i).take k) := by
  obtain ⟨vs, h1, h2, h3⟩ := h
  refine ⟨(vs.drop i).take k, rowV_part h1 i k cap' (by omega), by simp [h2], fun j h h' => ?_⟩
  simp only [List.getElem_take, List.getElem_drop]
  have hj : j < k := by rw [List.length_take, List.length_drop] at h; omega
  exact h3 (i + j) (by omega) (by omega)
theorem unionF_len (f : Nat) (ls : List (List Nat)) (h : ∀ l ∈ ls, l.length ≤ 65537) : (unionF f ls).length ≤ 65537 := by
  cases f with
  | zero => simp [unionF]
  | succ f =>
    rw [unionF]
    split
    · simp
    · split
      · rename_i h0 h1
        cases ls with
        | nil => simp
        | cons x r => exact h x (by simp)
      · rw [List.length_take]; omega

end Go.Proofs.Ytfjjigcghhohkaa
