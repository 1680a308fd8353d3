/-
  What the document's Recent of box does, over this seat's program.
-/
import Derived.Test.YthpjogfclklefaaDoorRxu
set_option linter.unusedVariables false
set_option linter.unusedSimpArgs false
namespace Go.Proofs.YthpjogfclklefaaDoor
open Go.RowKit

theorem above_filter (b : Bx) : aboveB b.mr b = (aboveB 0 b).filter (fun x => decide (b.mr < x)) := by
  by_cases h : okB b = true
  · rw [okB_above h]
    unfold aboveB
    rw [if_pos h]
    unfold aboveL uidsM
    rw [List.filter_map]; rfl
  · unfold aboveB
    rw [if_neg h, if_neg h]; rfl
theorem filter_takeN {l : List Nat} {k : Nat} (h : k < l.length) (p : Nat → Bool) : (l.take (k + 1)).filter p = (l.take k).filter p ++ (if p l[k] then [l[k]] else []) := by
  rw [List.take_succ_eq_append_getElem h, List.filter_append]
  congr 1
  by_cases hp : p l[k] = true
  · rw [List.filter_cons_of_pos hp, if_pos hp]; rfl
  · rw [List.filter_cons_of_neg hp, if_neg hp]; rfl

set_option maxHeartbeats 4000000 in
set_option maxRecDepth 100000 in
theorem refBRecent_any (b : Bx) (v : Value) (w : World) (h : RowM w v b.ms) (hf : FitB b) :
    Calls Tryd.prog 24 #[bxV b v] w fun e w' => (∃ v', e = .returned (.tuple #[v', .int .i64 (chkB b : Int)]) ∧ OutT w' v' (aboveB b.mr b)) ∧ Below w.heap.size w w' := by
  have HC := hide (fun W (hR : RowM W v b.ms) => refBUids_any b v W hR hf)
  obtain ⟨P, hP⟩ : ∃ P, aboveB b.mr b = P := ⟨_, rfl⟩
  obtain ⟨U, hU⟩ : ∃ U, aboveB 0 b = U := ⟨_, rfl⟩
  have HP := hide (show U.filter (fun x => decide (b.mr < x)) = P by rw [← hU, ← above_filter, hP])
  rw [hP]
  rw [hU] at HC
  clear hP hU hf
  obtain ⟨a, cap, rfl, hl, _, _⟩ := id h
  have HA := hide (show Below w.heap.size w (w.alloc (.cells (bxC b (.slice a b.ms.length cap)) 26)) from (Below.refl _ w).alloc (Nat.le_refl _) _)
  have HRA := hide (h.below (unhide HA))
  have KB := hide (Blk.new w 26 (bxC b (.slice a b.ms.length cap)))
  clear h
  generalize chkB b = C at HC ⊢
  obtain ⟨va, nx, mr, la, ms⟩ := b
  simp only [bxV, bxC] at *
  generalize ms.length = q at *
  go_enter Tryd.func24, Tryd.ntmps24
  go_wp2_with fail
  refine (unhide HC _ (unhide HRA)).mono ?_
  rintro e w1 ⟨⟨v1, rfl, ho⟩, b1⟩
  have HB := hide (belows' (unhide HA) b1)
  have KB1 := hide ((unhide KB).below b1)
  have HRO := hide ho.row
  have HLE := hide ho.2
  obtain ⟨a1, c1, hv1, _⟩ := own_sliceG ho.1
  subst hv1
  obtain ⟨n, hnn⟩ : ∃ n, U.length = n := ⟨_, rfl⟩
  rw [hnn] at HRO ⊢
  have HN := hide hnn
  have hn4 : n ≤ 4194304 := by have := ho.2.2; omega
  clear b1 HA HC KB HRA ho hnn
  go_wp2
  go_loopw [6, 8, 16] (fun y _ z wr => ∃ k : Nat, z = .int .i64 k ∧ k ≤ n ∧ Hid (wr.ownsRow w1.heap.size 22 1 y ((U.take k).filter (fun x => decide (mr < x))).length (flatG cells32 ((U.take k).filter (fun x => decide (mr < x))))) ∧ Hid (Below w1.heap.size w1 wr)) (fun _ _ z _ => n - (intOf z).toNat)
  case atStart => exact ⟨0, rfl, Nat.zero_le _, hide (World.ownsRow_nil _ _ _ _), hide (Below.refl _ _)⟩
  case round =>
    obtain ⟨k, rfl, hk, HO, BJ⟩ := hrel
    by_cases hlt : k < n
    · have hkl : k < U.length := by rw [unhide HN]; exact hlt
      have hlt1 : (k : Int) < (n : Int) := by omega
      obtain ⟨g, off, cp, hvv, hg, hcell⟩ := RowG.at cells32_len ((unhide HRO).below (unhide BJ)) (j := k) hkl
      injection hvv with e1 e2 e3
      subst e1
      have d0 := hcell 0 (by omega)
      simp only [cells32, List.getElem?_cons_zero, Nat.add_zero, Nat.mul_one] at d0
      have k2 := ((unhide KB1).below (unhide BJ)).cell 2
      simp only [List.getElem?_toArray, List.getElem?_cons_succ, List.getElem?_cons_zero] at k2
      have HFT := hide (filter_takeN hkl (fun x => decide (mr < x)))
      have hu4 : U[k] ≤ 4294967295 := (unhide HLE).1 _ (List.getElem_mem _)
      have hll : ((U.take k).filter (fun x => decide (mr < x))).length ≤ k := Nat.le_trans (List.length_filter_le _ _) (by rw [List.length_take]; omega)
      obtain ⟨ay, cy, hy, _⟩ := own_sliceG (unhide HO)
      subst hy
      generalize U[k] = u at d0 HFT hu4
      obtain ⟨F, hF⟩ : ∃ F, F = (U.take k).filter (fun x => decide (mr < x)) := ⟨_, rfl⟩
      rw [← hF] at HFT HO hll ⊢
      have hBs := (unhide BJ).size
      clear hcell e2 e3
      by_cases hq : mr < u
      · have dq : decide (mr < u) = true := decide_eq_true hq
        have hq' : (mr : Int) < (u : Int) := by omega
        rw [dq] at HFT
        simp only [if_true] at HFT
        obtain ⟨v', w', hrun, h2, h3⟩ := run_app32 _ w1.heap.size (.slice ay F.length cy) F u 28 (unhide HO) (by omega) hBs
        have H2 : Hid (w'.ownsRow w1.heap.size 22 1 v' ((U.take (k + 1)).filter (fun x => decide (mr < x))).length (flatG cells32 ((U.take (k + 1)).filter (fun x => decide (mr < x))))) := hide (by rw [unhide HFT]; exact h2)
        have H3 := hide ((unhide BJ).trans h3)
        clear h2 h3 HFT HO hBs hq hF hll BJ
        generalize F.length = M at hrun ⊢
        go_wp2_with (at_builtin; refine wpList_append_runB (by rfl) _ _ 28 rfl rfl rfl rfl hrun ?_)
        exact ⟨⟨k + 1, by go_num, by omega, H2, H3⟩, by simp [intOf]; omega⟩
      · have dq : decide (mr < u) = false := decide_eq_false hq
        have hq' : ¬ (mr : Int) < (u : Int) := by omega
        rw [dq] at HFT
        simp only [Bool.false_eq_true, if_false, List.append_nil] at HFT
        have H2 : Hid (wr.ownsRow w1.heap.size 22 1 (.slice ay F.length cy) ((U.take (k + 1)).filter (fun x => decide (mr < x))).length (flatG cells32 ((U.take (k + 1)).filter (fun x => decide (mr < x))))) := hide (by rw [unhide HFT]; exact unhide HO)
        clear HFT HO hBs hq hF hll
        generalize F.length = M at H2 ⊢
        go_wp2
        exact ⟨⟨k + 1, by go_num, by omega, H2, BJ⟩, by simp [intOf]; omega⟩
    · have hlt1 : ¬ (k : Int) < (n : Int) := by omega
      have hO := unhide HO
      rw [List.take_of_length_le (by rw [unhide HN]; omega), unhide HP] at hO
      have HRR := hide (show OutT _ _ P from ⟨own_zero hO, (by
        rw [← unhide HP]
        intro x hx
        exact (unhide HLE).1 x (List.mem_filter.1 hx).1), by
        rw [← unhide HP]
        exact Nat.le_trans (List.length_filter_le _ _) (unhide HLE).2⟩)
      have HBF := hide (belows' (unhide HB) (unhide BJ))
      obtain ⟨ay, cy, hy, _⟩ := own_sliceG hO
      subst hy
      clear hO HO BJ
      go_wp2
      go_ret2
      exact ⟨⟨_, rfl, unhide HRR⟩, unhide HBF⟩
end Go.Proofs.YthpjogfclklefaaDoor
