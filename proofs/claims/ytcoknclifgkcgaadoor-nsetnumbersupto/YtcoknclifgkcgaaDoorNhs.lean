/-
  What missiveref03.Has does, over this seat's program.
-/
import Derived.Test.YtcoknclifgkcgaaDoorNwb
set_option linter.unusedVariables false
namespace Go.Proofs.YtcoknclifgkcgaaDoor
open Go.RowKit Go.Proofs.Nst

set_option maxHeartbeats 1000000 in
set_option maxRecDepth 100000 in
theorem refHas_any (v : Value) (l : List Sp) (m n : Nat) (w : World) (h : RowSp w v l) :
    Calls Tryd.prog 12 #[v, .int .u32 (m : Int), .int .u32 (n : Int)] w fun e w' => e = .returned (.bool (hasS m n l)) ∧ Below w.heap.size w w' := by
  have HR := hide h
  obtain ⟨a, cap, rfl, hl, hfit, _⟩ := h
  have HE := hide (hasS_any_eq m n l)
  obtain ⟨T, hT⟩ : ∃ T, T = l.length := ⟨_, rfl⟩
  rw [← hT] at HR hl ⊢
  have HTL := hide hT
  clear hT hfit
  go_enter Tryd.func12, Tryd.ntmps12
  go_wp2
  go_loopw [8, 9, 10, 13] (fun _ _ _ z wr => ∃ k : Nat, z = .int .i64 k ∧ k ≤ T ∧ Hid ((l.take k).any (fun s => inB n (ordS m s)) = false) ∧ Hid (Below w.heap.size w wr)) (fun _ _ _ z _ => T - (intOf z).toNat)
  case atStart => exact ⟨0, rfl, Nat.zero_le _, hide (by simp), hide (Below.refl _ _)⟩
  case round =>
    obtain ⟨k, rfl, hk, HA, HB⟩ := hrel
    by_cases hlt : k < T
    · have hlt1 : (k : Int) < (T : Int) := by omega
      have hkl : k < l.length := by have := unhide HTL; omega
      obtain ⟨b, off, cp, hv1, hblt, hcell⟩ := RowG.at cellsS_len ((unhide HR).below (unhide HB)) (j := k) hkl
      injection hv1 with e1 e2 e3
      subst e1
      have c0 := hcell 0 (by omega)
      have c1 := hcell 1 (by omega)
      simp only [cellsS, List.getElem?_cons_zero, List.getElem?_cons_succ, Nat.add_zero] at c0 c1
      have HT := hide (any_take hkl (fun s => inB n (ordS m s)))
      clear e2 e3 hcell
      have HHO := hide (fun W => refEnds_any (l[k]).1 (l[k]).2 m W)
      have HYES : Hid ((ordS m l[k]).1 ≤ n → n ≤ (ordS m l[k]).2 → hasS m n l = true) := hide (fun h8 h9 => by
        rw [unhide HE, List.any_eq_true]
        exact ⟨l[k], List.getElem_mem hkl, by unfold inB; simp [h8, h9]⟩)
      have HNO : Hid (¬ ((ordS m l[k]).1 ≤ n ∧ n ≤ (ordS m l[k]).2) → (l.take (k + 1)).any (fun s => inB n (ordS m s)) = false) := hide (fun h9 => by
        rw [unhide HT, unhide HA, Bool.false_or]
        unfold inB
        rw [← Bool.decide_and]
        exact decide_eq_false h9)
      rw [show ((l[k]).1, (l[k]).2) = l[k] from rfl] at HHO
      generalize (ordS m l[k]).1 = lo at HHO HYES HNO
      generalize (ordS m l[k]).2 = hi at HHO HYES HNO
      generalize (l[k]).1 = x at c0 HHO
      generalize (l[k]).2 = y at c1 HHO
      have HBA := hide (belows' (unhide HB) (below_alloc0 wr (.cells #[.int .u32 (x : Int), .int .u32 (y : Int)] 44)))
      clear HT HA
      go_wp2_with fail
      refine (unhide HHO _).mono ?_
      rintro e w1 ⟨rfl, b1⟩
      have HB1 := hide (belows' (unhide HBA) b1)
      clear b1 HBA HHO
      by_cases h1 : lo ≤ n
      · have h1' : (lo : Int) ≤ (n : Int) := by omega
        by_cases h2 : n ≤ hi
        · have h2' : (n : Int) ≤ (hi : Int) := by omega
          have HY := hide (unhide HYES h1 h2)
          clear HYES HNO h1 h2
          go_wp2
          go_ret
          exact ⟨by rw [unhide HY]; rfl, unhide HB1⟩
        · have h2' : ¬ (n : Int) ≤ (hi : Int) := by omega
          have HN := hide (unhide HNO (by omega))
          clear HYES HNO h1 h2
          go_wp2
          exact ⟨⟨k + 1, by go_num, by omega, HN, HB1⟩, by simp [intOf]; omega⟩
      · have h1' : ¬ (lo : Int) ≤ (n : Int) := by omega
        have HN := hide (unhide HNO (by omega))
        clear HYES HNO h1
        go_wp2
        exact ⟨⟨k + 1, by go_num, by omega, HN, HB1⟩, by simp [intOf]; omega⟩
    · have hlt1 : ¬ (k : Int) < (T : Int) := by omega
      have hfin : hasS m n l = false := by
        have h1 := unhide HA
        rw [List.take_of_length_le (by have := unhide HTL; omega)] at h1
        rw [unhide HE, h1]
      have HF := hide hfin
      clear hfin
      go_wp2
      go_ret
      exact ⟨by rw [unhide HF]; rfl, unhide HB⟩
end Go.Proofs.YtcoknclifgkcgaaDoor
