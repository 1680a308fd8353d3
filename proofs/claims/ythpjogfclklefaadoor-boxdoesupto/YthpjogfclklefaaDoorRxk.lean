/-
  What the document's Check of numbers that rise does, over this seat's program.
-/
import Derived.Test.YthpjogfclklefaaDoorPch
import Derived.Deep.QuietTactic
import Derived.BigQuiet
set_option linter.unusedVariables false
set_option linter.unusedSimpArgs false
namespace Go.Proofs.YthpjogfclklefaaDoor
open Go.RowKit Go.Proofs.Num Go.Proofs.Dct

set_option maxHeartbeats 1000000 in
set_option maxRecDepth 100000 in
theorem refChk_any (v : Value) (l : List Nat) (w : World) (h : Row32 w v l) :
    Calls Tryd.prog 33 #[v] w fun e w' => e = .returned (.int .i64 (chk l : Int)) ∧ Below w.heap.size w w' := by
  have HR := hide h
  obtain ⟨a, cap, hv, hl4, hfit, hrest⟩ := h
  subst hv
  have HFT := hide hfit
  obtain ⟨T, hT⟩ : ∃ T, T = l.length := ⟨_, rfl⟩
  rw [← hT] at HR hl4 ⊢
  have HTL := hide hT
  clear hrest hT hfit
  go_enter Tryd.func33, Tryd.ntmps33
  go_wp2
  go_loopw [3, 6] (fun _ z wr => ∃ k : Nat, z = .int .i64 (k : Int) ∧ k ≤ T ∧ Hid (∀ (j : Nat) (h : j + 1 < l.length), j + 1 < k → l[j] < l[j + 1]) ∧ Hid (Below w.heap.size w wr)) (fun _ z _ => T - (intOf z).toNat)
  case atStart => exact ⟨0, rfl, Nat.zero_le _, hide (fun j h hj => by omega), hide (Below.refl _ _)⟩
  case round =>
    obtain ⟨k, rfl, hk, HA, HB⟩ := hrel
    by_cases hlt : k < T
    · by_cases hk0 : k = 0
      · subst hk0
        have hlt1 : ((0 : Nat) : Int) < (T : Int) := by omega
        have hlt2 : (0 : Int) < (T : Int) := by omega
        have HA2 : Hid (∀ (j : Nat) (h : j + 1 < l.length), j + 1 < 0 + 1 → l[j] < l[j + 1]) := hide (fun j h hj => by omega)
        clear HA
        go_wp2
        go_quiet (fail)
        go_wp2
        exact ⟨⟨0 + 1, by go_num, by omega, HA2, hide (below_drewN (unhide HB) _)⟩, by simp [intOf]; omega⟩
      · obtain ⟨i, rfl⟩ : ∃ i, k = i + 1 := ⟨k - 1, by omega⟩
        have hlt1 : ((i + 1 : Nat) : Int) < (T : Int) := by omega
        have h0 : (0 : Int) < ((i + 1 : Nat) : Int) := by omega
        have hkl : i + 1 < l.length := by have := unhide HTL; omega
        have hkl0 : i < l.length := by omega
        obtain ⟨b, off, cap', hv', hblt, hcell⟩ := RowG.at cells32_len ((unhide HR).below (unhide HB)) (j := i + 1) hkl
        obtain ⟨b2, off2, cap2, hv2, hblt2, hcell2⟩ := RowG.at cells32_len ((unhide HR).below (unhide HB)) (j := i) hkl0
        injection hv' with e1 e2 e3
        subst e1
        injection hv2 with e4 e5 e6
        injection e4 with e7
        injection e7 with e8 e9
        subst e8 e9
        have c0 := hcell 0 (by omega)
        have d0 := hcell2 0 (by omega)
        simp only [cells32, List.getElem?_cons_zero, Nat.add_zero, Nat.mul_one] at c0 d0
        clear e2 e3 e5 e6 hcell hcell2 hblt2 hk0
        have hx := unhide HFT l[i + 1] (List.getElem_mem hkl)
        have hy := unhide HFT l[i] (List.getElem_mem hkl0)
        by_cases hle : l[i + 1] ≤ l[i]
        · have hfin : chk l = 12 := by
            unfold chk
            rw [if_neg]
            rw [rises_iff]
            rintro ⟨_, h2⟩
            have := h2 i hkl
            omega
          have HF := hide hfin
          generalize l[i + 1] = x at c0 hx hle
          generalize l[i] = y at d0 hy hle
          have hlei : (x : Int) ≤ (y : Int) := by omega
          clear hfin HA hk hle
          go_wp2
          go_quiet (fail)
          go_wp2
          go_ret
          exact ⟨by rw [unhide HF]; rfl, below_drewN (unhide HB) _⟩
        · have HA9 : Hid (∀ (j : Nat) (h : j + 1 < l.length), j + 1 < i + 1 + 1 → l[j] < l[j + 1]) := hide (by
            intro j h hj
            by_cases hjk : j = i
            · subst hjk; omega
            · exact unhide HA j h (by omega))
          generalize l[i + 1] = x at c0 hx hle
          generalize l[i] = y at d0 hy hle
          have hlei : ¬ (x : Int) ≤ (y : Int) := by omega
          clear HA hk hle
          go_wp2
          go_quiet (fail)
          go_wp2
          exact ⟨⟨i + 1 + 1, by go_num, by omega, HA9, hide (below_drewN (unhide HB) _)⟩, by simp [intOf]; omega⟩
    · have hlt1 : ¬ (k : Int) < (T : Int) := by omega
      have hris : rises 0 l = true := by
        rw [rises_iff]
        exact ⟨fun _ => Nat.zero_le _, fun j hj => unhide HA j hj (by have := unhide HTL; omega)⟩
      by_cases h6 : 65536 < T
      · have hfin : chk l = 15 := by unfold chk; rw [if_pos hris, if_neg (by have := unhide HTL; omega)]
        have HF := hide hfin
        have h6i : (65536 : Int) < (T : Int) := by omega
        clear hris hfin HA hk
        go_wp2
        go_ret
        exact ⟨by rw [unhide HF]; rfl, unhide HB⟩
      · have hfin : chk l = 0 := by unfold chk; rw [if_pos hris, if_pos (by have := unhide HTL; omega)]
        have HF := hide hfin
        have h6i : ¬ (65536 : Int) < (T : Int) := by omega
        clear hris hfin HA hk
        go_wp2
        go_ret
        exact ⟨by rw [unhide HF]; rfl, unhide HB⟩
end Go.Proofs.YthpjogfclklefaaDoor
