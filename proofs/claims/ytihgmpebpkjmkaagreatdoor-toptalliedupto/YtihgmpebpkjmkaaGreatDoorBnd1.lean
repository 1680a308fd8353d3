/-
  What nset.Only does, over this seat's program: the walk.
-/
import Derived.Test.YtihgmpebpkjmkaaGreatDoorNwj
import Derived.Test.YtihgmpebpkjmkaaGreatDoorNwq
set_option linter.unusedVariables false
namespace Go.Proofs.YtihgmpebpkjmkaaGreatDoor
open Go.RowKit Go.Proofs.Nst

set_option maxHeartbeats 2000000 in
set_option maxRecDepth 100000 in
theorem only_any (v vn : Value) (l : List Sp) (ns : List Nat) (m : Nat) (w : World) (h : RowSp w v l) (hn : RowN w vn ns) (hm : m ≤ 4294967295) (hl : l.length ≤ 1048576) (hnl : ns.length ≤ 1048576) :
    Calls Tryz.prog 11 #[v, .int .u32 (m : Int), vn] w fun e w' => ∃ v', e = .returned v' ∧ w'.ownsRow w.heap.size 25 1 v' (ns.filter (fun n => hasS m n l)).length (flatG cellsN (ns.filter (fun n => hasS m n l))) ∧ Below w.heap.size w w' := by
  have HA := hide (apart_any v l m w h hm hl)
  have HN := hide hn
  have hsl := h
  obtain ⟨a, cap, rfl, _, hfit, _⟩ := h
  obtain ⟨an, cn, rfl, _, hnf, _⟩ := hn
  have hAl : (apartS m l).length ≤ 1048576 := Nat.le_trans (apartS_len m l) hl
  have hAf : ∀ x ∈ apartS m l, FitS x := apartS_fit hm hfit
  have hok := apartS_ok m l
  have HOK := hide hok.1
  have HME := hide hok.2
  have HAF := hide hAf
  obtain ⟨T, hT⟩ : ∃ T, T = ns.length := ⟨_, rfl⟩
  rw [← hT] at HN hnl ⊢
  have HTL := hide hT
  generalize apartS m l = A at HA hAl HOK HME HAF
  obtain ⟨N, hN⟩ : ∃ N, N = A.length := ⟨_, rfl⟩
  rw [← hN] at HA hAl
  have HNL := hide hN
  obtain ⟨K, hK⟩ : ∃ K, K = l.length := ⟨_, rfl⟩
  rw [← hK] at HA hl ⊢
  have hTi : (T : Int) ≤ 1048576 := by omega
  have hNi : (N : Int) ≤ 1048576 := by omega
  clear hsl hfit hnf hAf hok hT hN hK
  go_enter Tryz.func11, Tryz.ntmps11
  go_wp2_with fail
  refine (unhide HA).mono ?_
  rintro e w1 ⟨v', rfl, ho, hb⟩
  obtain ⟨av, cv, rfl, _⟩ := own_sliceG ho
  have HRW := hide (show RowSp w1 (.slice av N cv) A from rowG_of_own cellsS_len (by rw [← unhide HNL]; exact ho) (by have := unhide HNL; omega) (unhide HAF))
  have HN1 := hide ((unhide HN).below hb)
  have HB := hide hb
  clear ho hb HA HN
  go_wp2
  go_loopw [8, 10, 11, 12, 18] (fun y _ _ _ z wr => ∃ j : Nat, z = .int .i64 j ∧ j ≤ T ∧ Hid (wr.ownsRow w1.heap.size 25 1 y ((ns.take j).filter (fun n => hasS m n l)).length (flatG cellsN ((ns.take j).filter (fun n => hasS m n l)))) ∧ Hid (Below w1.heap.size w1 wr)) (fun _ _ _ _ z _ => T - (intOf z).toNat)
  case atStart => exact ⟨0, rfl, Nat.zero_le _, hide (World.ownsRow_nil _ _ _ _), hide (Below.refl _ _)⟩
  case round =>
    obtain ⟨j, rfl, hj, HO, HBJ⟩ := hrel
    by_cases hlt : j < T
    · have hlt1 : (j : Int) < (T : Int) := by omega
      have hjl : j < ns.length := by have := unhide HTL; omega
      obtain ⟨b, off, cpk, hv1, hblt, hcell⟩ := RowG.at cellsN_len ((unhide HN1).below (unhide HBJ)) (j := j) hjl
      injection hv1 with e1 e2 e3
      subst e1
      have c0 := hcell 0 (by omega)
      simp only [cellsN, List.getElem?_cons_zero, Nat.add_zero, Nat.mul_one] at c0
      clear e2 e3 hcell
      have HFT := hide (filter_take hjl (fun n => hasS m n l))
      have HBS := hide (bsearch_any _ A ns[j] wr ((unhide HRW).below (unhide HBJ)) (unhide HOK) (by have := unhide HNL; omega))
      have HMX := hide (unhide HME ns[j])
      have hll : ((ns.take j).filter (fun n => hasS m n l)).length ≤ 1048576 := by
        have h1 := List.length_filter_le (fun n => hasS m n l) (ns.take j)
        rw [List.length_take] at h1
        omega
      have HLL := hide hll
      obtain ⟨ay, cy, hy, _⟩ := own_sliceG (unhide HO)
      subst hy
      generalize ns[j] = x at c0 HFT HBS HMX
      clear hll
      go_wp2_with fail
      refine (unhide HBS).mono ?_
      rintro e w2 ⟨⟨k, bb, rfl, hk, hlo, hhi⟩, hb2⟩
      have hmk := mem_at (unhide HOK) hlo hhi
      rw [unhide HMX] at hmk
      have HB2 := hide (belows' (unhide HBJ) hb2)
      have HO2 := hide (own_below (unhide HO) hb2)
      have hkN : k ≤ N := by have := unhide HNL; omega
      clear hlo hhi hb2 HBS HO
      by_cases hin : k < N
      · have hkA : k < A.length := by have := unhide HNL; omega
        have hin1 : (k : Int) < (N : Int) := by omega
        obtain ⟨b2, off2, cp2, hv2, hblt2, hcell2⟩ := RowG.at cellsS_len ((unhide HRW).below (unhide HB2)) (j := k) hkA
        injection hv2 with e4 e5 e6
        subst e4
        have d0 := hcell2 0 (by omega)
        simp only [cellsS, List.getElem?_cons_zero, Nat.add_zero] at d0
        clear e5 e6 hcell2
        by_cases hle : (A[k]).1 ≤ x
        · have hyes : hasS m x l = true := hmk.2 ⟨hkA, hle⟩
          have hlei : ((A[k]).1 : Int) ≤ (x : Int) := by omega
          have hd : decide ((A[k]).1 ≤ x) = true := decide_eq_true hle
          rw [hyes, if_pos rfl] at HFT
          obtain ⟨F, hF⟩ : ∃ F, F = (ns.take j).filter (fun n => hasS m n l) := ⟨_, rfl⟩
          rw [← hF] at HFT HO2 HLL ⊢
          clear hyes hmk hF
          generalize (A[k]).1 = q at d0 hlei hd
          clear hle
          have hBs := (unhide HB2).size
          obtain ⟨v', w', hrun, h2, h3⟩ := run_appN w2 w1.heap.size (.slice ay F.length cy) F x 22 (unhide HO2) (by have := unhide HLL; omega) hBs
          have H2 : Hid (w'.ownsRow w1.heap.size 25 1 v' ((ns.take (j + 1)).filter (fun n => hasS m n l)).length (flatG cellsN ((ns.take (j + 1)).filter (fun n => hasS m n l)))) := hide (by rw [unhide HFT]; exact h2)
          have H3 := hide ((unhide HB2).trans h3)
          clear h2 h3 HFT HO2 HLL hBs
          generalize F.length = M at hrun ⊢
          go_wp2_with (at_builtin; refine wpList_append_runS (by rfl) _ _ 22 rfl rfl rfl rfl hrun ?_)
          exact ⟨⟨j + 1, by go_num, by omega, H2, H3⟩, by simp [intOf]; omega⟩
        · have hno : hasS m x l = false := by
            cases hh : hasS m x l with
            | false => rfl
            | true => obtain ⟨_, h9⟩ := hmk.1 hh; exact absurd h9 hle
          have hlei : ¬ ((A[k]).1 : Int) ≤ (x : Int) := by omega
          have hd : decide ((A[k]).1 ≤ x) = false := decide_eq_false hle
          rw [hno, if_neg (by simp), List.append_nil] at HFT
          have HO3 : Hid (w2.ownsRow w1.heap.size 25 1 (.slice ay ((ns.take j).filter (fun n => hasS m n l)).length cy) ((ns.take (j + 1)).filter (fun n => hasS m n l)).length (flatG cellsN ((ns.take (j + 1)).filter (fun n => hasS m n l)))) := hide (by rw [unhide HFT]; exact unhide HO2)
          generalize (A[k]).1 = q at d0 hlei hd
          generalize ((ns.take j).filter (fun n => hasS m n l)).length = M at HO3 ⊢
          clear hno hmk hle HFT HO2 HLL
          go_wp2
          exact ⟨⟨j + 1, by go_num, by omega, HO3, HB2⟩, by simp [intOf]; omega⟩
      · have hin1 : ¬ (k : Int) < (N : Int) := by omega
        have hno : hasS m x l = false := by
          cases hh : hasS m x l with
          | false => rfl
          | true => obtain ⟨h8, h9⟩ := hmk.1 hh; have := unhide HNL; omega
        rw [hno, if_neg (by simp), List.append_nil] at HFT
        have HO3 : Hid (w2.ownsRow w1.heap.size 25 1 (.slice ay ((ns.take j).filter (fun n => hasS m n l)).length cy) ((ns.take (j + 1)).filter (fun n => hasS m n l)).length (flatG cellsN ((ns.take (j + 1)).filter (fun n => hasS m n l)))) := hide (by rw [unhide HFT]; exact unhide HO2)
        generalize ((ns.take j).filter (fun n => hasS m n l)).length = M at HO3 ⊢
        clear hno hmk HFT HO2 HLL
        go_wp2
        exact ⟨⟨j + 1, by go_num, by omega, HO3, HB2⟩, by simp [intOf]; omega⟩
    · have hlt1 : ¬ (j : Int) < (T : Int) := by omega
      have htk : ns.take j = ns := List.take_of_length_le (by have := unhide HTL; omega)
      rw [htk] at HO
      have HOF := hide (own_monoS (unhide HO) (unhide HB).size)
      have HBF := hide (belows' (unhide HB) (unhide HBJ))
      clear htk HO
      go_wp2
      go_ret
      exact ⟨_, rfl, unhide HOF, unhide HBF⟩
end Go.Proofs.YtihgmpebpkjmkaaGreatDoor

/-
  What missiveref03.Same and missiveref01.Same do, over this seat's program.
-/
set_option linter.unusedVariables false
namespace Go.Proofs.YtihgmpebpkjmkaaGreatDoor
open Go.RowKit Go.Proofs.Nst

theorem takeG_next {α : Type} {l r : List α} {k : Nat} (hl : k < l.length) (hr : k < r.length) : l.take (k + 1) = r.take (k + 1) ↔ l.take k = r.take k ∧ l[k] = r[k] := by
  rw [List.take_succ_eq_append_getElem hl, List.take_succ_eq_append_getElem hr]
  constructor
  · intro h
    have := List.append_inj' h rfl
    exact ⟨this.1, by simpa using this.2⟩
  · rintro ⟨h1, h2⟩
    rw [h1, h2]

end Go.Proofs.YtihgmpebpkjmkaaGreatDoor
