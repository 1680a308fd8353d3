/-
  What missiveref03.Count and missiveref03.Only do, over this seat's program.
-/
import Derived.Test.YtcoknclifgkcgaaDoorNrb
import Derived.Test.YtcoknclifgkcgaaDoorNwh
import Derived.Test.YtcoknclifgkcgaaDoorNwk
import Derived.Test.YtcoknclifgkcgaaDoorNhs
set_option linter.unusedVariables false
namespace Go.Proofs.YtcoknclifgkcgaaDoor
open Go.RowKit Go.Proofs.Nst

theorem refR_is (m : Nat) (l : List Sp) : refR m l = sortR m l := by unfold refR sortR; rw [refSort_is]
theorem countR_is (m : Nat) (l : List Sp) : countR m l = (cntS (sortR m l).1, (sortR m l).2) := by
  unfold countR sortR
  split <;> simp [cntS]
structure SrtR (q : List Sp) : Prop where
  len : q.length ≤ 1024
  fit : ∀ x ∈ q, FitS x
  ok : ∀ x ∈ q, x.1 ≤ x.2
theorem srtR_of {m : Nat} {l : List Sp} (hm : m ≤ 4294967295) (hf : ∀ x ∈ l, FitS x) : SrtR (sortR m l).1 := by
  unfold sortR
  split
  · rename_i h
    exact ⟨Nat.le_trans (apartS_len m l) h, apartS_fit hm hf, (apartS_ok m l).1.ok⟩
  · exact ⟨by simp, by simp, by simp⟩

set_option maxHeartbeats 1000000 in
set_option maxRecDepth 100000 in
theorem refCount_any (v : Value) (l : List Sp) (m : Nat) (w : World) (h : RowSp w v l) (hm : m ≤ 4294967295) :
    Calls Tryd.prog 8 #[v, .int .u32 (m : Int)] w fun e w' => e = .returned (.tuple #[.int .u64 ((countR m l).1 : Int), .int .i64 ((countR m l).2 : Int)]) ∧ Below w.heap.size w w' := by
  have HA := hide (refSort_any v l m w h hm)
  obtain ⟨a, cap, rfl, hl, hfit, _⟩ := h
  have hsr := srtR_of hm hfit
  have hAl := hsr.len
  have HAF := hide hsr.fit
  have HOK := hide hsr.ok
  have HCE := hide (countR_is m l)
  rw [refR_is] at HA
  rw [unhide HCE]
  generalize sortR m l = PR at HA hAl HAF HOK ⊢
  obtain ⟨A, C⟩ := PR
  simp only at HA hAl HAF HOK ⊢
  clear hl hfit hsr HCE
  obtain ⟨N, hN⟩ : ∃ N, N = A.length := ⟨_, rfl⟩
  rw [← hN] at HA hAl
  have HNL := hide hN
  generalize l.length = T at HA ⊢
  clear hN
  go_enter Tryd.func8, Tryd.ntmps8
  go_wp2_with fail
  refine (unhide HA).mono ?_
  rintro e w1 ⟨v', rfl, ho, hb⟩
  obtain ⟨av, cv, rfl, _⟩ := own_sliceG ho
  have HRW := hide (show RowSp w1 (.slice av N cv) A from rowG_of_own cellsS_len (by rw [← unhide HNL]; exact ho) (by have := unhide HNL; omega) (unhide HAF))
  have HB := hide hb
  clear ho hb HA
  go_wp2
  go_loopw [8, 10, 19] (fun y _ z wr => ∃ k c : Nat, z = .int .i64 k ∧ y = .int .u64 c ∧ k ≤ N ∧ Hid (c = cntS (A.take k)) ∧ Hid (Below w1.heap.size w1 wr)) (fun _ _ z _ => N - (intOf z).toNat)
  case atStart => exact ⟨0, 0, rfl, rfl, Nat.zero_le _, hide (by simp [cntS]), hide (Below.refl _ _)⟩
  case round =>
    obtain ⟨k, c, rfl, rfl, hk, HC, HBW⟩ := hrel
    by_cases hlt : k < N
    · have hlt1 : (k : Int) < (N : Int) := by omega
      have hkl : k < A.length := by have := unhide HNL; omega
      obtain ⟨b, off, cp, hv1, hblt, hcell⟩ := RowG.at cellsS_len ((unhide HRW).below (unhide HBW)) (j := k) hkl
      injection hv1 with e1 e2 e3
      subst e1
      have c0 := hcell 0 (by omega)
      have c1 := hcell 1 (by omega)
      simp only [cellsS, List.getElem?_cons_zero, List.getElem?_cons_succ, Nat.add_zero] at c0 c1
      clear e2 e3 hcell
      have hx := unhide HAF A[k] (List.getElem_mem hkl)
      have hle2 := unhide HOK A[k] (List.getElem_mem hkl)
      unfold FitS at hx
      have hcl : c ≤ 4398046511104 := by
        have h1 := cntS_le (l := A.take k) (fun x hx => unhide HAF x (List.mem_of_mem_take hx))
        have h2 : (A.take k).length ≤ 1024 := by rw [List.length_take]; have := unhide HNL; omega
        rw [← unhide HC] at h1
        exact Nat.le_trans h1 (Nat.le_trans (Nat.mul_le_mul_right _ h2) (by decide))
      have HT : Hid (c + ((A[k]).2 - (A[k]).1 + 1) = cntS (A.take (k + 1))) := hide (by rw [cntS_take hkl, ← unhide HC])
      generalize (A[k]).1 = x at c0 hx hle2 HT
      generalize (A[k]).2 = y at c1 hx hle2 HT
      obtain ⟨d, hd⟩ : ∃ d, y = x + d := ⟨y - x, by omega⟩
      have hdd : y - x = d := by omega
      rw [hdd] at HT
      have hw1 : IntKind.u64.wrap ((y : Int) - (x : Int)) = (d : Int) := by rw [IntKind.wrap_u64]; omega
      have hw2 : IntKind.u64.wrap ((d : Int) + 1) = ((d + 1 : Nat) : Int) := by rw [IntKind.wrap_u64]; omega
      have hw3 : IntKind.u64.wrap ((c : Int) + ((d + 1 : Nat) : Int)) = ((c + (d + 1) : Nat) : Int) := by rw [IntKind.wrap_u64]; omega
      have hx0 : x ≤ 4294967295 := hx.1
      have hy0 : y ≤ 4294967295 := hx.2
      have hd0 : d ≤ 4294967295 := by omega
      have HBA := hide (belows' (unhide HBW) (below_alloc0 wr (.cells #[.int .u32 (x : Int), .int .u32 (y : Int)] 44)))
      have hsub : ((y : Int) - (x : Int)) = (d : Int) := by omega
      clear hd hdd hx hle2
      go_wp2
      refine ⟨⟨k + 1, c + (d + 1), by go_num, by rw [Int.natCast_add, Int.natCast_add]; rfl, by omega, HT, HBA⟩, ?_⟩
      simp only [intOf]
      omega
    · have hlt1 : ¬ (k : Int) < (N : Int) := by omega
      have htk : A.take k = A := List.take_of_length_le (by have := unhide HNL; omega)
      rw [htk] at HC
      have HBF := hide (belows' (unhide HB) (unhide HBW))
      clear htk
      go_wp2
      go_ret2
      exact ⟨by rw [← unhide HC]; rfl, unhide HBF⟩

set_option maxHeartbeats 2000000 in
set_option maxRecDepth 100000 in
theorem refOnly_any (v vn : Value) (l : List Sp) (ns : List Nat) (m : Nat) (w : World) (h : RowSp w v l) (hn : RowN w vn ns) (hnl : ns.length ≤ 1048576) :
    Calls Tryd.prog 15 #[v, .int .u32 (m : Int), vn] w fun e w' => ∃ v', e = .returned v' ∧ w'.ownsRow w.heap.size 23 1 v' (ns.filter (fun n => hasS m n l)).length (flatG cellsN (ns.filter (fun n => hasS m n l))) ∧ Below w.heap.size w w' := by
  have HN := hide hn
  have HV := hide h
  obtain ⟨a, cap, rfl, _, hfit, _⟩ := h
  obtain ⟨an, cn, rfl, _, hnf, _⟩ := hn
  obtain ⟨T, hT⟩ : ∃ T, T = ns.length := ⟨_, rfl⟩
  rw [← hT] at HN hnl ⊢
  have HTL := hide hT
  obtain ⟨K, hK⟩ : ∃ K, K = l.length := ⟨_, rfl⟩
  rw [← hK] at HV ⊢
  clear hfit hnf hT hK
  go_enter Tryd.func15, Tryd.ntmps15
  go_wp2
  go_loopw [7, 9, 12] (fun y _ z wr => ∃ j : Nat, z = .int .i64 j ∧ j ≤ T ∧ Hid (wr.ownsRow w.heap.size 23 1 y ((ns.take j).filter (fun n => hasS m n l)).length (flatG cellsN ((ns.take j).filter (fun n => hasS m n l)))) ∧ Hid (Below w.heap.size w wr)) (fun _ _ z _ => T - (intOf z).toNat)
  case atStart => exact ⟨0, rfl, Nat.zero_le _, hide (World.ownsRow_nil _ _ _ _), hide (Below.refl _ _)⟩
  case round =>
    obtain ⟨j, rfl, hj, HO, HBJ⟩ := hrel
    by_cases hlt : j < T
    · have hlt1 : (j : Int) < (T : Int) := by omega
      have hjl : j < ns.length := by have := unhide HTL; omega
      obtain ⟨b, off, cpk, hv1, hblt, hcell⟩ := RowG.at cellsN_len ((unhide HN).below (unhide HBJ)) (j := j) hjl
      injection hv1 with e1 e2 e3
      subst e1
      have c0 := hcell 0 (by omega)
      simp only [cellsN, List.getElem?_cons_zero, Nat.add_zero, Nat.mul_one] at c0
      clear e2 e3 hcell
      have HFT := hide (filter_take hjl (fun n => hasS m n l))
      have HH := hide (refHas_any _ l m ns[j] wr ((unhide HV).below (unhide HBJ)))
      have hll : ((ns.take j).filter (fun n => hasS m n l)).length ≤ 1048576 := by
        have h1 := List.length_filter_le (fun n => hasS m n l) (ns.take j)
        rw [List.length_take] at h1
        omega
      have HLL := hide hll
      obtain ⟨ay, cy, hy, _⟩ := own_sliceG (unhide HO)
      subst hy
      generalize ns[j] = x at c0 HFT HH
      clear hll
      obtain ⟨F, hF⟩ : ∃ F, F = (ns.take j).filter (fun n => hasS m n l) := ⟨_, rfl⟩
      rw [← hF] at HFT HO HLL ⊢
      clear hF
      cases hx : hasS m x l with
      | true =>
        rw [hx] at HH HFT
        rw [if_pos rfl] at HFT
        clear hx
        obtain ⟨M, hM⟩ : ∃ M, M = F.length := ⟨_, rfl⟩
        rw [← hM] at HO ⊢
        have HML := hide hM
        clear hM
        go_wp2_with fail
        refine (unhide HH).mono ?_
        rintro e w2 ⟨rfl, hb2⟩
        have HB2 := hide (belows' (unhide HBJ) hb2)
        have HO2 := hide (own_below (unhide HO) hb2)
        clear hb2 HO HBJ HH
        obtain ⟨v', w', hrun, h2, h3⟩ := run_appN w2 w.heap.size (.slice ay M cy) F x 24 (by rw [← unhide HML]; exact unhide HO2) (by have := unhide HLL; omega) (unhide HB2).size
        have H2 : Hid (w'.ownsRow w.heap.size 23 1 v' ((ns.take (j + 1)).filter (fun n => hasS m n l)).length (flatG cellsN ((ns.take (j + 1)).filter (fun n => hasS m n l)))) := hide (by rw [unhide HFT]; exact h2)
        have H3 := hide ((unhide HB2).trans h3)
        clear h2 h3 HFT HO2 HLL HML HB2
        go_wp2_with (at_builtin; refine wpList_append_runS (by rfl) _ _ 24 rfl rfl rfl rfl hrun ?_)
        exact ⟨⟨j + 1, by go_num, by omega, H2, H3⟩, by simp [intOf]; omega⟩
      | false =>
        rw [hx] at HH HFT
        rw [if_neg (by simp), List.append_nil] at HFT
        clear hx
        generalize hM : F.length = M at HO ⊢
        have HML := hide hM
        clear hM
        go_wp2_with fail
        refine (unhide HH).mono ?_
        rintro e w2 ⟨rfl, hb2⟩
        have HB2 := hide (belows' (unhide HBJ) hb2)
        have HO3 : Hid (w2.ownsRow w.heap.size 23 1 (.slice ay M cy) ((ns.take (j + 1)).filter (fun n => hasS m n l)).length (flatG cellsN ((ns.take (j + 1)).filter (fun n => hasS m n l)))) := hide (by rw [unhide HFT, unhide HML]; exact own_below (unhide HO) hb2)
        clear hb2 HO HBJ HH HFT HLL HML
        go_wp2
        exact ⟨⟨j + 1, by go_num, by omega, HO3, HB2⟩, by simp [intOf]; omega⟩
    · have hlt1 : ¬ (j : Int) < (T : Int) := by omega
      have htk : ns.take j = ns := List.take_of_length_le (by have := unhide HTL; omega)
      rw [htk] at HO
      clear htk
      go_wp2
      go_ret
      exact ⟨_, rfl, unhide HO, unhide HBJ⟩
end Go.Proofs.YtcoknclifgkcgaaDoor
