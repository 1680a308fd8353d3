/-
  What missiveref03.Pack does, over this seat's program.
-/
import Derived.Test.YtkcengdnjffpaaaDoorNwi
import Derived.BigRegion
set_option linter.unusedVariables false
namespace Go.Proofs.YtkcengdnjffpaaaDoor
open Go.RowKit Go.Proofs.Nst

theorem rise_take {ns : List Nat} {k : Nat} (hA : ∀ (j : Nat) (h : j + 1 < ns.length), j + 1 < k → ns[j] < ns[j + 1]) : (ns.take k).Pairwise (· < ·) := by
  refine rise_of (fun j h => ?_)
  rw [List.length_take] at h
  rw [List.getElem_take, List.getElem_take]
  exact hA j (by omega) (by omega)
theorem last_take {ns : List Nat} {j : Nat} (h : j < ns.length) : (ns.take (j + 1)).getLast? = some ns[j] := by
  rw [List.take_succ_eq_append_getElem h, List.getLast?_append]
  rfl
/-- The next number begins a span, or goes on with the last one. -/
theorem pack_far {ns : List Nat} {k : Nat} (hk : k < ns.length) (hA : ∀ (j : Nat) (h : j + 1 < ns.length), j + 1 < k → ns[j] < ns[j + 1]) (hf : ∀ j (h : j + 1 = k), ns[j]'(by omega) + 1 < ns[k]) :
    packS (ns.take (k + 1)) = packS (ns.take k) ++ [(ns[k], ns[k])] := by
  rw [packS_next hk]
  rcases snoc_cases (packS (ns.take k)) with h | ⟨r, b, h⟩
  · rw [h, putS_nil]; rfl
  · have hp := packS_last _ (ns.take k) rfl (rise_take hA)
    cases k with
    | zero => simp [packS, putAll] at h
    | succ j =>
      have hl : (ns.take (j + 1)).getLast? = some (ns[j]'(by omega)) := last_take (by omega)
      have hb := hp.2.2.2 r b _ h hl
      rw [h, putS_far (by rw [hb]; exact hf j rfl)]
theorem pack_near {ns : List Nat} {j : Nat} (hk : j + 1 < ns.length) (hA : ∀ (i : Nat) (h : i + 1 < ns.length), i + 1 < j + 1 → ns[i] < ns[i + 1]) (hf : ns[j] + 1 = ns[j + 1]) :
    ∃ r b, packS (ns.take (j + 1)) = r ++ [b] ∧ packS (ns.take (j + 2)) = r ++ [(b.1, ns[j + 1])] := by
  have hp := packS_last _ (ns.take (j + 1)) rfl (rise_take hA)
  have hne : packS (ns.take (j + 1)) ≠ [] := fun h0 => by
    have := hp.2.1.1 h0
    have h9 : (ns.take (j + 1)).length = 0 := by rw [this]; rfl
    rw [List.length_take] at h9
    omega
  rcases snoc_cases (packS (ns.take (j + 1))) with h | ⟨r, b, h⟩
  · exact absurd h hne
  · have hl : (ns.take (j + 1)).getLast? = some (ns[j]'(by omega)) := last_take (by omega)
    have hb := hp.2.2.2 r b _ h hl
    refine ⟨r, b, h, ?_⟩
    rw [packS_next hk, h, putS_near (by omega)]
    congr 3
    show max b.2 ns[j + 1] = ns[j + 1]
    omega
theorem wrap_one {x p : Nat} (h : p < x) (hx : x ≤ 4294967295) : ∃ d : Nat, d = x - p ∧ IntKind.u32.wrap ((x : Int) - (p : Int)) = (d : Int) := ⟨x - p, rfl, by rw [IntKind.wrap_u32]; omega⟩
theorem below_dr2 {B : Nat} {a w : World} (h : Below B a w) (n : Nat) : Below B a (w.drewN n) := ⟨h.os, h.tape, h.output, h.size, h.block⟩

set_option maxHeartbeats 2000000 in
set_option maxRecDepth 100000 in
theorem refPack_any (v : Value) (ns : List Nat) (w : World) (h : RowN w v ns) (hl : ns.length ≤ 1048576) :
    Calls Tryd.prog 20 #[v] w fun e w' => ∃ v', e = .returned (.tuple #[v', .int .i64 ((packR ns).2 : Int)]) ∧ w'.ownsRow w.heap.size 44 2 v' (packR ns).1.length (flatG cellsS (packR ns).1) ∧ Below w.heap.size w w' := by
  have HR := hide h
  obtain ⟨a, cap, rfl, _, hfit, _⟩ := h
  have HF := hide hfit
  obtain ⟨T, hT⟩ : ∃ T, T = ns.length := ⟨_, rfl⟩
  rw [← hT] at HR hl ⊢
  have HTL := hide hT
  obtain ⟨PR, hPR⟩ : ∃ PR, PR = packR ns := ⟨_, rfl⟩
  rw [← hPR]
  have HPR := hide hPR
  clear hT hfit hPR
  go_enter Tryd.func20, Tryd.ntmps20
  go_wp2
  go_loopw [4, 5, 6, 9] (fun y _ _ z wr => ∃ k : Nat, z = .int .i64 k ∧ k ≤ T ∧ Hid (∀ (j : Nat) (h : j + 1 < ns.length), j + 1 < k → ns[j] < ns[j + 1]) ∧ Hid (wr.ownsRow w.heap.size 44 2 y (packS (ns.take k)).length (flatG cellsS (packS (ns.take k)))) ∧ Hid (Below w.heap.size w wr)) (fun _ _ _ z _ => T - (intOf z).toNat)
  case atStart => exact ⟨0, rfl, Nat.zero_le _, hide (fun j h hj => by omega), hide (World.ownsRow_nil _ _ _ _), hide (Below.refl _ _)⟩
  case round =>
    obtain ⟨k, rfl, hk, HA, HO, HB⟩ := hrel
    by_cases hlt : k < T
    · have hlt1 : (k : Int) < (T : Int) := by omega
      have hkl : k < ns.length := by have := unhide HTL; omega
      have hff := packS_fit (ns := ns.take k) (fun x hx => unhide HF x (List.mem_of_mem_take hx))
      have hll : (packS (ns.take k)).length ≤ 1048576 := by
        have h9 := hff.2
        rw [List.length_take] at h9
        omega
      have hxf : ns[k] ≤ 4294967295 := unhide HF _ (List.getElem_mem hkl)
      obtain ⟨b, off, cap', hv', hblt, hcell⟩ := RowG.at cellsN_len ((unhide HR).below (unhide HB)) (j := k) hkl
      injection hv' with e1 e2 e3
      cases k with
      | zero =>
        subst e1
        have c0 := hcell 0 (by omega)
        simp only [cellsN, List.getElem?_cons_zero, Nat.add_zero, Nat.mul_one] at c0
        clear e2 e3 hcell
        have hpf := pack_far hkl (unhide HA) (fun j h => by omega)
        obtain ⟨v', w1, hrun, ho1, hb1⟩ := run_appS wr w.heap.size _ _ (ns[0], ns[0]) 22 (unhide HO) (by omega) (unhide HB).size
        rw [← hpf] at ho1
        have HA1 : Hid (∀ (j : Nat) (h : j + 1 < ns.length), j + 1 < 1 → ns[j] < ns[j + 1]) := hide (fun j h hj => by omega)
        have HB1 := hide ((unhide HB).trans hb1)
        obtain ⟨ay, cy, hy, _⟩ := own_sliceG (unhide HO)
        obtain ⟨az, cz, hz, _⟩ := own_sliceG ho1
        obtain ⟨M2, hM2⟩ : ∃ M2, M2 = (packS (ns.take (0 + 1))).length := ⟨_, rfl⟩
        rw [← hM2] at hz
        subst hy hz
        have HO1 := hide ho1
        clear hM2
        generalize (packS (ns.take 0)).length = M at hrun ⊢
        generalize ns[0] = x at c0 hrun
        clear hpf ho1 hb1 hff hll hxf HO HB HA
        go_wp2_with (at_builtin; refine wpList_append_runS (by rfl) _ _ 22 rfl rfl rfl rfl hrun ?_)
        exact ⟨⟨1, by go_num, by omega, HA1, HO1, HB1⟩, by simp [intOf]; omega⟩
      | succ j =>
        have hjl : j < ns.length := by omega
        obtain ⟨b2, off2, cap2, hv2, hblt2, hcell2⟩ := RowG.at cellsN_len ((unhide HR).below (unhide HB)) (j := j) hjl
        injection hv2 with e4 e5 e6
        rw [e1] at e4
        injection e4 with e7
        injection e7 with e8 e9
        subst e8 e9 e1
        have c0 := hcell 0 (by omega)
        have d0 := hcell2 0 (by omega)
        simp only [cellsN, List.getElem?_cons_zero, Nat.add_zero, Nat.mul_one] at c0 d0
        clear e2 e3 e5 e6 hcell hcell2 hblt2
        have hI1 := fun W => index_runN b off T cap (j + 1) ((j : Int) + 1) (by omega) hlt W
        have hI2 := fun W => index_runN b off T cap j (j : Int) rfl (by omega) W
        have hwb1 := wrap64_back (k := j) (by omega)
        have hwb2 := wrap_back (k := j) (by omega)
        have hk0 : decide ((0 : Int) < (j : Int) + 1) = true := decide_eq_true (by omega)
        by_cases hle : ns[j + 1] ≤ ns[j]
        · have HFIN : Hid (PR = ([], 12)) := hide (by rw [unhide HPR]; unfold packR; rw [if_neg (by rw [rise_not hkl hle]; simp)])
          obtain ⟨ay, cy, hy, _⟩ := own_sliceG (unhide HO)
          subst hy
          generalize (packS (ns.take (j + 1))).length = M
          generalize ns[j + 1] = x at c0 hle
          generalize ns[j] = y at d0 hle
          have hlei : (x : Int) ≤ (y : Int) := by omega
          have hled : decide (x ≤ y) = true := decide_eq_true hle
          clear hle hff hll HO HA hxf
          go_wp2
          go_ret2
          refine ⟨_, by rw [unhide HFIN]; rfl, ?_, unhide HB⟩
          rw [unhide HFIN]
          exact World.ownsRow_nil _ _ _ _
        · have HA9 : Hid (∀ (i : Nat) (h : i + 1 < ns.length), i + 1 < j + 1 + 1 → ns[i] < ns[i + 1]) := hide (by
            intro i h hi
            by_cases hij : i = j
            · subst hij; omega
            · exact unhide HA i h (by omega))
          by_cases hnx : ns[j] + 1 = ns[j + 1]
          · obtain ⟨r, bb, hrb, hr2⟩ := pack_near hkl (unhide HA) hnx
            have hown := unhide HO
            rw [hrb] at hown hll
            have hlast : r.length < (r ++ [bb]).length := by simp
            have hset : (r ++ [bb]).set r.length (bb.1, ns[j + 1]) = r ++ [(bb.1, ns[j + 1])] := by simp
            have hbl : (r ++ [bb])[r.length] = bb := by simp
            obtain ⟨g, cg, hvg, hg, hgl, hcellg, hfz⟩ := ownG_at cellsS_len hown hlast
            have c9 := hcellg 1 (by omega)
            rw [hbl] at c9
            simp only [cellsS, List.getElem?_cons_succ, List.getElem?_cons_zero] at c9
            subst hvg
            have HFIN : Hid ((wr.setCell ⟨g, r.length * 2 + 1, none⟩ (.int .u32 (ns[j + 1] : Int))).ownsRow w.heap.size 44 2 (.slice (some ⟨g, 0, none⟩) (r ++ [bb]).length cg) (packS (ns.take (j + 1 + 1))).length (flatG cellsS (packS (ns.take (j + 1 + 1)))) ∧ Below w.heap.size w (wr.setCell ⟨g, r.length * 2 + 1, none⟩ (.int .u32 (ns[j + 1] : Int)))) := hide (by
              refine ⟨?_, (unhide HB).setCell (p := ⟨g, r.length * 2 + 1, none⟩) hg _⟩
              have hst := hown.stored (r.length * 2 + 1) (.int .u32 (ns[j + 1] : Int))
              rw [flatG_set cellsS_len (r ++ [bb]) r.length hlast (bb.1, ns[j + 1]) 1 (by omega) _ (by rw [hbl]; rfl), hset] at hst
              rw [hr2, show (r ++ [(bb.1, ns[j + 1])]).length = (r ++ [bb]).length by simp]
              exact hst.1)
            have hfw := hfz (r.length * 2 + 1)
            obtain ⟨M, hM⟩ : ∃ M, M = (r ++ [bb]).length := ⟨_, rfl⟩
            obtain ⟨q, hq⟩ : ∃ q, q = r.length := ⟨_, rfl⟩
            have hqM : q + 1 = M := by rw [hM, hq]; simp
            rw [← hM] at HFIN hlast hll ⊢
            rw [← hq] at c9 hlast HFIN hfw
            have hM4 : M ≤ 4194304 := by omega
            have hp1 := wrap_pred hqM hM4
            have hp2 := wrap64_pred hqM hM4
            have hI := fun W => index_runS g M cg q (q : Int) rfl hlast W
            have hq0 : decide ((q : Int) < 0) = false := decide_eq_false (by omega)
            obtain ⟨d, hd, hdw⟩ := wrap_one (x := ns[j + 1]) (p := ns[j]) (by omega) hxf
            have hd1 : ((d : Int) == 1) = true := by simp; omega
            generalize ns[j + 1] = x at c0 HFIN hle hdw hd hset hr2
            generalize ns[j] = y at d0 hle hdw hd
            have hlei : ¬ (x : Int) ≤ (y : Int) := by omega
            have hled : decide (x ≤ y) = false := decide_eq_false hle
            clear hle hff hll hxf HO HB HA hd hnx hown hcellg hfz hrb hr2 hset hbl hM hq hqM hM4 hlast
            go_wp2
            exact ⟨⟨j + 2, by go_num, by omega, HA9, hide (unhide HFIN).1, hide (unhide HFIN).2⟩, by simp [intOf]; omega⟩
          · have hpf := pack_far hkl (unhide HA) (fun i h => by
              obtain rfl : i = j := by omega
              omega)
            obtain ⟨v', w1, hrun, ho1, hb1⟩ := run_appS wr w.heap.size _ _ (ns[j + 1], ns[j + 1]) 22 (unhide HO) (by omega) (unhide HB).size
            rw [← hpf] at ho1
            have HB1 := hide ((unhide HB).trans hb1)
            obtain ⟨ay, cy, hy, _⟩ := own_sliceG (unhide HO)
            obtain ⟨az, cz, hz, _⟩ := own_sliceG ho1
            obtain ⟨M2, hM2⟩ : ∃ M2, M2 = (packS (ns.take (j + 1 + 1))).length := ⟨_, rfl⟩
            rw [← hM2] at hz
            subst hy hz
            have HO1 := hide ho1
            clear hM2
            obtain ⟨d, hd, hdw⟩ := wrap_one (x := ns[j + 1]) (p := ns[j]) (by omega) hxf
            have hd1 : ((d : Int) == 1) = false := by simp; omega
            generalize (packS (ns.take (j + 1))).length = M at hrun ⊢
            generalize ns[j + 1] = x at c0 hrun hle hdw hd
            generalize ns[j] = y at d0 hle hdw hd
            have hlei : ¬ (x : Int) ≤ (y : Int) := by omega
            have hled : decide (x ≤ y) = false := decide_eq_false hle
            clear hle hpf ho1 hb1 hff hll hxf HO HB HA hd hnx
            go_wp2_with (at_builtin; refine wpList_append_runS (by rfl) _ _ 22 rfl rfl rfl rfl hrun ?_)
            exact ⟨⟨j + 2, by go_num, by omega, HA9, HO1, HB1⟩, by simp [intOf]; omega⟩
    · have hlt1 : ¬ (k : Int) < (T : Int) := by omega
      have htk : ns.take k = ns := List.take_of_length_le (by have := unhide HTL; omega)
      rw [htk] at HO
      have hrise : ns.Pairwise (· < ·) := rise_of (fun j h => unhide HA j h (by have := unhide HTL; omega))
      have HRB : Hid (riseB ns = true) := hide (decide_eq_true hrise)
      have hemp := (packS_last _ ns rfl hrise).2.1
      clear HA
      obtain ⟨ay, cy, hy, _⟩ := own_sliceG (unhide HO)
      obtain ⟨M, hM⟩ : ∃ M, M = (packS ns).length := ⟨_, rfl⟩
      rw [← hM] at hy
      subst hy
      by_cases h0 : M = 0
      · have hnn : ns = [] := hemp.1 (List.length_eq_zero_iff.1 (by omega))
        have HFIN : Hid (PR = ([], 1)) := hide (by rw [unhide HPR]; unfold packR; rw [if_pos (unhide HRB), if_pos (.inl hnn)])
        have hm1 : (M : Int) < 1 := by omega
        clear hnn hemp hrise htk hM h0
        go_wp2
        go_ret2
        refine ⟨_, by rw [unhide HFIN]; rfl, ?_, unhide HB⟩
        rw [unhide HFIN]
        exact World.ownsRow_nil _ _ _ _
      · have hm1 : ¬ (M : Int) < 1 := by omega
        have hne : ns ≠ [] := fun h9 => h0 (by rw [hM, hemp.2 h9]; rfl)
        have hk0 : 0 < ns.length := List.length_pos_iff.2 hne
        have hT0 : 0 < T := by have := unhide HTL; omega
        have hhd : ns.head? = some ns[0] := by rw [List.head?_eq_getElem?, List.getElem?_eq_getElem hk0]
        obtain ⟨b, off, cap', hv', hblt, hcell⟩ := RowG.at cellsN_len ((unhide HR).below (unhide HB)) (j := 0) hk0
        injection hv' with e1 e2 e3
        subst e1
        have c0 := hcell 0 (by omega)
        simp only [cellsN, List.getElem?_cons_zero, Nat.add_zero, Nat.mul_one] at c0
        clear e2 e3 hcell
        by_cases hfew : M ≤ 1024
        · have hng : ¬ (M : Int) > 1024 := by omega
          by_cases hz : ns[0] = 0
          · have HFIN : Hid (PR = ([], 1)) := hide (by rw [unhide HPR]; unfold packR; rw [if_pos (unhide HRB), if_pos (.inr (by rw [hhd, hz]))])
            have hze : ((ns[0] : Int) == 0) = true := by simp [hz]
            generalize ns[0] = x at c0 hze
            clear hz hhd hfew hne hk0 hemp hrise htk hM h0
            go_wp2
            go_ret2
            refine ⟨_, by rw [unhide HFIN]; rfl, ?_, unhide HB⟩
            rw [unhide HFIN]
            exact World.ownsRow_nil _ _ _ _
          · have HFIN : Hid (PR = (packS ns, 0)) := hide (by
              rw [unhide HPR]; unfold packR
              rw [if_pos (unhide HRB), if_neg (by
                rintro (h9 | h9)
                · exact hne h9
                · rw [hhd] at h9; exact hz (Option.some.inj h9)), if_pos (by omega)])
            have hze : ((ns[0] : Int) == 0) = false := by simp; omega
            generalize ns[0] = x at c0 hze
            have HM := hide hM
            clear hz hhd hfew hne hk0 hemp hrise htk hM h0
            go_wp2
            go_ret2
            refine ⟨_, by rw [unhide HFIN]; rfl, ?_, unhide HB⟩
            rw [unhide HFIN]
            exact unhide HO
        · have hng : (M : Int) > 1024 := by omega
          have HFIN : Hid (PR = ([], 1)) := hide (by
            rw [unhide HPR]; unfold packR
            rw [if_pos (unhide HRB)]
            by_cases hc : ns = [] ∨ ns.head? = some 0
            · rw [if_pos hc]
            · rw [if_neg hc, if_neg (by omega)])
          clear hhd hfew hne hemp hrise htk hM h0 c0 hk0
          go_wp2
          go_ret2
          refine ⟨_, by rw [unhide HFIN]; rfl, ?_, unhide HB⟩
          rw [unhide HFIN]
          exact World.ownsRow_nil _ _ _ _
end Go.Proofs.YtkcengdnjffpaaaDoor
