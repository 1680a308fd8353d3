/-
  What nset.Pack does, over this seat's program.
-/
import Derived.Test.YtihgmpebpkjmkaaGreatDoorNwh
set_option linter.unusedVariables false
namespace Go.Proofs.YtihgmpebpkjmkaaGreatDoor
open Go.RowKit Go.Proofs.Nst

def cellsN (n : Nat) : List Value := [.int .u32 (n : Int)]
theorem cellsN_len (n : Nat) : (cellsN n).length = 1 := rfl
def RowN (w : World) (v : Value) (l : List Nat) : Prop := RowG cellsN (fun n => n ≤ 4294967295) w v l
theorem RowN.below {w w' : World} {v : Value} {l : List Nat} (h : RowN w v l) (hb : Below w.heap.size w w') : RowN w' v l := RowG.below h hb
/-- Whether numbers rise. -/
def riseB (l : List Nat) : Bool := decide (l.Pairwise (· < ·))
def packR (ns : List Nat) : List Sp × Nat :=
  if riseB ns = true then if ns = [] ∨ ns.head? = some 0 then ([], 1) else if (packS ns).length ≤ 1024 then (packS ns, 0) else ([], 1) else ([], 12)
theorem rise_of {l : List Nat} (h : ∀ (j : Nat) (h : j + 1 < l.length), l[j] < l[j + 1]) : l.Pairwise (· < ·) := by
  rw [List.pairwise_iff_getElem]
  intro i j hi hj hij
  obtain ⟨d, rfl⟩ : ∃ d, j = i + 1 + d := ⟨j - i - 1, by omega⟩
  clear hij
  induction d with
  | zero => exact h i hj
  | succ d ih =>
    have h3 := ih (by omega)
    have h4 : l[i + 1 + d] < l[i + 1 + (d + 1)] := h (i + 1 + d) hj
    omega
theorem rise_not {l : List Nat} {k : Nat} (h : k + 1 < l.length) (hle : l[k + 1] ≤ l[k]) : riseB l = false := by
  unfold riseB
  rw [decide_eq_false_iff_not]
  intro hp
  have := List.pairwise_iff_getElem.1 hp k (k + 1) (by omega) h (by omega)
  omega
theorem index_runN (b off n cp m : Nat) (k : Int) (hk : k = (m : Int)) (hm : m < n) (w : World) : (Instr.indexAt 22 (.slice (some ⟨b, off, none⟩) n cp) (.int .i64 k)).run Tryz.prog w = .ok (.pointer (some ⟨b, off + m, none⟩)) w := by
  subst hk
  have hi0 : (Tryz.prog.info? 25).map (fun i => (i.zero, i.size, i.bytes)) = some (some (.int .u32 0), 1, 4) := by kernel_rfl
  obtain ⟨i0, hi, hz0, hz1, hz2⟩ := info_partsN hi0
  have he : Tryz.prog.elem 22 = 25 := by kernel_rfl
  rw [run_indexAt_slice (P := Tryz.prog) (w := w) (t := 22) (a := ⟨b, off, none⟩) (len := n) (cap := cp) (k := .i64) (i := (m : Int)) (h := by kernel_rfl)]
  rw [if_pos (by omega), he]
  have hadd : Addr.add ⟨b, off, none⟩ m = ⟨b, off + m, none⟩ := by rw [add_off0]
  go_simp
theorem wrap64_back {k : Nat} (h : k ≤ 4194304) : wrap64 ((k : Int) + 1 - 1) = (k : Int) := by unfold wrap64; omega
theorem wrap_back {k : Nat} (h : k ≤ 4194304) : IntKind.i64.wrap ((k : Int) + 1 - 1) = (k : Int) := by rw [IntKind.wrap_i64]; omega

theorem packS_next {ns : List Nat} {j : Nat} (h : j < ns.length) : packS (ns.take (j + 1)) = putS (packS (ns.take j)) (ns[j], ns[j]) := by
  rw [List.take_succ_eq_append_getElem h, packS_snoc]
theorem packS_fit {ns : List Nat} (hf : ∀ n ∈ ns, n ≤ 4294967295) : (∀ x ∈ packS ns, FitS x) ∧ (packS ns).length ≤ ns.length := by
  refine ⟨?_, ?_⟩
  · exact put_fit_all (R := []) (by simp) _ [] (fun x hx => by obtain ⟨n, hn, rfl⟩ := List.mem_map.1 hx; exact ⟨hf n hn, hf n hn⟩) (by simp)
  · have h9 := putAll_len (ns.map (fun n => (n, n))) []
    rw [List.length_map, List.length_nil] at h9
    have h10 : packS ns = (ns.map (fun n => (n, n))).foldl putS [] := rfl
    rw [h10]
    omega

set_option maxHeartbeats 2000000 in
set_option maxRecDepth 100000 in
theorem npack_any (v : Value) (ns : List Nat) (w : World) (h : RowN w v ns) (hl : ns.length ≤ 1048576) :
    Calls Tryz.prog 17 #[v] w fun e w' => ∃ v', e = .returned (.tuple #[v', .int .i64 ((packR ns).2 : Int)]) ∧ w'.ownsRow w.heap.size 79 2 v' (packR ns).1.length (flatG cellsS (packR ns).1) ∧ Below w.heap.size w w' := by
  have HR := hide h
  obtain ⟨a, cap, rfl, _, hfit, _⟩ := h
  have HF := hide hfit
  obtain ⟨T, hT⟩ : ∃ T, T = ns.length := ⟨_, rfl⟩
  rw [← hT] at HR hl ⊢
  have HTL := hide hT
  have hTi : (T : Int) ≤ 1048576 := by omega
  obtain ⟨PR, hPR⟩ : ∃ PR, PR = packR ns := ⟨_, rfl⟩
  rw [← hPR]
  have HPR := hide hPR
  clear hT hfit hPR
  go_enter Tryz.func17, Tryz.ntmps17
  go_wp2
  go_loopw [4] (fun z wr => ∃ k : Nat, z = .int .i64 ((k + 1 : Nat) : Int) ∧ (k + 1 ≤ T ∨ k = 0) ∧ Hid (∀ (j : Nat) (h : j + 1 < ns.length), j + 1 ≤ k → ns[j] < ns[j + 1]) ∧ Hid (Below w.heap.size w wr)) (fun z _ => T + 1 - (intOf z).toNat)
  case atStart => exact ⟨0, rfl, Or.inr rfl, hide (fun j h hj => by omega), hide (Below.refl _ _)⟩
  case round =>
    obtain ⟨k, rfl, hk, HA, HB⟩ := hrel
    by_cases hlt : k + 1 < T
    · have hlt1 : ((k + 1 : Nat) : Int) < (T : Int) := by omega
      have hkl : k + 1 < ns.length := by have := unhide HTL; omega
      have hkl0 : k < ns.length := by omega
      obtain ⟨b, off, cap', hv', hblt, hcell⟩ := RowG.at cellsN_len ((unhide HR).below (unhide HB)) (j := k + 1) hkl
      obtain ⟨b2, off2, cap2, hv2, hblt2, hcell2⟩ := RowG.at cellsN_len ((unhide HR).below (unhide HB)) (j := k) hkl0
      injection hv' with e1 e2 e3
      subst e1
      injection hv2 with e4 e5 e6
      injection e4 with e7
      injection e7 with e8 e9
      subst e8 e9
      have c0 := hcell 0 (by omega)
      have d0 := hcell2 0 (by omega)
      simp only [cellsN, List.getElem?_cons_zero, Nat.add_zero, Nat.mul_one] at c0 d0
      clear e2 e3 e5 e6 hcell hcell2 hblt2
      have hI1 := fun W => index_runN b off T cap (k + 1) ((k : Int) + 1) (by omega) hlt W
      have hI2 := fun W => index_runN b off T cap k (k : Int) rfl (by omega) W
      have hwb1 := wrap64_back (k := k) (by omega)
      have hwb2 := wrap_back (k := k) (by omega)
      by_cases hle : ns[k + 1] ≤ ns[k]
      · have HFIN : Hid (PR = ([], 12)) := hide (by rw [unhide HPR]; unfold packR; rw [if_neg (by rw [rise_not hkl hle]; simp)])
        generalize ns[k + 1] = x at c0 hle
        generalize ns[k] = y at d0 hle
        have hlei : (x : Int) ≤ (y : Int) := by omega
        have hled : decide (x ≤ y) = true := decide_eq_true hle
        clear HA hk hle
        go_wp2
        go_quiet (fail)
        go_wp2
        go_ret2
        refine ⟨_, by rw [unhide HFIN]; rfl, ?_, below_drewN (unhide HB) _⟩
        rw [unhide HFIN]
        exact World.ownsRow_nil _ _ _ _
      · have HA9 : Hid (∀ (j : Nat) (h : j + 1 < ns.length), j + 1 ≤ k + 1 → ns[j] < ns[j + 1]) := hide (by
          intro j h hj
          by_cases hjk : j = k
          · subst hjk; omega
          · exact unhide HA j h (by omega))
        generalize ns[k + 1] = x at c0 hle
        generalize ns[k] = y at d0 hle
        have hlei : ¬ (x : Int) ≤ (y : Int) := by omega
        have hled : decide (x ≤ y) = false := decide_eq_false hle
        clear HA hk hle
        go_wp2
        go_quiet (fail)
        go_wp2
        exact ⟨⟨k + 1, by go_num, by omega, HA9, hide (below_drewN (unhide HB) _)⟩, by simp [intOf]; omega⟩
    · have hlt1 : ¬ ((k + 1 : Nat) : Int) < (T : Int) := by omega
      have hrise : ns.Pairwise (· < ·) := rise_of (fun j h => unhide HA j h (by have := unhide HTL; omega))
      have HRB : Hid (riseB ns = true) := hide (decide_eq_true hrise)
      clear HA hrise
      by_cases h0 : T = 0
      · have HFIN : Hid (PR = ([], 1)) := hide (by rw [unhide HPR]; unfold packR; rw [if_pos (unhide HRB), if_pos (.inl (List.length_eq_zero_iff.1 (by have := unhide HTL; omega)))])
        have ht0 : ((T : Int) == 0) = true := by simp [h0]
        clear hk h0
        go_wp2
        go_ret2
        refine ⟨_, by rw [unhide HFIN]; rfl, ?_, unhide HB⟩
        rw [unhide HFIN]
        exact World.ownsRow_nil _ _ _ _
      · have ht0 : ((T : Int) == 0) = false := by simp; omega
        have hk0 : 0 < ns.length := by have := unhide HTL; omega
        obtain ⟨b, off, cap', hv', hblt, hcell⟩ := RowG.at cellsN_len ((unhide HR).below (unhide HB)) (j := 0) hk0
        injection hv' with e1 e2 e3
        subst e1
        have c0 := hcell 0 (by omega)
        simp only [cellsN, List.getElem?_cons_zero, Nat.add_zero, Nat.mul_one] at c0
        clear e2 e3 hcell
        have hhd : ns.head? = some ns[0] := by rw [List.head?_eq_getElem?, List.getElem?_eq_getElem hk0]
        have hT0 : 0 < T := by omega
        by_cases hz : ns[0] = 0
        · have HFIN : Hid (PR = ([], 1)) := hide (by rw [unhide HPR]; unfold packR; rw [if_pos (unhide HRB), if_pos (.inr (by rw [hhd, hz]))])
          have hze : ((ns[0] : Int) == 0) = true := by simp [hz]
          generalize ns[0] = x at c0 hze
          clear hk h0 hz hhd
          go_wp2
          go_ret2
          refine ⟨_, by rw [unhide HFIN]; rfl, ?_, unhide HB⟩
          rw [unhide HFIN]
          exact World.ownsRow_nil _ _ _ _
        · have HNZ : Hid (¬ (ns = [] ∨ ns.head? = some 0)) := hide (by
            rintro (h9 | h9)
            · rw [h9] at hk0; simp at hk0
            · rw [hhd] at h9; exact hz (Option.some.inj h9))
          have hze : ((ns[0] : Int) == 0) = false := by simp; omega
          generalize ns[0] = x at c0 hze
          clear hk h0 hz hhd
          go_wp2
          clear c0 hblt hk0 hT0
          go_loopw [5, 7, 35] (fun y _ z wr => ∃ j : Nat, z = .int .i64 j ∧ j ≤ T ∧ Hid (wr.ownsRow w.heap.size 79 2 y (packS (ns.take j)).length (flatG cellsS (packS (ns.take j)))) ∧ Hid (Below w.heap.size w wr)) (fun _ _ z _ => T - (intOf z).toNat)
          case atStart => exact ⟨0, rfl, Nat.zero_le _, hide (World.ownsRow_nil _ _ _ _), HB⟩
          case round =>
            obtain ⟨j, rfl, hj, HO, HBJ⟩ := hrel
            by_cases hlt2 : j < T
            · have hlt3 : (j : Int) < (T : Int) := by omega
              have hjl : j < ns.length := by have := unhide HTL; omega
              obtain ⟨b2, off2, cpk, hv1, hblt, hcell⟩ := RowG.at cellsN_len ((unhide HR).below (unhide HBJ)) (j := j) hjl
              injection hv1 with e1 e2 e3
              injection e1 with e1
              injection e1 with e4 e5
              subst e4 e5
              have c0 := hcell 0 (by omega)
              simp only [cellsN, List.getElem?_cons_zero, Nat.add_zero, Nat.mul_one] at c0
              clear e2 e3 hcell
              have hff := packS_fit (ns := ns.take j) (fun x hx => unhide HF x (List.mem_of_mem_take hx))
              have hll : (packS (ns.take j)).length ≤ 1048576 := by
                have h9 := hff.2
                rw [List.length_take] at h9
                omega
              have HNX := hide (packS_next hjl)
              obtain ⟨ay, cy, hy, _⟩ := own_sliceG (unhide HO)
              subst hy
              have HPU : Hid (Calls Tryz.prog 36 #[.slice ay (packS (ns.take j)).length cy, .agg #[.int .u32 (ns[j] : Int), .int .u32 (ns[j] : Int)]] wr fun e w' => ∃ v', e = .returned v' ∧ w'.ownsRow w.heap.size 79 2 v' (packS (ns.take (j + 1))).length (flatG cellsS (packS (ns.take (j + 1)))) ∧ Below w.heap.size wr w') := hide (by
                rw [unhide HNX]
                exact put_any _ _ (ns[j], ns[j]) wr w.heap.size (unhide HO) (unhide HBJ).size (by omega) hff.1 ⟨unhide HF _ (List.getElem_mem hjl), unhide HF _ (List.getElem_mem hjl)⟩)
              generalize (packS (ns.take j)).length = M at HPU ⊢
              generalize ns[j] = x at c0 HPU
              clear hff hll HNX HO
              go_wp2_with fail
              refine (unhide HPU).mono ?_
              rintro e w1 ⟨v', rfl, ho1, hb1⟩
              have HO1 := hide ho1
              have HB1 := hide ((unhide HBJ).trans hb1)
              clear ho1 hb1 HPU
              go_wp2
              exact ⟨⟨j + 1, by go_num, by omega, HO1, HB1⟩, by simp [intOf]; omega⟩
            · have hlt3 : ¬ (j : Int) < (T : Int) := by omega
              have htk : ns.take j = ns := List.take_of_length_le (by have := unhide HTL; omega)
              rw [htk] at HO
              obtain ⟨ay, cy, hy, _⟩ := own_sliceG (unhide HO)
              subst hy
              by_cases hfew : (packS ns).length ≤ 1024
              · have HFIN : Hid (PR = (packS ns, 0)) := hide (by rw [unhide HPR]; unfold packR; rw [if_pos (unhide HRB), if_neg (unhide HNZ), if_pos hfew])
                have hng : ¬ ((packS ns).length : Int) > 1024 := by omega
                generalize packS ns = P at *
                obtain ⟨M, hM⟩ : ∃ M, M = P.length := ⟨_, rfl⟩
                rw [← hM] at HO hng ⊢
                have HM := hide hM
                clear htk hfew hM
                go_wp2
                go_ret2
                refine ⟨_, by rw [unhide HFIN]; rfl, ?_, unhide HBJ⟩
                rw [unhide HFIN]
                show World.ownsRow _ _ _ _ _ P.length _
                rw [← unhide HM]
                exact unhide HO
              · have HFIN : Hid (PR = ([], 1)) := hide (by rw [unhide HPR]; unfold packR; rw [if_pos (unhide HRB), if_neg (unhide HNZ), if_neg hfew])
                have hng : ((packS ns).length : Int) > 1024 := by omega
                generalize (packS ns).length = M at *
                clear htk hfew
                go_wp2
                go_ret2
                refine ⟨_, by rw [unhide HFIN]; rfl, ?_, unhide HBJ⟩
                rw [unhide HFIN]
                exact World.ownsRow_nil _ _ _ _
end Go.Proofs.YtihgmpebpkjmkaaGreatDoor
