/-
  What tally.numbersOf tells, over this seat's program.
-/
import Derived.Test.YtlolilhlpbpfjaaGreatDoorTld
set_option linter.unusedVariables false
set_option linter.unusedSimpArgs false
namespace Go.Proofs.YtlolilhlpbpfjaaGreatDoor
open Go.RowKit Go.Proofs.Nst

theorem numsF_fit : ∀ (l : List Sp) (acc ns : List Nat), (∀ x ∈ l, FitS x) → (∀ n ∈ acc, n ≤ 4294967295) → numsF acc l = some ns → ∀ n ∈ ns, n ≤ 4294967295
  | [], acc, ns, _, ha, h => by rw [numsF] at h; injection h with h; subst h; exact ha
  | s :: r, acc, ns, hl, ha, h => by
    rw [numsF] at h
    split at h
    · cases h
    · rename_i hc
      refine numsF_fit r _ ns (fun x hx => hl x (List.mem_cons_of_mem _ hx)) ?_ h
      intro n hn
      have h2 := (hl s List.mem_cons_self).2
      rcases List.mem_append.1 hn with h9 | h9
      · exact ha n h9
      · rw [List.mem_range'_1] at h9; omega

theorem u32Info : (Tryz.prog.info? 25).map (fun i => (i.zero, i.size, i.bytes)) = some (some (.int .u32 0), 1, 4) := by kernel_rfl
theorem run_appNg (w : World) (B g : Nat) (v : Value) (l : List Nat) (p : Nat) (ty : TypeId) (hown : w.ownsRow B 25 1 v l.length (flatG cellsN l)) (hl : l.length ≤ 4194304) (hB : B ≤ w.heap.size) (hg : Blk w g 25 #[.int .u32 (p : Int)]) :
    ∃ v' w', (Builtin.append_ #[23, 23] ty #[v, .slice (some ⟨g, 0, none⟩) 1 1]).run Tryz.prog w = .ok v' w' ∧ w'.ownsRow B 25 1 v' (l ++ [p]).length (flatG cellsN (l ++ [p])) ∧ Below B w w' ∧ w.grownBy w' v.ownBlock :=
  run_appGg cellsN 1 4 cellsN_len 25 23 (.int .u32 0) Tryz.underlying23 u32Info rfl (by decide) (by decide) (by decide) (by intro x u hu; simp [cellsN] at hu; subst hu; rfl) w B g v l p ty hown hl hB hg

set_option maxHeartbeats 8000000 in
set_option maxRecDepth 100000 in
theorem numbersOf_any (v : Value) (l : List Sp) (w : World) (h : RowSp w v l) (hl : l.length ≤ 1048576) :
    Calls Tryz.prog 49 #[v] w fun e w' => ∃ v', e = .returned (.tuple #[v', .bool (numsF [] l).isSome]) ∧ (∀ ns, numsF [] l = some ns → w'.ownsRow w.heap.size 25 1 v' ns.length (flatG cellsN ns) ∧ ns.length ≤ 65536) ∧ Below w.heap.size w w' := by
  have HR := hide h
  obtain ⟨a, cap, rfl, _, hfit, _⟩ := h
  have HF := hide hfit
  obtain ⟨T, hT⟩ : ∃ T, T = l.length := ⟨_, rfl⟩
  rw [← hT] at HR hl ⊢
  have HTL := hide hT
  obtain ⟨R, hR⟩ : ∃ R, numsF [] l = R := ⟨_, rfl⟩
  rw [hR]
  have HN := hide hR
  clear hT hfit hR
  go_enter Tryz.func49, Tryz.ntmps49
  go_wp2
  go_loopw [4, 6, 7, 10] (fun y _ _ z wr => ∃ (k : Nat) (acc : List Nat), z = .int .i64 k ∧ k ≤ T ∧ acc.length ≤ 65536 ∧ Hid (numsF acc (l.drop k) = R) ∧ Hid (wr.ownsRow w.heap.size 25 1 y acc.length (flatG cellsN acc)) ∧ Hid (Below w.heap.size w wr)) (fun _ _ _ z _ => T - (intOf z).toNat)
  case atStart => exact ⟨0, [], rfl, Nat.zero_le _, by simp, HN, hide (World.ownsRow_nil _ _ _ _), hide (Below.refl _ _)⟩
  case round =>
    obtain ⟨k, acc, rfl, hk, hacc, HA, HO, HB⟩ := hrel
    by_cases hlt : k < T
    · have hlt1 : (k : Int) < (T : Int) := by omega
      have hkl : k < l.length := by have := unhide HTL; omega
      obtain ⟨b, off, cp, hv1, hblt, hcell⟩ := RowG.at cellsS_len ((unhide HR).below (unhide HB)) (j := k) hkl
      injection hv1 with e1 e2 e3
      subst e1
      have c0 := hcell 0 (by omega)
      have c1 := hcell 1 (by omega)
      simp only [cellsS, List.getElem?_cons_zero, List.getElem?_cons_succ, Nat.add_zero] at c0 c1
      clear e2 e3 hcell
      have hx := unhide HF l[k] (List.getElem_mem hkl)
      unfold FitS at hx
      have hnx := unhide HA
      rw [List.drop_eq_getElem_cons hkl, numsF] at hnx
      obtain ⟨ay, cy, hy, _⟩ := own_sliceG (unhide HO)
      subst hy
      generalize (l[k]).1 = f at c0 hx hnx
      generalize (l[k]).2 = t at c1 hx hnx
      have hf : f ≤ 4294967295 := hx.1
      have ht : t ≤ 4294967295 := hx.2
      clear hx
      by_cases z0 : f = 0
      · have q0 : ((f : Int) == 0) = true := by simp [z0]
        rw [if_pos (.inl z0)] at hnx
        have HNX := hide hnx.symm
        clear hnx HA z0
        go_wp2
        go_ret2
        exact ⟨_, by rw [unhide HNX]; rfl, fun ns hns => (by rw [unhide HNX] at hns; cases hns), (unhide HB).alloc (unhide HB).size _⟩
      · have q0 : ((f : Int) == 0) = false := by simp; omega
        by_cases z1 : t < f
        · have q1 : (t : Int) < (f : Int) := by omega
          rw [if_pos (.inr (.inl z1))] at hnx
          have HNX := hide hnx.symm
          clear hnx HA z0 z1
          go_wp2
          go_ret2
          exact ⟨_, by rw [unhide HNX]; rfl, fun ns hns => (by rw [unhide HNX] at hns; cases hns), (unhide HB).alloc (unhide HB).size _⟩
        · have q1 : ¬ (t : Int) < (f : Int) := by omega
          obtain ⟨d, hd⟩ : ∃ d, t = f + d := ⟨t - f, by omega⟩
          have hdd : t - f = d := by omega
          have w1 : IntKind.u32.wrap ((t : Int) - (f : Int)) = (d : Int) := by rw [IntKind.wrap_u32]; omega
          have w4 : IntKind.u64.wrap ((acc.length : Int) + (d : Int)) = (acc.length : Int) + (d : Int) := by rw [IntKind.wrap_u64]; omega
          have hd9 : d ≤ 4294967295 := by omega
          rw [hdd] at hnx
          have HD := hide hd
          clear hd hdd
          by_cases z2 : 65536 ≤ acc.length + d
          · have q2 : (acc.length : Int) + (d : Int) ≥ 65536 := by omega
            rw [if_pos (.inr (.inr z2))] at hnx
            have HNX := hide hnx.symm
            clear hnx HA z0 z1 z2
            go_wp2
            go_ret2
            exact ⟨_, by rw [unhide HNX]; rfl, fun ns hns => (by rw [unhide HNX] at hns; cases hns), (unhide HB).alloc (unhide HB).size _⟩
          · have q2 : ¬ (acc.length : Int) + (d : Int) ≥ 65536 := by omega
            rw [if_neg (by rintro (h9 | h9 | h9); exact z0 h9; exact z1 h9; exact z2 h9)] at hnx
            have HNX := hide hnx
            have w5 : IntKind.u32.wrap ((d : Int) + 1) = ((d + 1 : Nat) : Int) := by rw [IntKind.wrap_u32]; omega
            have hal : acc.length + d < 65536 := by omega
            clear hnx HA z0 z1 z2
            have HS := hide (Blk.new wr 49 #[.int .u32 (f : Int), .int .u32 (t : Int)])
            have HB1 := hide ((unhide HB).alloc (unhide HB).size (.cells #[.int .u32 (f : Int), .int .u32 (t : Int)] 49))
            have HO1 := hide (own_below (unhide HO) ((Below.refl _ wr).alloc (Nat.le_refl _) (.cells #[.int .u32 (f : Int), .int .u32 (t : Int)] 49)))
            clear HO
            go_upto_region 7 with (fail)
            generalize wr.alloc (.cells #[.int .u32 (f : Int), .int .u32 (t : Int)] 49) = wa at HS HB1 HO1 ⊢
            generalize wr.heap.size = S at HS ⊢
            clear HB c0 c1 hblt q0 q1 q2 w4
            have c0 := (unhide HS).cell 0
            have c1 := (unhide HS).cell 1
            simp only [List.getElem?_toArray, List.getElem?_cons_succ, List.getElem?_cons_zero] at c0 c1
            go_wp2
            go_loopw [4, 7, 43] (fun y _ z wr => ∃ j : Nat, z = .int .u32 j ∧ j ≤ d + 1 ∧ Hid (wr.ownsRow w.heap.size 25 1 y (acc ++ List.range' f j).length (flatG cellsN (acc ++ List.range' f j))) ∧ Hid (Blk wr S 49 #[.int .u32 (f : Int), .int .u32 (t : Int)]) ∧ Hid (Below w.heap.size w wr)) (fun _ _ z _ => d + 1 - (intOf z).toNat)
            case atStart => exact ⟨0, rfl, Nat.zero_le _, hide (by simpa using unhide HO1), HS, HB1⟩
            case round =>
              obtain ⟨j, rfl, hj, HOJ, HSJ, HBJ⟩ := hrel
              by_cases hlj : j < d + 1
              · have hlj1 : (j : Int) < ((d + 1 : Nat) : Int) := by omega
                have c0 := (unhide HSJ).cell 0
                simp only [List.getElem?_toArray, List.getElem?_cons_succ, List.getElem?_cons_zero] at c0
                have w6 : IntKind.u32.wrap ((f : Int) + (j : Int)) = ((f + j : Nat) : Int) := by have := unhide HD; rw [IntKind.wrap_u32]; omega
                have w7 : IntKind.u32.wrap ((j : Int) + 1) = ((j + 1 : Nat) : Int) := by rw [IntKind.wrap_u32]; omega
                have hll : (acc ++ List.range' f j).length ≤ 65536 := by rw [List.length_append, List.length_range']; omega
                have HNE : Hid (acc ++ List.range' f j ++ [f + j] = acc ++ List.range' f (j + 1)) := hide (by rw [List.range'_concat, ← List.append_assoc]; simp)
                obtain ⟨A, hA⟩ : ∃ A, A = acc ++ List.range' f j := ⟨_, rfl⟩
                rw [← hA] at HOJ hll HNE
                obtain ⟨y1, y2, hy, _⟩ := own_sliceG (unhide HOJ)
                subst hy
                have hal2 := Below.alloc (Below.refl wr.heap.size wr) (Nat.le_refl _) (.cells #[.int .u32 ((f + j : Nat) : Int)] 25)
                obtain ⟨v', w', hrun, h2, h3, h4⟩ := run_appNg (wr.alloc (.cells #[.int .u32 ((f + j : Nat) : Int)] 25)) w.heap.size wr.heap.size _ A (f + j) 23 (own_below (unhide HOJ) hal2) (by omega) (Nat.le_trans (unhide HBJ).size hal2.size) (Blk.new wr _ _)
                have HO2 : Hid (w'.ownsRow w.heap.size 25 1 v' (acc ++ List.range' f (j + 1)).length (flatG cellsN (acc ++ List.range' f (j + 1)))) := hide (by rw [← unhide HNE]; exact h2)
                have HS2 := hide (blk_grownT ((unhide HSJ).below hal2) h4 (own_neT (own_below (unhide HOJ) hal2) ((unhide HSJ).below hal2) (by decide)))
                have HB2 := hide ((unhide HBJ).trans ((hal2.mono (unhide HBJ).size).trans h3))
                clear h2 h3 h4 HNE HOJ hal2 hA
                generalize A.length = M at hrun ⊢
                go_wp2_with (at_builtin; refine wpList_append_runB (by rfl) _ _ 23 rfl rfl rfl rfl hrun ?_)
                exact ⟨⟨j + 1, by go_num, by omega, HO2, HS2, HB2⟩, by simp [intOf]; omega⟩
              · have hlj1 : ¬ (j : Int) < ((d + 1 : Nat) : Int) := by omega
                have HNY : Hid (numsF (acc ++ List.range' f j) (l.drop (k + 1)) = R) := hide (by rw [show j = d + 1 by omega]; exact unhide HNX)
                have hll : (acc ++ List.range' f j).length ≤ 65536 := by rw [List.length_append, List.length_range']; omega
                clear HNX
                generalize acc ++ List.range' f j = A at *
                obtain ⟨y1, y2, hy, _⟩ := own_sliceG (unhide HOJ)
                subst hy
                go_wp2
                exact ⟨⟨k + 1, A, by go_num, by omega, hll, HNY, HOJ, HBJ⟩, by simp [intOf]; omega⟩
    · have hlt1 : ¬ (k : Int) < (T : Int) := by omega
      have hnx := unhide HA
      rw [List.drop_eq_nil_of_le (by have := unhide HTL; omega), numsF] at hnx
      have HNX := hide hnx.symm
      obtain ⟨ay, cy, hy, _⟩ := own_sliceG (unhide HO)
      subst hy
      clear hnx HA
      go_wp2
      go_ret2
      exact ⟨_, by rw [unhide HNX]; rfl, fun ns hns => (by rw [unhide HNX] at hns; injection hns with hns; subst hns; exact ⟨unhide HO, hacc⟩), unhide HB⟩
end Go.Proofs.YtlolilhlpbpfjaaGreatDoor

/-
  What tally.isOfAll tells, over this seat's program.
-/
set_option linter.unusedVariables false
set_option linter.unusedSimpArgs false
namespace Go.Proofs.YtlolilhlpbpfjaaGreatDoor
open Go.RowKit Go.Proofs.Nst

set_option maxHeartbeats 8000000 in
set_option maxRecDepth 100000 in
theorem isOfAll_any (t : Tly) (v : Value) (w : World) (hf : FitT t) (h : RowSp w v t.all) (hl : t.all.length ≤ 1048576) :
    Calls Tryz.prog 33 #[tlV t v] w fun e w' => e = .returned (.bool (ofAll t)) ∧ Below w.heap.size w w' := by
  obtain ⟨wt, mn, lo, hi, al⟩ := t
  obtain ⟨f1, _, f2, f3⟩ := hf
  simp only at f1 f2 f3 h hl
  have HA := hide (show Below w.heap.size w (w.alloc (.cells #[.int .u8 (wt : Int), .int .i64 mn, .int .u32 (lo : Int), .int .u32 (hi : Int), v] 28)) from (Below.refl _ w).alloc (Nat.le_refl _) _)
  have HK := hide (Blk.new w 28 #[.int .u8 (wt : Int), .int .i64 mn, .int .u32 (lo : Int), .int .u32 (hi : Int), v])
  have HV := hide h
  have HFIT : Hid (∀ x ∈ al, FitS x) := hide (by obtain ⟨_, _, _, _, hfit, _⟩ := id h; exact hfit)
  have HNU := hide (numbersOf_any v al _ (h.below (unhide HA)) hl)
  obtain ⟨R, hR⟩ : ∃ R, ofAll ⟨wt, mn, lo, hi, al⟩ = R := ⟨_, rfl⟩
  rw [hR]
  have HR := hide hR
  clear hR
  simp only [tlV, tlC]

  clear h
  go_enter Tryz.func33, Tryz.ntmps33
  go_wp2_with fail
  refine (unhide HNU).mono ?_
  rintro e w1 ⟨vn, rfl, hns, b1⟩
  have HB1 := hide (belows' (unhide HA) b1)
  have HK1 := hide ((unhide HK).below b1)
  clear HNU HK
  obtain ⟨N, hN⟩ : ∃ N, numsF [] al = N := ⟨_, rfl⟩
  rw [hN] at hns ⊢
  cases N with
  | none =>
    have HF : Hid (R = false) := hide (by rw [← unhide HR]; unfold ofAll; simp only [hN])
    clear hns hN HR b1 HA
    go_wp2
    go_ret
    exact ⟨by rw [unhide HF]; rfl, unhide HB1⟩
  | some ns =>
    obtain ⟨hon, hnl⟩ := hns ns rfl
    have hnf : ∀ n ∈ ns, n ≤ 4294967295 := numsF_fit al [] ns (unhide HFIT) (by simp) hN
    have HRN : Hid (RowN w1 vn ns) := hide (rowG_of_own cellsN_len hon (by omega) hnf)
    have HOF := hide (of_any wt vn ns w1 (unhide HRN) (by omega) f1)
    obtain ⟨o, ho⟩ : ∃ o, ofR wt ns = o := ⟨_, rfl⟩
    rw [ho] at HOF
    obtain ⟨⟨ow, om, ol, ox, oa⟩, k⟩ := o
    have HRE : Hid (R = (decide (k = 0) && (decide (mn = om) && (decide (lo = ol) && (decide (hi = ox) && decide (al = oa)))))) := hide (by rw [← unhide HR]; unfold ofAll; simp only [hN, ho])
    have HV1 := hide ((unhide HV).below (unhide HB1))
    clear hns hN HR hon hnl hnf ho HV HFIT HRN b1 HA
    have c0 := (unhide HK1).cell 0
    have c1 := (unhide HK1).cell 1
    have c2 := (unhide HK1).cell 2
    have c3 := (unhide HK1).cell 3
    have c4 := (unhide HK1).cell 4
    simp only [tlC, List.getElem?_toArray, List.getElem?_cons_succ, List.getElem?_cons_zero] at c0 c1 c2 c3 c4
    go_wp2_with fail
    refine (unhide HOF).mono ?_
    rintro e w2 ⟨vo, rfl, hro, b2⟩
    obtain ⟨ao, co, rfl, _⟩ := id hro
    simp only [tlV, tlC] at hro ⊢
    obtain ⟨on, hon⟩ : ∃ on, on = oa.length := ⟨_, rfl⟩
    rw [← hon] at hro ⊢
    clear hon
    have HB2 := hide (belows' (unhide HB1) b2)
    have HK2 := hide ((unhide HK1).below b2)
    have HV2 := hide ((unhide HV1).below b2)
    have HRO := hide hro
    have hb3 := Below.alloc (Below.refl _ w2) (Nat.le_refl _) (.cells #[.int .u8 (ow : Int), .int .i64 om, .int .u32 (ol : Int), .int .u32 (ox : Int), (.slice ao on co)] 28)
    have HB3 := hide (belows' (unhide HB2) hb3)
    have HK3 := hide ((unhide HK2).below hb3)
    have HK4 := hide (Blk.new w2 28 #[.int .u8 (ow : Int), .int .i64 om, .int .u32 (ol : Int), .int .u32 (ox : Int), (.slice ao on co)])
    have HEQ := hide (equalS_any v (.slice ao on co) al oa _ ((unhide HV2).below hb3) (RowSp.below (unhide HRO) hb3))
    clear hro b2 HB1 HK1 HV1 HOF hb3 HB2 HK2 HV2 HRO c0 c1 c2 c3 c4
    go_upto_region 5 with (fail)
    generalize w2.alloc (.cells #[.int .u8 (ow : Int), .int .i64 om, .int .u32 (ol : Int), .int .u32 (ox : Int), (.slice ao on co)] 28) = W at HB3 HK3 HK4 HEQ ⊢
    generalize w2.heap.size = C at HK4 ⊢
    have c0 := (unhide HK3).cell 0
    have c1 := (unhide HK3).cell 1
    have c2 := (unhide HK3).cell 2
    have c3 := (unhide HK3).cell 3
    have c4 := (unhide HK3).cell 4
    simp only [tlC, List.getElem?_toArray, List.getElem?_cons_succ, List.getElem?_cons_zero] at c0 c1 c2 c3 c4
    have d0 := (unhide HK4).cell 0
    have d1 := (unhide HK4).cell 1
    have d2 := (unhide HK4).cell 2
    have d3 := (unhide HK4).cell 3
    have d4 := (unhide HK4).cell 4
    simp only [tlC, List.getElem?_toArray, List.getElem?_cons_succ, List.getElem?_cons_zero] at d0 d1 d2 d3 d4
    by_cases e0 : k = 0
    · have q0 : ((k : Int) == 0) = true := by simp [e0]
      have E0 := hide e0
      clear e0
      by_cases e1 : mn = om
      · have q1 : (mn == om) = true := by simp [e1]
        have E1 := hide e1
        clear e1
        by_cases e2 : lo = ol
        · have q2 : ((lo : Int) == (ol : Int)) = true := by simp [e2]
          have E2 := hide e2
          clear e2
          by_cases e3 : hi = ox
          · have q3 : ((hi : Int) == (ox : Int)) = true := by simp [e3]
            have E3 := hide e3
            clear e3
            have HF : Hid (R = decide (al = oa)) := hide (by rw [unhide HRE]; simp [unhide E0, unhide E1, unhide E2, unhide E3])
            clear HRE
            go_wp2_with fail
            refine (unhide HEQ).mono ?_
            rintro e w5 ⟨rfl, b5⟩
            have HB5 := hide (belows' (unhide HB3) b5)
            clear b5 HEQ
            rw [← unhide HF]
            go_wp2
            go_ret
            exact ⟨rfl, unhide HB5⟩
          · have q3 : ((hi : Int) == (ox : Int)) = false := by simp; omega
            have E3 := hide e3
            clear e3
            have HF : Hid (R = false) := hide (by rw [unhide HRE]; simp [unhide E0, unhide E1, unhide E2, unhide E3])
            clear HRE
            go_wp2
            go_ret
            exact ⟨by rw [unhide HF]; rfl, unhide HB3⟩
        · have q2 : ((lo : Int) == (ol : Int)) = false := by simp; omega
          have E2 := hide e2
          clear e2
          have HF : Hid (R = false) := hide (by rw [unhide HRE]; simp [unhide E0, unhide E1, unhide E2])
          clear HRE
          go_wp2
          go_ret
          exact ⟨by rw [unhide HF]; rfl, unhide HB3⟩
      · have q1 : (mn == om) = false := by simp; omega
        have E1 := hide e1
        clear e1
        have HF : Hid (R = false) := hide (by rw [unhide HRE]; simp [unhide E0, unhide E1])
        clear HRE
        go_wp2
        go_ret
        exact ⟨by rw [unhide HF]; rfl, unhide HB3⟩
    · have q0 : ((k : Int) == 0) = false := by simp; omega
      have E0 := hide e0
      clear e0
      have HF : Hid (R = false) := hide (by rw [unhide HRE]; simp [unhide E0])
      clear HRE
      go_wp2
      go_ret
      exact ⟨by rw [unhide HF]; rfl, unhide HB3⟩
end Go.Proofs.YtlolilhlpbpfjaaGreatDoor
