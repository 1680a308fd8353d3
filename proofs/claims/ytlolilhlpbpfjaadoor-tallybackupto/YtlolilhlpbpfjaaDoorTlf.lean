/-
  What tally.isOfAll tells, over this seat's program.
-/
import Derived.Test.YtlolilhlpbpfjaaDoorTle
set_option linter.unusedVariables false
set_option linter.unusedSimpArgs false
namespace Go.Proofs.YtlolilhlpbpfjaaDoor
open Go.RowKit Go.Proofs.Nst

set_option maxHeartbeats 8000000 in
set_option maxRecDepth 100000 in
theorem isOfAll_any (t : Tly) (v : Value) (w : World) (hf : FitT t) (h : RowSp w v t.all) (hl : t.all.length ≤ 1048576) :
    Calls Tryd.prog 43 #[tlV t v] w fun e w' => e = .returned (.bool (ofAll t)) ∧ Below w.heap.size w w' := by
  obtain ⟨wt, mn, lo, hi, al⟩ := t
  obtain ⟨f1, _, f2, f3⟩ := hf
  simp only at f1 f2 f3 h hl
  have HA := hide (show Below w.heap.size w (w.alloc (.cells #[.int .u8 (wt : Int), .int .i64 mn, .int .u32 (lo : Int), .int .u32 (hi : Int), v] 27)) from (Below.refl _ w).alloc (Nat.le_refl _) _)
  have HK := hide (Blk.new w 27 #[.int .u8 (wt : Int), .int .i64 mn, .int .u32 (lo : Int), .int .u32 (hi : Int), v])
  have HV := hide h
  have HFIT : Hid (∀ x ∈ al, FitS x) := hide (by obtain ⟨_, _, _, _, hfit, _⟩ := id h; exact hfit)
  have HNU := hide (numbersOf_any v al _ (h.below (unhide HA)) hl)
  obtain ⟨R, hR⟩ : ∃ R, ofAll ⟨wt, mn, lo, hi, al⟩ = R := ⟨_, rfl⟩
  rw [hR]
  have HR := hide hR
  clear hR
  simp only [tlV, tlC]

  clear h
  go_enter Tryd.func43, Tryd.ntmps43
  go_wp2_with fail
  refine (unhide HNU).mono ?_
  rintro e w1 ⟨vn, rfl, hns, b1⟩
  have HB1 := hide (belows' (unhide HA) b1)
  have HK1 := hide ((unhide HK).below b1)
  clear HNU HK
  obtain ⟨N, hN⟩ : ∃ N, numsF [] al = N := ⟨_, rfl⟩
  rw [hN] at hns ⊢
  cases N with
  | none =>
    have HF : Hid (R = false) := hide (by rw [← unhide HR]; unfold ofAll; simp only [hN])
    clear hns hN HR b1 HA
    go_wp2
    go_ret
    exact ⟨by rw [unhide HF]; rfl, unhide HB1⟩
  | some ns =>
    obtain ⟨hon, hnl⟩ := hns ns rfl
    have hnf : ∀ n ∈ ns, n ≤ 4294967295 := numsF_fit al [] ns (unhide HFIT) (by simp) hN
    have HRN : Hid (RowN w1 vn ns) := hide (rowG_of_own cellsN_len hon (by omega) hnf)
    have HOF := hide (of_any wt vn ns w1 (unhide HRN) (by omega) f1)
    obtain ⟨o, ho⟩ : ∃ o, ofR wt ns = o := ⟨_, rfl⟩
    rw [ho] at HOF
    obtain ⟨⟨ow, om, ol, ox, oa⟩, k⟩ := o
    have HRE : Hid (R = (decide (k = 0) && (decide (mn = om) && (decide (lo = ol) && (decide (hi = ox) && decide (al = oa)))))) := hide (by rw [← unhide HR]; unfold ofAll; simp only [hN, ho])
    have HV1 := hide ((unhide HV).below (unhide HB1))
    clear hns hN HR hon hnl hnf ho HV HFIT HRN b1 HA
    have c0 := (unhide HK1).cell 0
    have c1 := (unhide HK1).cell 1
    have c2 := (unhide HK1).cell 2
    have c3 := (unhide HK1).cell 3
    have c4 := (unhide HK1).cell 4
    simp only [tlC, List.getElem?_toArray, List.getElem?_cons_succ, List.getElem?_cons_zero] at c0 c1 c2 c3 c4
    go_wp2_with fail
    refine (unhide HOF).mono ?_
    rintro e w2 ⟨vo, rfl, hro, b2⟩
    obtain ⟨ao, co, rfl, _⟩ := id hro
    simp only [tlV, tlC] at hro ⊢
    obtain ⟨on, hon⟩ : ∃ on, on = oa.length := ⟨_, rfl⟩
    rw [← hon] at hro ⊢
    clear hon
    have HB2 := hide (belows' (unhide HB1) b2)
    have HK2 := hide ((unhide HK1).below b2)
    have HV2 := hide ((unhide HV1).below b2)
    have HRO := hide hro
    have hb3 := Below.alloc (Below.refl _ w2) (Nat.le_refl _) (.cells #[.int .u8 (ow : Int), .int .i64 om, .int .u32 (ol : Int), .int .u32 (ox : Int), (.slice ao on co)] 27)
    have HB3 := hide (belows' (unhide HB2) hb3)
    have HK3 := hide ((unhide HK2).below hb3)
    have HK4 := hide (Blk.new w2 27 #[.int .u8 (ow : Int), .int .i64 om, .int .u32 (ol : Int), .int .u32 (ox : Int), (.slice ao on co)])
    have HEQ := hide (equalS_any v (.slice ao on co) al oa _ ((unhide HV2).below hb3) (RowSp.below (unhide HRO) hb3))
    clear hro b2 HB1 HK1 HV1 HOF hb3 HB2 HK2 HV2 HRO c0 c1 c2 c3 c4
    go_upto_region 5 with (fail)
    generalize w2.alloc (.cells #[.int .u8 (ow : Int), .int .i64 om, .int .u32 (ol : Int), .int .u32 (ox : Int), (.slice ao on co)] 27) = W at HB3 HK3 HK4 HEQ ⊢
    generalize w2.heap.size = C at HK4 ⊢
    have c0 := (unhide HK3).cell 0
    have c1 := (unhide HK3).cell 1
    have c2 := (unhide HK3).cell 2
    have c3 := (unhide HK3).cell 3
    have c4 := (unhide HK3).cell 4
    simp only [tlC, List.getElem?_toArray, List.getElem?_cons_succ, List.getElem?_cons_zero] at c0 c1 c2 c3 c4
    have d0 := (unhide HK4).cell 0
    have d1 := (unhide HK4).cell 1
    have d2 := (unhide HK4).cell 2
    have d3 := (unhide HK4).cell 3
    have d4 := (unhide HK4).cell 4
    simp only [tlC, List.getElem?_toArray, List.getElem?_cons_succ, List.getElem?_cons_zero] at d0 d1 d2 d3 d4
    by_cases e0 : k = 0
    · have q0 : ((k : Int) == 0) = true := by simp [e0]
      have E0 := hide e0
      clear e0
      by_cases e1 : mn = om
      · have q1 : (mn == om) = true := by simp [e1]
        have E1 := hide e1
        clear e1
        by_cases e2 : lo = ol
        · have q2 : ((lo : Int) == (ol : Int)) = true := by simp [e2]
          have E2 := hide e2
          clear e2
          by_cases e3 : hi = ox
          · have q3 : ((hi : Int) == (ox : Int)) = true := by simp [e3]
            have E3 := hide e3
            clear e3
            have HF : Hid (R = decide (al = oa)) := hide (by rw [unhide HRE]; simp [unhide E0, unhide E1, unhide E2, unhide E3])
            clear HRE
            go_wp2_with fail
            refine (unhide HEQ).mono ?_
            rintro e w5 ⟨rfl, b5⟩
            have HB5 := hide (belows' (unhide HB3) b5)
            clear b5 HEQ
            rw [← unhide HF]
            go_wp2
            go_ret
            exact ⟨rfl, unhide HB5⟩
          · have q3 : ((hi : Int) == (ox : Int)) = false := by simp; omega
            have E3 := hide e3
            clear e3
            have HF : Hid (R = false) := hide (by rw [unhide HRE]; simp [unhide E0, unhide E1, unhide E2, unhide E3])
            clear HRE
            go_wp2
            go_ret
            exact ⟨by rw [unhide HF]; rfl, unhide HB3⟩
        · have q2 : ((lo : Int) == (ol : Int)) = false := by simp; omega
          have E2 := hide e2
          clear e2
          have HF : Hid (R = false) := hide (by rw [unhide HRE]; simp [unhide E0, unhide E1, unhide E2])
          clear HRE
          go_wp2
          go_ret
          exact ⟨by rw [unhide HF]; rfl, unhide HB3⟩
      · have q1 : (mn == om) = false := by simp; omega
        have E1 := hide e1
        clear e1
        have HF : Hid (R = false) := hide (by rw [unhide HRE]; simp [unhide E0, unhide E1])
        clear HRE
        go_wp2
        go_ret
        exact ⟨by rw [unhide HF]; rfl, unhide HB3⟩
    · have q0 : ((k : Int) == 0) = false := by simp; omega
      have E0 := hide e0
      clear e0
      have HF : Hid (R = false) := hide (by rw [unhide HRE]; simp [unhide E0])
      clear HRE
      go_wp2
      go_ret
      exact ⟨by rw [unhide HF]; rfl, unhide HB3⟩
end Go.Proofs.YtlolilhlpbpfjaaDoor
