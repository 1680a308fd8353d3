/-
  The walk of missivelaw13.PostSets, over this seat's program.
-/
import Derived.Test.YtghgpgeopdhcnaaPlv
set_option linter.unusedVariables false
namespace Go.Proofs.Ytghgpgeopdhcnaa
open Go.RowKit Go.Proofs.Num Go.Proofs.Dct Go.Proofs.Pst

theorem union_two (a b : List Nat) : unionF 3 [a, b] = (mergeL a b).take 65537 := by
  have h1 : ∀ x : List Nat, unionF 2 [x] = x := fun x => by rw [unionF, if_neg (by simp), if_pos (by simp)]; rfl
  rw [unionF, if_neg (by simp), if_neg (by simp), show [a, b].take ([a, b].length / 2) = [a] by simp, show [a, b].drop ([a, b].length / 2) = [b] by simp, h1, h1]
theorem or_two {a b : List Nat} (h : chkAll [a, b] = 0) : orR [a, b] = if 65536 < (mergeL a b).length then ([], 15) else (mergeL a b, 0) := by
  unfold orR
  rw [if_neg (by simpa using h), show [a, b].length + 1 = 3 from rfl, union_two, List.length_take]
  by_cases hb : 65536 < (mergeL a b).length
  · rw [if_pos (by omega), if_pos hb]
  · rw [if_neg (by omega), if_neg hb, List.take_of_length_le (by omega)]
theorem and_two {a b : List Nat} (h : chkAll [a, b] = 0) : andR [a, b] = (pickL a b true, 0) := by
  unfold andR
  rw [if_neg (by simpa using h)]
  rfl
theorem without_two {a b : List Nat} (h : chkAll [a, b] = 0) : withoutR a b = (pickL a b false, 0) := by
  unfold withoutR
  rw [if_neg (by simpa using h)]
theorem nat_of_u32 {key : Int} (hw : (Lit.int .u32 key).wf = true) : ∃ k : Nat, key = (k : Int) ∧ k ≤ 4294967295 := by
  simp only [Lit.wf, Bool.and_eq_true, decide_eq_true_eq] at hw
  have h1 : IntKind.u32.min = 0 := by decide
  have h2 : IntKind.u32.max = 4294967295 := by decide
  exact ⟨key.toNat, by omega, by omega⟩

set_option maxHeartbeats 4000000 in
set_option maxRecDepth 100000 in
theorem postSets_walk (va vb : Value) (a b : List Nat) (n : Int) (w : World) (ha : Row32 w va a) (hb : Row32 w vb b) (hw : (Lit.int .u32 n).wf = true) :
    Calls Try.prog 4 #[va, vb, .int .u32 n] w fun e w' => e = .returned (.bool true) ∧ Below w.heap.size w w' := by
  obtain ⟨k, rfl, hk⟩ := nat_of_u32 hw
  have HL := hide (lists_any w)
  have HRA := hide ha
  have HRB := hide hb
  obtain ⟨aa, ca, hva, hla, _⟩ := ha
  obtain ⟨ab, cb, hvb, hlb, _⟩ := hb
  subst hva hvb
  obtain ⟨LA, hLA⟩ : ∃ LA, LA = a.length := ⟨_, rfl⟩
  obtain ⟨LB, hLB⟩ : ∃ LB, LB = b.length := ⟨_, rfl⟩
  rw [← hLA] at HRA hla ⊢
  rw [← hLB] at HRB hlb ⊢
  have HLL := hide (And.intro hLA hLB)
  clear hw hLA hLB
  have HAND := hide (fun W (r0 : Row32 W (.slice aa LA ca) a) (r1 : Row32 W (.slice ab LB cb) b) => and_any _ [a, b] _ (rowRR_two r0 r1) (neat_some _ (Nat.le_refl _)))
  have HOR := hide (fun W (r0 : Row32 W (.slice aa LA ca) a) (r1 : Row32 W (.slice ab LB cb) b) => or_any _ [a, b] _ (rowRR_two r0 r1) (neat_some _ (Nat.le_refl _)))
  have HWO := hide (fun W (r0 : Row32 W (.slice aa LA ca) a) (r1 : Row32 W (.slice ab LB cb) b) => without_any _ _ a b W r0 r1)
  go_enter Try.func4, Try.ntmps4
  go_wp2_with fail
  refine (unhide HL).mono ?_
  rintro e W0 ⟨rfl, hb0⟩
  have HB0 := hide hb0
  have HA0 := hide ((unhide HRA).below hb0)
  have HC0 := hide ((unhide HRB).below hb0)
  have H1 := hide (unhide HAND W0 (unhide HA0) (unhide HC0))
  clear HL hb0 HRA HRB HAND
  go_wp2_with fail
  refine (unhide H1).mono ?_
  rintro e W1 ⟨v1, rfl, r1, hb1⟩
  have hbb := belows' (below_alloc W0 (.cells #[.slice aa LA ca, .slice ab LB cb] 23)) hb1
  have HB1 := hide (belows' (unhide HB0) hbb)
  have HA1 := hide ((unhide HA0).below hbb)
  have HC1 := hide ((unhide HC0).below hbb)
  have HX1 := hide r1
  obtain ⟨a1, c1, hv1, _⟩ := r1
  subst hv1
  have H2 := hide (unhide HOR W1 (unhide HA1) (unhide HC1))
  clear hb1 hbb H1 HB0 HA0 HC0 HOR
  go_wp2_with fail
  refine (unhide H2).mono ?_
  rintro e W2 ⟨v2, rfl, r2, hb2⟩
  have hbb := belows' (below_alloc W1 (.cells #[.slice aa LA ca, .slice ab LB cb] 23)) hb2
  have HB2 := hide (belows' (unhide HB1) hbb)
  have HA2 := hide ((unhide HA1).below hbb)
  have HC2 := hide ((unhide HC1).below hbb)
  have HX2 := hide ((unhide HX1).below hbb)
  have HY2 := hide r2
  obtain ⟨a2, c2, hv2, _⟩ := r2
  subst hv2
  have H3 := hide (unhide HWO W2 (unhide HA2) (unhide HC2))
  clear hb2 hbb H2 HB1 HA1 HC1 HX1 HWO
  go_wp2_with fail
  refine (unhide H3).mono ?_
  rintro e W3 ⟨v3, rfl, r3, hb3⟩
  have HB3 := hide (belows' (unhide HB2) hb3)
  have HA3 := hide ((unhide HA2).below hb3)
  have HC3 := hide ((unhide HC2).below hb3)
  have HX3 := hide ((unhide HX2).below hb3)
  have HY3 := hide ((unhide HY2).below hb3)
  have HZ3 := hide r3
  obtain ⟨a3, c3, hv3, _⟩ := r3
  subst hv3
  clear hb3 H3 HB2 HA2 HC2 HX2 HY2
  by_cases h0 : chkAll [a, b] = 0
  · have hok := chkAll_ok h0
    have hoa := hok a (by simp)
    have hob := hok b (by simp)
    have hmr := merge_rises a b 0 hoa.1 hob.1
    have hmc := merge_count a b 0 hoa.1 hob.1
    have hps := pick_sum a b
    rw [and_two h0] at HX3 ⊢
    rw [without_two h0] at HZ3 ⊢
    rw [or_two h0] at HY3 ⊢
    simp only at HX3 HZ3 ⊢
    by_cases hbig : 65536 < (mergeL a b).length
    · rw [if_pos hbig] at HY3 ⊢
      simp only at HY3 ⊢
      clear hok hoa hob hmr hmc hps HX3 HY3 HZ3 HA3 HC3 hbig h0
      generalize (pickL a b true).length = LX at *
      generalize (pickL a b false).length = LZ at *
      go_wp2
      go_ret
      exact ⟨by simp, unhide HB3⟩
    · rw [if_neg hbig] at HY3 ⊢
      simp only at HY3 ⊢
      have hx : decide (k ∈ pickL a b true) = (decide (k ∈ a) && decide (k ∈ b)) := by
        by_cases h1 : k ∈ a <;> by_cases h2 : k ∈ b <;> simp [pick_mem, h1, h2]
      have hz : decide (k ∈ pickL a b false) = (decide (k ∈ a) && !decide (k ∈ b)) := by
        by_cases h1 : k ∈ a <;> by_cases h2 : k ∈ b <;> simp [pick_mem, h1, h2]
      have hy : decide (k ∈ mergeL a b) = (decide (k ∈ a) || decide (k ∈ b)) := by
        by_cases h1 : k ∈ a <;> by_cases h2 : k ∈ b <;> simp [merge_mem, h1, h2]
      have hck : chk (mergeL a b) = 0 := by unfold chk; rw [if_pos hmr, if_pos (by omega)]
      have HIA := hide (fun W (r : Row32 W _ a) => in_any (.slice aa LA ca) a k W r hk)
      have HIB := hide (fun W (r : Row32 W _ b) => in_any (.slice ab LB cb) b k W r hk)
      have HIX := hide (in_any _ _ k W3 (unhide HX3) hk)
      have HIY := hide (in_any _ _ k W3 (unhide HY3) hk)
      have HIZ := hide (in_any _ _ k W3 (unhide HZ3) hk)
      have HK := hide (check_any _ _ W3 (unhide HY3))
      have HIA3 := hide (unhide HIA W3 (unhide HA3))
      have HIB3 := hide (unhide HIB W3 (unhide HC3))
      rw [hx] at HIX
      rw [hy] at HIY
      rw [hz] at HIZ
      rw [hck] at HK
      have hl1 : (pickL a b true).length + (pickL a b false).length = LA := by rw [hps, (unhide HLL).1]
      have hl2 : (mergeL a b).length = (pickL a b false).length + LB := by rw [hmc, (unhide HLL).2]
      have hl3 : LA ≤ 65536 := by rw [(unhide HLL).1]; exact hoa.2
      have hl4 : LB ≤ 65536 := by rw [(unhide HLL).2]; exact hob.2
      clear hok hoa hob hmr hmc hps HX3 HY3 HZ3 HA3 HC3 hbig h0 hx hy hz hck HIA HIB HLL
      generalize (pickL a b true).length = LX at *
      generalize (pickL a b false).length = LZ at *
      generalize (mergeL a b).length = LY at *
      have hs1 : ((LX : Int) + (LZ : Int) == (LA : Int)) = true := by simp; omega
      have hs2 : ((LY : Int) - (LZ : Int) == (LB : Int)) = true := by simp; omega
      have hs3 : (LX : Int) + (LZ : Int) ≤ 65536 := by omega
      have hs4 : (0 : Int) ≤ (LY : Int) - (LZ : Int) := by omega
      have hs5 : (LY : Int) - (LZ : Int) ≤ 65536 := by omega
      clear hl1 hl2
      generalize decide (k ∈ a) = P at *
      generalize decide (k ∈ b) = Q at *
      cases P <;> cases Q
      all_goals
        simp only [Bool.and_true, Bool.and_false, Bool.or_true, Bool.or_false, Bool.not_true, Bool.not_false] at HIX HIY HIZ
        go_wp2_with fail
        refine (unhide HIA3).mono ?_
        rintro e _ ⟨rfl, rfl⟩
        go_wp2_with fail
        refine (unhide HIB3).mono ?_
        rintro e _ ⟨rfl, rfl⟩
        go_wp2_with fail
        refine (unhide HIX).mono ?_
        rintro e _ ⟨rfl, rfl⟩
        go_wp2_with fail
        refine (unhide HIY).mono ?_
        rintro e _ ⟨rfl, rfl⟩
        go_wp2_with fail
        refine (unhide HIZ).mono ?_
        rintro e _ ⟨rfl, rfl⟩
        go_wp2_with fail
        refine (unhide HK).mono ?_
        rintro e _ ⟨rfl, q, rfl⟩
        go_wp2
        go_ret
        exact ⟨by simp, below_drewN (unhide HB3) q⟩
  · have e1 : andR [a, b] = ([], chkAll [a, b]) := by unfold andR; rw [if_pos h0]
    have e2 : orR [a, b] = ([], chkAll [a, b]) := by unfold orR; rw [if_pos h0]
    have e3 : withoutR a b = ([], chkAll [a, b]) := by unfold withoutR; rw [if_pos h0]
    rw [e1, e2, e3]
    have hne : ((chkAll [a, b] : Int) == 0) = false := by simp; omega
    clear HX3 HY3 HZ3 HA3 HC3 e1 e2 e3
    generalize chkAll [a, b] = C at *
    simp only [List.length_nil]
    go_wp2
    go_ret
    exact ⟨by simp, unhide HB3⟩
end Go.Proofs.Ytghgpgeopdhcnaa
