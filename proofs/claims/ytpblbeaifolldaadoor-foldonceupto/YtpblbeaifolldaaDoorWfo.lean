/-
  The walk of missivelaw07.FoldOnce, over this seat's program.
-/
import Derived.Test.YtpblbeaifolldaaDoorApr
import Derived.Test.YtpblbeaifolldaaDoorFlv
set_option linter.unusedVariables false
namespace Go.Proofs.YtpblbeaifolldaaDoor.foldOnce
open Go.RowKit Go.Proofs.Rns Go.Proofs.Fol

theorem isL_one (n : Int) : isL (oneL n) = isL n := by
  unfold isL
  by_cases hb : n < 0 ∨ 8492 ≤ n
  · rw [oneL_big hb]
  · have := oneL_range hb
    rw [decide_eq_true (by omega), decide_eq_true (by omega)]

set_option maxHeartbeats 1000000 in
set_option maxRecDepth 100000 in
theorem walk (a0 : Int) (v1 : Value) (l1 : List Int) (v2 : Value) (l2 : List Int) (w : World) (ht : RTab w) (w0 : (Lit.int .i32 a0).wf = true) (w1 : RowI w v1 l1) (n1 : Neat v1) (w2 : RowI w v2 l2) (n2 : Neat v2) (hsum : l1.length + l2.length ≤ 1048576) :
    Calls Tryd.prog 5 #[.int .i32 a0, v1, v2] w fun e w' => e = .returned (.bool true) ∧ Below w.heap.size w w' := by
  have hr := i32_range w0
  have HL := hide (foldLives_any w ht)
  have HR1 := hide w1
  have HR2 := hide w2
  have HN1 := hide n1
  have HN2 := hide n2
  have HO1 := hide (fun W => one_any a0 W hr)
  have HO2 := hide (fun W => one_any (oneL a0) W (oneL_i32 hr))
  rw [oneL_once] at HO2
  have HI1 := hide (fun W => is_any a0 W)
  have HI2 := hide (fun W => is_any (oneL a0) W)
  rw [isL_one] at HI2
  have e1 : (oneL a0 == oneL a0) = true := by simp
  have e2 : (isL a0 == isL a0) = true := by simp
  generalize oneL a0 = k at HO1 HO2 HI2 e1
  generalize isL a0 = t at HI1 HI2 e2
  clear ht w1 w2 n1 n2 hr w0
  obtain ⟨x1, c1, hx1⟩ := (unhide HR1).len
  obtain ⟨x2, c2, hx2⟩ := (unhide HR2).len
  go_enter Tryd.func5, Tryd.ntmps5
  go_wp2_with fail
  refine (unhide HL).mono ?_
  rintro e u1 ⟨rfl, b1⟩
  go_wp2_with fail
  refine (unhide HO1 _).mono ?_
  rintro e u2 ⟨rfl, rfl⟩
  have HB1 := hide b1
  have HR1a := hide ((unhide HR1).below b1)
  have HR2a := hide ((unhide HR2).below b1)
  clear b1
  obtain ⟨va, wa, hra, hoa, hba, _, hna⟩ := run_append_rowI (u2.alloc (.cells #[] 21)) u2.heap.size _ v1 [] l1 22 (own_empty u2) ((unhide HR1a).below ((Below.refl _ u2).alloc (Nat.le_refl _) _)) (unhide HN1) (by simp; omega) (by simp)
  have hba' : Below u2.heap.size u2 wa := ((Below.refl _ u2).alloc (Nat.le_refl _) _).trans hba
  obtain ⟨vb, wb, hrb, hob, hbb, _, hnb⟩ := run_append_rowI wa u2.heap.size va v2 ([] ++ l1) l2 22 hoa ((unhide HR2a).below hba') (unhide HN2) (by simp; omega) hba'.size
  subst hx1 hx2
  have HFa := hide (fun W (h : RowI W (.slice x1 l1.length c1) l1) => fold_at _ l1 W h (by omega))
  have HFb := hide (fun W (h : RowI W (.slice x2 l2.length c2) l2) => fold_at _ l2 W h (by omega))
  have hbw : Below u2.heap.size u2 wb := hba'.trans hbb
  have HBW := hide hbw
  have HRw := hide (own_rowC hob (by
    intro n hn
    simp only [List.nil_append, List.mem_append] at hn
    rcases hn with hn | hn
    · exact (unhide HR1).range n hn
    · exact (unhide HR2).range n hn))
  obtain ⟨lb, hlb⟩ : ∃ lb, lb = l1 ++ l2 := ⟨_, rfl⟩
  rw [List.nil_append, ← hlb] at HRw
  have hlbl : lb.length ≤ 2097152 := by rw [hlb, List.length_append]; omega
  have HLB := hide hlb
  clear hlb
  have HR1w := hide ((unhide HR1a).below hbw)
  have HR2w := hide ((unhide HR2a).below hbw)
  clear hbw hbb hba hba' hna hnb
  go_wp2_with (at_builtin; first | refine wpList_append_run (by rfl) _ _ 22 rfl rfl rfl rfl hra ?_ | refine wpList_append_run (by rfl) _ _ 22 rfl rfl rfl rfl hrb ?_)
  refine (unhide HFa _ (unhide HR1w)).mono ?_
  rintro e u3 ⟨ad3, rfl, hr3, b3⟩
  have HR3 := hide hr3
  have HR2x := hide ((unhide HR2w).below b3)
  have HRx := hide ((unhide HRw).below b3)
  have HB3 := hide b3
  clear hr3 b3
  go_wp2_with fail
  refine (unhide HFb _ (unhide HR2x)).mono ?_
  rintro e u4 ⟨ad4, rfl, hr4, b4⟩
  have HR4 := hide hr4
  have HR3y := hide ((unhide HR3).below b4)
  have HRy := hide ((unhide HRx).below b4)
  have HB4 := hide b4
  clear hr4 b4
  go_wp2_with fail
  refine (unhide HO2 _).mono ?_
  rintro e u5 ⟨rfl, rfl⟩
  go_wp2_with fail
  refine (unhide HI2 _).mono ?_
  rintro e u5 ⟨rfl, rfl⟩
  go_wp2_with fail
  refine (unhide HI1 _).mono ?_
  rintro e u5 ⟨rfl, rfl⟩
  have HFc := hide (fold_at vb lb u5 (unhide HRy) hlbl)
  go_wp2_with fail
  refine (unhide HFc).mono ?_
  rintro e u6 ⟨ad6, rfl, hr6, b6⟩
  have HR6 := hide hr6
  have HR3z := hide ((unhide HR3y).below b6)
  have HR4z := hide ((unhide HR4).below b6)
  have HB6 := hide b6
  clear hr6 b6 HFc
  clear hra hrb hoa hob
  obtain ⟨va, wa, hra, hoa, hba, _, hna⟩ := run_append_rowI (u6.alloc (.cells #[] 21)) u6.heap.size _ _ [] (l1.map oneL) 22 (own_empty u6) ((unhide HR3z).below ((Below.refl _ u6).alloc (Nat.le_refl _) _)) (neat_some _ _ _) (by simp; omega) (by simp)
  have hba' : Below u6.heap.size u6 wa := ((Below.refl _ u6).alloc (Nat.le_refl _) _).trans hba
  obtain ⟨vb, wb, hrb, hob, hbb, _, hnb⟩ := run_append_rowI wa u6.heap.size va _ ([] ++ l1.map oneL) (l2.map oneL) 22 hoa ((unhide HR4z).below hba') (neat_some _ _ _) (by simp; omega) hba'.size
  have hbw : Below u6.heap.size u6 wb := hba'.trans hbb
  have HRv := hide (own_rowC hob (by
    intro n hn
    simp only [List.nil_append, List.mem_append] at hn
    rcases hn with hn | hn
    · exact (unhide HR3z).range n hn
    · exact (unhide HR4z).range n hn))
  have HSM := hide (same_any _ _ _ _ wb ((unhide HR6).below hbw) (unhide HRv) (by simp; omega))
  rw [show decide (List.map oneL lb = [] ++ List.map oneL l1 ++ List.map oneL l2) = true by rw [unhide HLB]; simp] at HSM
  have HBZ := hide hbw
  clear hbw hbb hba hba' hna hnb hoa hob
  go_wp2_with (at_builtin; first | refine wpList_append_run (by rfl) _ _ 22 rfl rfl rfl rfl hra ?_ | refine wpList_append_run (by rfl) _ _ 22 rfl rfl rfl rfl hrb ?_)
  refine (unhide HSM).mono ?_
  rintro e u7 ⟨rfl, b7⟩
  go_wp2
  go_ret
  exact ⟨rfl, belows' (belows' (belows' (belows' (belows' (belows' (unhide HB1) (unhide HBW)) (unhide HB3)) (unhide HB4)) (unhide HB6)) (unhide HBZ)) b7⟩

end Go.Proofs.YtpblbeaifolldaaDoor.foldOnce
