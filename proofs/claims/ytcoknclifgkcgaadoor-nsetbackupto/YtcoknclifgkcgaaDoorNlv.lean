/-
  What missivelaw03.lives does, over this seat's program.
-/
import Derived.Test.YtcoknclifgkcgaaDoorNsm
import Derived.Test.YtcoknclifgkcgaaDoorNwp
set_option linter.unusedVariables false
namespace Go.Proofs.YtcoknclifgkcgaaDoor
open Go.RowKit Go.Proofs.Nst

theorem rowG_lit {α : Type} {c : α → List Value} {Fit : α → Prop} (w : World) (t : TypeId) (l : List α) (cs : Array Value) (hcs : flatG c l = cs.toList) (hl : l.length ≤ 9223372036854775807) (hf : ∀ x ∈ l, Fit x) (n : Nat) (hn : n = l.length) :
    RowG c Fit (w.alloc (.cells cs t)) (.slice (some ⟨w.heap.size, 0, none⟩) n n) l := by
  subst hn
  refine ⟨_, _, rfl, hl, hf, Or.inr ⟨w.heap.size, 0, rfl, by simp, fun j u hj => ?_⟩⟩
  rw [Nat.zero_add, Blk.cell (Blk.new w t cs)]
  rw [hcs] at hj
  simpa using hj
theorem fit_n {l : List Nat} (h : l.all (fun x => decide (x ≤ 4294967295)) = true) : ∀ x ∈ l, x ≤ 4294967295 := by
  intro x hx
  have := List.all_eq_true.1 h x hx
  exact of_decide_eq_true this
theorem fit_s {l : List Sp} (h : l.all (fun x => decide (x.1 ≤ 4294967295 ∧ x.2 ≤ 4294967295)) = true) : ∀ x ∈ l, FitS x := by
  intro x hx
  have := List.all_eq_true.1 h x hx
  exact of_decide_eq_true (p := x.1 ≤ 4294967295 ∧ x.2 ≤ 4294967295) this
def q1 : List Sp := [(3, 1), (7, 7), (0, 0)]
def q2 : List Sp := [(1, 3), (7, 7)]
def t1 : ByteArray := ⟨#[51, 58, 49, 44, 55, 44, 42]⟩
theorem parse_q1 : parseP t1.data.toList = (q1, 0) := by decide +kernel
theorem parse_q0 : parseP (⟨#[48]⟩ : ByteArray).data.toList = ([], 7) := by decide +kernel
theorem write_q1 : writeR q1 = ([51, 58, 49, 44, 55, 44, 42], 0) := by decide +kernel
theorem sort_q1 : sortR 2 q1 = (q2, 0) := by
  unfold sortR
  rw [if_pos (by decide), ← apartS_sorted (r := [(1, 3), (2, 2), (7, 7)]) (by decide) (by decide)]
  decide
theorem count_q1 : countR 9 q1 = (5, 0) := by
  unfold countR
  rw [if_pos (by decide), ← apartS_sorted (r := [(1, 3), (7, 7), (9, 9)]) (by decide) (by decide)]
  decide
theorem pack_q2 : packR [1, 2, 3, 7] = (q2, 0) := by decide +kernel
theorem pack_22 : packR [2, 2] = ([], 12) := by decide +kernel
theorem only_q1 : [9, 4, 2].filter (fun n => hasS 9 n q1) = [9, 2] := by decide +kernel
theorem has_q9 : hasS 9 9 q1 = true := by decide +kernel
theorem has_q4 : hasS 9 4 q1 = false := by decide +kernel
theorem fit_q1 : ∀ x ∈ q1, FitS x := fit_s (by decide)
theorem fit_q2 : ∀ x ∈ q2, FitS x := fit_s (by decide)
theorem fmt_q1 (w : World) : ∀ x ∈ q1, (x.1 ≠ 0 → FmtN w x.1) ∧ (x.2 ≠ 0 → FmtN w x.2) := by
  intro x hx
  have : x.1 < 100 ∧ x.2 < 100 := by
    have h : q1.all (fun x => decide (x.1 < 100 ∧ x.2 < 100)) = true := by decide
    exact of_decide_eq_true (List.all_eq_true.1 h x hx)
  exact ⟨fun _ => fmt_small w _ this.1, fun _ => fmt_small w _ this.2⟩

set_option maxHeartbeats 4000000 in
set_option maxRecDepth 100000 in
theorem lives_any (w : World) (hE : ErrN w) : Calls Tryd.prog 9 #[] w fun e w' => e = .returned (.bool true) ∧ Below w.heap.size w w' := by
  have HP := hide (nparse_any t1 w hE (by decide))
  rw [parse_q1] at HP
  have HE := hide hE
  clear hE
  go_enter Tryd.func9, Tryd.ntmps9
  go_wp2_with fail
  refine (unhide HP).mono ?_
  rintro e W1 ⟨v1, rfl, ho, hb⟩
  have HE1 := hide ((unhide HE).below hb)
  have HR1 := hide (rowG_of_own (Fit := FitS) cellsS_len ho (by decide) fit_q1)
  have HB1 := hide hb
  obtain ⟨a1, c1, hv1, _⟩ := unhide HR1
  subst hv1
  clear ho hb HP HE
  have HW := hide (nwrite_any _ q1 W1 (unhide HR1) (fmt_q1 W1))
  rw [write_q1] at HW
  go_wp2_with fail
  refine (unhide HW).mono ?_
  rintro e W2 ⟨rfl, hb⟩
  have HE2 := hide ((unhide HE1).below hb)
  have HR2 := hide (RowSp.below (unhide HR1) hb)
  have HB2 := hide (belows' (unhide HB1) hb)
  clear hb HW HE1 HR1 HB1
  have HS := hide (nsort_any _ q1 2 W2 (unhide HR2) (by decide))
  rw [sort_q1] at HS
  go_wp2_with fail
  refine (unhide HS).mono ?_
  rintro e W3 ⟨v3, rfl, ho, hb⟩
  have HE3 := hide ((unhide HE2).below hb)
  have HR3 := hide (RowSp.below (unhide HR2) hb)
  have HB3 := hide (belows' (unhide HB2) hb)
  have HM3 := hide (rowG_of_own (Fit := FitS) cellsS_len ho (by decide) fit_q2)
  obtain ⟨a3, c3, hv3, _⟩ := unhide HM3
  subst hv3
  clear ho hb HS HE2 HR2 HB2
  have HC := hide (ncount_any _ q1 9 W3 (unhide HR3) (by decide))
  rw [count_q1] at HC
  go_wp2_with fail
  refine (unhide HC).mono ?_
  rintro e W4 ⟨rfl, hb⟩
  have HE4 := hide ((unhide HE3).below hb)
  have HR4 := hide (RowSp.below (unhide HR3) hb)
  have HB4 := hide (belows' (unhide HB3) hb)
  have HM4 := hide (RowSp.below (unhide HM3) hb)
  clear hb HC HE3 HR3 HB3 HM3
  have HA := hide (below_alloc0 W4 (.cells #[.int .u32 1, .int .u32 2, .int .u32 3, .int .u32 7] 23))
  have HK := hide (npack_any _ [1, 2, 3, 7] _ (rowG_lit W4 23 [1, 2, 3, 7] #[.int .u32 1, .int .u32 2, .int .u32 3, .int .u32 7] rfl (by decide) (fit_n (by decide)) 4 rfl) (by decide))
  rw [pack_q2] at HK
  go_wp2_with fail
  refine (unhide HK).mono ?_
  rintro e W5 ⟨v5, rfl, ho, hb⟩
  have hb' := belows' (unhide HA) hb
  have HP5 := hide (rowG_of_own (Fit := FitS) cellsS_len ho (by decide) fit_q2)
  have HE5 := hide ((unhide HE4).below hb')
  have HR5 := hide (RowSp.below (unhide HR4) hb')
  have HB5 := hide (belows' (unhide HB4) hb')
  have HM5 := hide (RowSp.below (unhide HM4) hb')
  obtain ⟨a5, c5, hv5, _⟩ := unhide HP5
  subst hv5
  clear ho hb hb' HA HK HE4 HR4 HB4 HM4
  have HP := hide (nparse_any ⟨#[48]⟩ W5 (unhide HE5) (by decide))
  rw [parse_q0] at HP
  go_wp2_with fail
  refine (unhide HP).mono ?_
  rintro e W6 ⟨v6, rfl, ho, hb⟩
  obtain ⟨a6, c6, hv6, _⟩ := rowG_of_own (Fit := FitS) cellsS_len ho (by decide) (by simp)
  subst hv6
  have HR6 := hide (RowSp.below (unhide HR5) hb)
  have HB6 := hide (belows' (unhide HB5) hb)
  have HM6 := hide (RowSp.below (unhide HM5) hb)
  have HP6 := hide (RowSp.below (unhide HP5) hb)
  clear ho hb HP HE5 HR5 HB5 HM5 HP5
  have HA := hide (below_alloc0 W6 (.cells #[.int .u32 2, .int .u32 2] 23))
  have HK := hide (npack_any _ [2, 2] _ (rowG_lit W6 23 [2, 2] #[.int .u32 2, .int .u32 2] rfl (by decide) (fit_n (by decide)) 2 rfl) (by decide))
  rw [pack_22] at HK
  go_wp2_with fail
  refine (unhide HK).mono ?_
  rintro e W7 ⟨v7, rfl, ho, hb⟩
  have hb' := belows' (unhide HA) hb
  obtain ⟨a7, c7, hv7, _⟩ := rowG_of_own (Fit := FitS) cellsS_len ho (by decide) (by simp)
  subst hv7
  have HR7 := hide (RowSp.below (unhide HR6) hb')
  have HB7 := hide (belows' (unhide HB6) hb')
  have HM7 := hide (RowSp.below (unhide HM6) hb')
  have HP7 := hide (RowSp.below (unhide HP6) hb')
  clear ho hb hb' HA HK HR6 HB6 HM6 HP6
  have HA := hide (below_alloc0 W7 (.cells #[.int .u32 9, .int .u32 4, .int .u32 2] 23))
  have HO := hide (only_any _ _ q1 [9, 4, 2] 9 _ (RowSp.below (unhide HR7) (unhide HA)) (rowG_lit W7 23 [9, 4, 2] #[.int .u32 9, .int .u32 4, .int .u32 2] rfl (by decide) (fit_n (by decide)) 3 rfl) (by decide) (by decide) (by decide))
  rw [only_q1] at HO
  go_wp2_with fail
  refine (unhide HO).mono ?_
  rintro e W8 ⟨v8, rfl, ho, hb⟩
  have hb' := belows' (unhide HA) hb
  have HK8 := hide (rowG_of_own (Fit := fun n => n ≤ 4294967295) cellsN_len ho (by decide) (fit_n (by decide)))
  obtain ⟨a8, c8, hv8, _⟩ := unhide HK8
  subst hv8
  have HR8 := hide (RowSp.below (unhide HR7) hb')
  have HB8 := hide (belows' (unhide HB7) hb')
  have HM8 := hide (RowSp.below (unhide HM7) hb')
  have HP8 := hide (RowSp.below (unhide HP7) hb')
  clear ho hb hb' HA HO HR7 HB7 HM7 HP7
  have HA := hide (below_alloc0 W8 (.cells #[.int .u32 3, .int .u32 1, .int .u32 7, .int .u32 7, .int .u32 0, .int .u32 0] 44))
  have HS := hide (sameSp_any _ _ q1 q1 _ (RowSp.below (unhide HR8) (unhide HA)) (rowG_lit W8 44 q1 #[.int .u32 3, .int .u32 1, .int .u32 7, .int .u32 7, .int .u32 0, .int .u32 0] rfl (by decide) fit_q1 3 rfl))
  rw [decide_eq_true rfl] at HS
  go_wp2_with fail
  refine (unhide HS).mono ?_
  rintro e W9 ⟨rfl, hb⟩
  have hb' := belows' (unhide HA) hb
  have HR9 := hide (RowSp.below (unhide HR8) hb')
  have HB9 := hide (belows' (unhide HB8) hb')
  have HM9 := hide (RowSp.below (unhide HM8) hb')
  have HP9 := hide (RowSp.below (unhide HP8) hb')
  have HK9 := hide (RowN.below (unhide HK8) hb')
  clear hb hb' HA HS HR8 HB8 HM8 HP8 HK8
  have HA := hide (below_alloc0 W9 (.cells #[.int .u32 1, .int .u32 3, .int .u32 7, .int .u32 7] 44))
  have HS := hide (sameSp_any _ _ q2 q2 _ (RowSp.below (unhide HM9) (unhide HA)) (rowG_lit W9 44 q2 #[.int .u32 1, .int .u32 3, .int .u32 7, .int .u32 7] rfl (by decide) fit_q2 2 rfl))
  rw [decide_eq_true rfl] at HS
  go_wp2_with fail
  refine (unhide HS).mono ?_
  rintro e W10 ⟨rfl, hb⟩
  have hb' := belows' (unhide HA) hb
  have HR10 := hide (RowSp.below (unhide HR9) hb')
  have HB10 := hide (belows' (unhide HB9) hb')
  have HP10 := hide (RowSp.below (unhide HP9) hb')
  have HK10 := hide (RowN.below (unhide HK9) hb')
  clear hb hb' HA HS HR9 HB9 HP9 HK9
  have HA := hide (below_alloc0 W10 (.cells #[.int .u32 1, .int .u32 3, .int .u32 7, .int .u32 7] 44))
  have HS := hide (sameSp_any _ _ q2 q2 _ (RowSp.below (unhide HP10) (unhide HA)) (rowG_lit W10 44 q2 #[.int .u32 1, .int .u32 3, .int .u32 7, .int .u32 7] rfl (by decide) fit_q2 2 rfl))
  rw [decide_eq_true rfl] at HS
  go_wp2_with fail
  refine (unhide HS).mono ?_
  rintro e W11 ⟨rfl, hb⟩
  have hb' := belows' (unhide HA) hb
  have HR11 := hide (RowSp.below (unhide HR10) hb')
  have HB11 := hide (belows' (unhide HB10) hb')
  have HP11 := hide (RowSp.below (unhide HP10) hb')
  have HK11 := hide (RowN.below (unhide HK10) hb')
  clear hb hb' HA HS HR10 HB10 HP10 HK10
  have HA := hide (below_alloc0 W11 (.cells #[.int .u32 9, .int .u32 2] 23))
  have HS := hide (sameN_any _ _ [9, 2] [9, 2] _ (RowN.below (unhide HK11) (unhide HA)) (rowG_lit W11 23 [9, 2] #[.int .u32 9, .int .u32 2] rfl (by decide) (fit_n (by decide)) 2 rfl))
  rw [decide_eq_true rfl] at HS
  go_wp2_with fail
  refine (unhide HS).mono ?_
  rintro e W12 ⟨rfl, hb⟩
  have hb' := belows' (unhide HA) hb
  have HR12 := hide (RowSp.below (unhide HR11) hb')
  have HB12 := hide (belows' (unhide HB11) hb')
  clear hb hb' HA HS HR11 HB11 HK11 HP11
  have HS := hide (nhas_any _ q1 9 9 _ (unhide HR12))
  rw [has_q9] at HS
  go_wp2_with fail
  refine (unhide HS).mono ?_
  rintro e W13 ⟨rfl, hb⟩
  have HR13 := hide (RowSp.below (unhide HR12) hb)
  have HB13 := hide (belows' (unhide HB12) hb)
  clear hb HS HR12 HB12
  have HS := hide (nhas_any _ q1 9 4 _ (unhide HR13))
  rw [has_q4] at HS
  go_wp2_with fail
  refine (unhide HS).mono ?_
  rintro e W14 ⟨rfl, hb⟩
  have HR14 := hide (RowSp.below (unhide HR13) hb)
  have HB14 := hide (belows' (unhide HB13) hb)
  clear hb HS HR13 HB13
  go_wp2
  go_ret
  exact ⟨by simp, unhide HB14⟩
end Go.Proofs.YtcoknclifgkcgaaDoor
