/-
  What missivelaw03.NsetNumbers does, over this seat's program.
-/
import Derived.Test.YtcoknclifgkcgaaDoorNop
import Derived.Test.YtcoknclifgkcgaaDoorNlv
import Derived.Test.YtcoknclifgkcgaaDoorNrc
set_option linter.unusedVariables false
namespace Go.Proofs.YtcoknclifgkcgaaDoor
open Go.RowKit Go.Proofs.Nst

set_option maxHeartbeats 4000000 in
set_option maxRecDepth 100000 in
theorem nsetNumbers_walk (v : Value) (l : List Sp) (m n : Nat) (vn : Value) (ns : List Nat) (w : World) (hE : ErrN w) (ha : RowSpn w v l) (hn : RowNn w vn ns) (hm : m ≤ 4294967295) (hs : l.length + ns.length ≤ 1048576) :
    Calls Tryd.prog 3 #[v, .int .u32 (m : Int), .int .u32 (n : Int), vn] w fun e w' => e = .returned (.bool true) ∧ Below w.heap.size w w' := by
  obtain ⟨aa, ca, hva, _, hfit, _⟩ := ha.1
  obtain ⟨an, cn, hvn, _, hnfit, _⟩ := hn.1
  have HQ := hide (srtR_of hm hfit)
  have HFL : Hid (∀ x ∈ ns.filter (fun n => hasS m n l), x ≤ 4294967295) := hide (fun x hx => hnfit x (List.mem_filter.1 hx).1)
  have HFN : Hid ((ns.filter (fun n => hasS m n l)).length ≤ 1048576) := hide (by have := List.length_filter_le (fun n => hasS m n l) ns; omega)
  have HA := hide ha.1
  have HN := hide hn.1
  have HE := hide hE
  have HM := hide hm
  have HL1 : Hid (l.length ≤ 1048576) := hide (by omega)
  have HL2 : Hid (ns.length ≤ 1048576) := hide (by omega)
  have HRR := hide (refR_is m l)
  subst hva hvn
  clear ha hn hE hfit hnfit hs hm
  obtain ⟨la, hla⟩ : ∃ x, x = l.length := ⟨_, rfl⟩
  obtain ⟨lb, hlb⟩ : ∃ x, x = ns.length := ⟨_, rfl⟩
  rw [← hla] at HA ⊢
  rw [← hlb] at HN ⊢
  clear hla hlb
  have HS1 := hide (fun W h => nsort_any (.slice aa la ca) l m W h (unhide HM))
  have HS2 := hide (fun W h => refSort_any (.slice aa la ca) l m W h (unhide HM))
  rw [unhide HRR] at HS2
  have HC1 := hide (fun W h => ncount_any (.slice aa la ca) l m W h (unhide HM))
  have HC2 := hide (fun W h => refCount_any (.slice aa la ca) l m W h (unhide HM))
  have HH1 := hide (fun W h => nhas_any (.slice aa la ca) l m n W h)
  have HH2 := hide (fun W h => refHas_any (.slice aa la ca) l m n W h)
  have HO1 := hide (fun W h h2 => only_any (.slice aa la ca) (.slice an lb cn) l ns m W h h2 (unhide HM) (unhide HL1) (unhide HL2))
  have HO2 := hide (fun W h h2 => refOnly_any (.slice aa la ca) (.slice an lb cn) l ns m W h h2 (unhide HL2))
  generalize sortR m l = pr at HS1 HS2 HQ
  obtain ⟨q, c⟩ := pr
  simp only at HS1 HS2 HQ
  generalize countR m l = pc at HC1 HC2
  obtain ⟨c1, c2⟩ := pc
  simp only at HC1 HC2
  generalize hasS m n l = r at HH1 HH2
  generalize ns.filter (fun n => hasS m n l) = F at HO1 HO2 HFL HFN
  clear HRR HL1 HL2
  go_enter Tryd.func3, Tryd.ntmps3
  go_wp2_with fail
  refine (unhide HS1 w (unhide HA)).mono ?_
  rintro e W1 ⟨v1, rfl, ho, hb⟩
  have HR1 := hide (rowG_of_own (Fit := FitS) cellsS_len ho (by have := (unhide HQ).len; omega) (unhide HQ).fit)
  have HB1 := hide hb
  have HE1 := hide ((unhide HE).below hb)
  have HA1 := hide (RowSp.below (unhide HA) hb)
  have HN1 := hide (RowN.below (unhide HN) hb)
  obtain ⟨a1, k1, hv1, _⟩ := own_sliceG ho
  obtain ⟨M1, hM1⟩ : ∃ M, M = q.length := ⟨_, rfl⟩
  rw [← hM1] at hv1
  subst hv1
  clear ho hb HS1 HE HA HN hM1
  go_wp2_with fail
  refine (unhide HS2 W1 (unhide HA1)).mono ?_
  rintro e W2 ⟨v2, rfl, ho, hb⟩
  have HG2 := hide (rowG_of_own (Fit := FitS) cellsS_len ho (by have := (unhide HQ).len; omega) (unhide HQ).fit)
  have HR2 := hide (RowSp.below (unhide HR1) hb)
  have HB2 := hide (belows' (unhide HB1) hb)
  have HE2 := hide ((unhide HE1).below hb)
  have HA2 := hide (RowSp.below (unhide HA1) hb)
  have HN2 := hide (RowN.below (unhide HN1) hb)
  obtain ⟨a2, k2, hv2, _⟩ := own_sliceG ho
  obtain ⟨M2, hM2⟩ : ∃ M, M = q.length := ⟨_, rfl⟩
  rw [← hM2] at hv2
  subst hv2
  clear ho hb HS2 HB1 HR1 HE1 HA1 HN1 hM2
  go_wp2_with fail
  refine (unhide HC1 W2 (unhide HA2)).mono ?_
  rintro e W3 ⟨rfl, hb⟩
  have HG3 := hide (RowSp.below (unhide HG2) hb)
  have HR3 := hide (RowSp.below (unhide HR2) hb)
  have HB3 := hide (belows' (unhide HB2) hb)
  have HE3 := hide ((unhide HE2).below hb)
  have HA3 := hide (RowSp.below (unhide HA2) hb)
  have HN3 := hide (RowN.below (unhide HN2) hb)
  clear hb HC1 HG2 HB2 HR2 HE2 HA2 HN2
  go_wp2_with fail
  refine (unhide HC2 W3 (unhide HA3)).mono ?_
  rintro e W4 ⟨rfl, hb⟩
  have HG4 := hide (RowSp.below (unhide HG3) hb)
  have HR4 := hide (RowSp.below (unhide HR3) hb)
  have HB4 := hide (belows' (unhide HB3) hb)
  have HL := hide (lives_any W4 ((unhide HE3).below hb))
  have HA4 := hide (RowSp.below (unhide HA3) hb)
  have HN4 := hide (RowN.below (unhide HN3) hb)
  clear hb HC2 HG3 HB3 HR3 HE3 HA3 HN3
  go_wp2_with fail
  refine (unhide HL).mono ?_
  rintro e W5 ⟨rfl, hb⟩
  have HB5 := hide (belows' (unhide HB4) hb)
  have HS5 := hide (sameSp_any _ _ q q W5 (RowSp.below (unhide HR4) hb) (RowSp.below (unhide HG4) hb))
  rw [decide_eq_true rfl] at HS5
  have HA5 := hide (RowSp.below (unhide HA4) hb)
  have HN5 := hide (RowN.below (unhide HN4) hb)
  clear hb HL HB4 HR4 HG4 HA4 HN4
  go_wp2_with fail
  refine (unhide HS5).mono ?_
  rintro e W6 ⟨rfl, hb⟩
  have HB6 := hide (belows' (unhide HB5) hb)
  have HA6 := hide (RowSp.below (unhide HA5) hb)
  have HN6 := hide (RowN.below (unhide HN5) hb)
  clear hb HB5 HS5 HA5 HN5
  go_wp2_with fail
  refine (unhide HH1 W6 (unhide HA6)).mono ?_
  rintro e W7 ⟨rfl, hb⟩
  have HB7 := hide (belows' (unhide HB6) hb)
  have HA7 := hide (RowSp.below (unhide HA6) hb)
  have HN7 := hide (RowN.below (unhide HN6) hb)
  clear hb HB6 HH1 HA6 HN6
  go_wp2_with fail
  refine (unhide HH2 W7 (unhide HA7)).mono ?_
  rintro e W8 ⟨rfl, hb⟩
  have HB8 := hide (belows' (unhide HB7) hb)
  have HA8 := hide (RowSp.below (unhide HA7) hb)
  have HN8 := hide (RowN.below (unhide HN7) hb)
  clear hb HB7 HH2 HA7 HN7
  go_wp2_with fail
  refine (unhide HO1 W8 (unhide HA8) (unhide HN8)).mono ?_
  rintro e W9 ⟨v9, rfl, ho, hb⟩
  have HB9 := hide (belows' (unhide HB8) hb)
  have HF9 := hide (rowG_of_own (Fit := fun n => n ≤ 4294967295) cellsN_len ho (by have := unhide HFN; omega) (unhide HFL))
  have HA9 := hide (RowSp.below (unhide HA8) hb)
  have HN9 := hide (RowN.below (unhide HN8) hb)
  obtain ⟨a9, k9, hv9, _⟩ := own_sliceG ho
  obtain ⟨M9, hM9⟩ : ∃ M, M = F.length := ⟨_, rfl⟩
  rw [← hM9] at hv9
  subst hv9
  clear ho hb HB8 HO1 HA8 HN8 hM9
  go_wp2_with fail
  refine (unhide HO2 W9 (unhide HA9) (unhide HN9)).mono ?_
  rintro e Wa ⟨va, rfl, ho, hb⟩
  have HBa := hide (belows' (unhide HB9) hb)
  have HFa := hide (rowG_of_own (Fit := fun n => n ≤ 4294967295) cellsN_len ho (by have := unhide HFN; omega) (unhide HFL))
  have HFb := hide (RowN.below (unhide HF9) hb)
  obtain ⟨a10, k10, hv10, _⟩ := own_sliceG ho
  obtain ⟨M10, hM10⟩ : ∃ M, M = F.length := ⟨_, rfl⟩
  rw [← hM10] at hv10
  subst hv10
  clear ho hb HB9 HO2 HA9 HN9 hM10 HF9
  have HSN := hide (sameN_any _ _ F F Wa (unhide HFb) (unhide HFa))
  rw [decide_eq_true rfl] at HSN
  clear HFb HFa
  go_wp2_with fail
  refine (unhide HSN).mono ?_
  rintro e Wb ⟨rfl, hb⟩
  have HBb := hide (belows' (unhide HBa) hb)
  clear hb HBa HSN
  go_wp2
  go_ret
  exact ⟨by simp, unhide HBb⟩
end Go.Proofs.YtcoknclifgkcgaaDoor
