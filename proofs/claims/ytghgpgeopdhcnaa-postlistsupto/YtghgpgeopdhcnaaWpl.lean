/-
  The walk of missivelaw13.PostLists, over this seat's program.
-/
import Derived.Test.YtghgpgeopdhcnaaPlv
import Derived.Test.YtghgpgeopdhcnaaPro
set_option linter.unusedVariables false
namespace Go.Proofs.Ytghgpgeopdhcnaa
open Go.RowKit Go.Proofs.Num Go.Proofs.Dct Go.Proofs.Pst

set_option maxHeartbeats 4000000 in
set_option maxRecDepth 100000 in
theorem postLists_walk (vl va vb : Value) (ls : List (List Nat)) (a b : List Nat) (w : World) (hl : RowRR w vl ls) (hnl : NeatS vl) (ha : Row32 w va a) (hb : Row32 w vb b) (htot : tot ls ≤ 4194302) :
    Calls Try.prog 3 #[vl, va, vb] w fun e w' => e = .returned (.bool true) ∧ Below w.heap.size w w' := by
  have H1 := hide (and_any vl ls w hl hnl)
  have HF2 := hide (fun W (r : RowRR W vl ls) => refAnd_any vl ls W r hnl)
  have HF3 := hide (fun W (r : RowRR W vl ls) => or_any vl ls W r hnl)
  have HF4 := hide (fun W (r : RowRR W vl ls) => refOr_any vl ls W r htot)
  have HF5 := hide (fun W (r0 : Row32 W va a) (r1 : Row32 W vb b) => without_any va vb a b W r0 r1)
  have HF6 := hide (fun W (r0 : Row32 W va a) (r1 : Row32 W vb b) => refWithout_any va vb a b W r0 r1)
  have HF7 := hide (fun W (r0 : Row32 W va a) => check_any va a W r0)
  have HF8 := hide (fun W (r0 : Row32 W va a) => refChk_any va a W r0)
  have HRL := hide hl
  have HRA := hide ha
  have HRB := hide hb
  clear hl hnl ha hb htot
  generalize andR ls = AP at *
  generalize orR ls = OP at *
  generalize withoutR a b = WP at *
  generalize chk a = CA at *
  obtain ⟨X, CX⟩ := AP
  obtain ⟨Z, CZ⟩ := OP
  obtain ⟨P, CP⟩ := WP
  simp only at H1 HF2 HF3 HF4 HF5 HF6
  go_enter Try.func3, Try.ntmps3
  go_wp2_with fail
  refine (unhide H1).mono ?_
  rintro e W1 ⟨v1, rfl, r1, hb1⟩
  have HB1 := hide hb1
  have HL1 := hide ((unhide HRL).below hb1)
  have HA1 := hide ((unhide HRA).below hb1)
  have HC1 := hide ((unhide HRB).below hb1)
  have HX1 := hide r1
  have H2 := hide (unhide HF2 W1 (unhide HL1))
  clear hb1 r1 H1 HRL HRA HRB HF2
  go_wp2_with fail
  refine (unhide H2).mono ?_
  rintro e W2 ⟨v2, rfl, r2, hb2⟩
  have HB2 := hide (belows' (unhide HB1) hb2)
  have HL2 := hide ((unhide HL1).below hb2)
  have HA2 := hide ((unhide HA1).below hb2)
  have HC2 := hide ((unhide HC1).below hb2)
  have HX2 := hide ((unhide HX1).below hb2)
  have HY2 := hide r2
  have H3 := hide (unhide HF3 W2 (unhide HL2))
  clear hb2 r2 H2 HB1 HL1 HA1 HC1 HX1 HF3
  go_wp2_with fail
  refine (unhide H3).mono ?_
  rintro e W3 ⟨v3, rfl, r3, hb3⟩
  have HB3 := hide (belows' (unhide HB2) hb3)
  have HL3 := hide ((unhide HL2).below hb3)
  have HA3 := hide ((unhide HA2).below hb3)
  have HC3 := hide ((unhide HC2).below hb3)
  have HX3 := hide ((unhide HX2).below hb3)
  have HY3 := hide ((unhide HY2).below hb3)
  have HZ3 := hide r3
  have H4 := hide (unhide HF4 W3 (unhide HL3))
  clear hb3 r3 H3 HB2 HL2 HA2 HC2 HX2 HY2 HF4
  go_wp2_with fail
  refine (unhide H4).mono ?_
  rintro e W4 ⟨v4, rfl, r4, hb4⟩
  have HB4 := hide (belows' (unhide HB3) hb4)
  have HA4 := hide ((unhide HA3).below hb4)
  have HC4 := hide ((unhide HC3).below hb4)
  have HX4 := hide ((unhide HX3).below hb4)
  have HY4 := hide ((unhide HY3).below hb4)
  have HZ4 := hide ((unhide HZ3).below hb4)
  have HU4 := hide r4
  have H5 := hide (unhide HF5 W4 (unhide HA4) (unhide HC4))
  clear hb4 r4 H4 HB3 HL3 HA3 HC3 HX3 HY3 HZ3 HF5
  go_wp2_with fail
  refine (unhide H5).mono ?_
  rintro e W5 ⟨v5, rfl, r5, hb5⟩
  have HB5 := hide (belows' (unhide HB4) hb5)
  have HA5 := hide ((unhide HA4).below hb5)
  have HC5 := hide ((unhide HC4).below hb5)
  have HX5 := hide ((unhide HX4).below hb5)
  have HY5 := hide ((unhide HY4).below hb5)
  have HZ5 := hide ((unhide HZ4).below hb5)
  have HU5 := hide ((unhide HU4).below hb5)
  have HP5 := hide r5
  have H6 := hide (unhide HF6 W5 (unhide HA5) (unhide HC5))
  clear hb5 r5 H5 HB4 HA4 HC4 HX4 HY4 HZ4 HU4 HF6
  go_wp2_with fail
  refine (unhide H6).mono ?_
  rintro e W6 ⟨v6, rfl, r6, hb6⟩
  have H7 := hide (lists_any W6)
  have HB6 := hide (belows' (unhide HB5) hb6)
  have HA6 := hide ((unhide HA5).below hb6)
  have HX6 := hide ((unhide HX5).below hb6)
  have HY6 := hide ((unhide HY5).below hb6)
  have HZ6 := hide ((unhide HZ5).below hb6)
  have HU6 := hide ((unhide HU5).below hb6)
  have HP6 := hide ((unhide HP5).below hb6)
  have HQ6 := hide r6
  clear hb6 r6 H6 HB5 HA5 HC5 HX5 HY5 HZ5 HU5 HP5
  go_wp2_with fail
  refine (unhide H7).mono ?_
  rintro e W7 ⟨rfl, hb7⟩
  have HB7 := hide (belows' (unhide HB6) hb7)
  have HA7 := hide ((unhide HA6).below hb7)
  have HZ7 := hide ((unhide HZ6).below hb7)
  have HU7 := hide ((unhide HU6).below hb7)
  have HP7 := hide ((unhide HP6).below hb7)
  have HQ7 := hide ((unhide HQ6).below hb7)
  have H8 := hide (same32_any v1 v2 X X W7 ((unhide HX6).below hb7) ((unhide HY6).below hb7))
  rw [decide_eq_true rfl] at H8
  clear hb7 H7 HB6 HA6 HX6 HY6 HZ6 HU6 HP6 HQ6
  go_wp2_with fail
  refine (unhide H8).mono ?_
  rintro e W8 ⟨rfl, hb8⟩
  have HB8 := hide (belows' (unhide HB7) hb8)
  have HA8 := hide ((unhide HA7).below hb8)
  have HP8 := hide ((unhide HP7).below hb8)
  have HQ8 := hide ((unhide HQ7).below hb8)
  have H9 := hide (same32_any v3 v4 Z Z W8 ((unhide HZ7).below hb8) ((unhide HU7).below hb8))
  rw [decide_eq_true rfl] at H9
  clear hb8 H8 HB7 HA7 HZ7 HU7 HP7 HQ7
  go_wp2_with fail
  refine (unhide H9).mono ?_
  rintro e W9 ⟨rfl, hb9⟩
  have HB9 := hide (belows' (unhide HB8) hb9)
  have HA9 := hide ((unhide HA8).below hb9)
  have H10 := hide (same32_any v5 v6 P P W9 ((unhide HP8).below hb9) ((unhide HQ8).below hb9))
  rw [decide_eq_true rfl] at H10
  clear hb9 H9 HB8 HA8 HP8 HQ8
  go_wp2_with fail
  refine (unhide H10).mono ?_
  rintro e W10 ⟨rfl, hb10⟩
  have HB10 := hide (belows' (unhide HB9) hb10)
  have HA10 := hide ((unhide HA9).below hb10)
  have H11 := hide (unhide HF7 W10 (unhide HA10))
  clear hb10 H10 HB9 HA9 HF7
  go_wp2_with fail
  refine (unhide H11).mono ?_
  rintro e w11 ⟨rfl, q, rfl⟩
  have HA11 := hide ((unhide HA10).below (below_drewN (Below.refl _ _) q))
  have H12 := hide (unhide HF8 _ (unhide HA11))
  clear H11 HA10 HF8
  go_wp2_with fail
  refine (unhide H12).mono ?_
  rintro e w12 ⟨rfl, q', rfl⟩
  clear H12 HA11
  go_wp2
  go_ret
  exact ⟨by simp, below_drewN (unhide HB10) _⟩
end Go.Proofs.Ytghgpgeopdhcnaa
