/-
  The walk of missivelaw08.HeadParses, over this seat's program.
-/
import Derived.Test.YtmlfjbfbpnnlkaaDoorRfr
import Derived.Test.YtmlfjbfbpnnlkaaDoorWhb
set_option linter.unusedVariables false
namespace Go.Proofs.YtmlfjbfbpnnlkaaDoor
open Go.RowKit Go.Proofs.Hed

set_option maxHeartbeats 2000000 in
set_option maxRecDepth 100000 in
theorem headParses_walk (s : ByteArray) (v : Value) (l : List Fld) (w : World) (h : RowF w v l) (hsum : s.size + sumF l ≤ 1048576) :
    Calls Tryd.prog 3 #[.string s, v] w fun e w' => e = .returned (.bool true) ∧ Below w.heap.size w w' := by
  have HPA := hide (parse_any s w (by omega))
  have HPB := hide (fun W => refParse_any s W (by omega))
  have HWA := hide (fun W (h : RowF W v l) => write_any v l W h)
  have HWB := hide (fun W (h : RowF W v l) => refWrite_any v l W h (by omega))
  have HR := hide h
  obtain ⟨ad, cap, hv, _⟩ := h
  subst hv
  generalize bts (writeR (l.map lst)).1 = t at HWA HWB
  generalize (writeR (l.map lst)).2 = k at HWA HWB
  generalize (parseL s.data.toList).2 = pn at HPA HPB
  clear hsum
  go_enter Tryd.func3, Tryd.ntmps3
  go_wp2_with fail
  refine (unhide HPA).mono ?_
  clear HPA
  rintro e W1 ⟨va, la, rfl, hra, hla, hb⟩
  have HB1 := hide hb
  have HR1 := hide ((unhide HR).below hb)
  have HRA := hide hra
  have HLA := hide hla
  obtain ⟨aa, ca, hva, _⟩ := hra
  subst hva
  clear hb HR hla
  go_wp2_with fail
  refine (unhide HPB _).mono ?_
  clear HPB
  rintro e W2 ⟨vb, lb, rfl, hrb, hlb, hb⟩
  have hll : lb = la := back_flds (by rw [hlb, unhide HLA])
  subst hll
  have HB2 := hide (belows' (unhide HB1) hb)
  have HR2 := hide ((unhide HR1).below hb)
  have HRA2 := hide ((unhide HRA).below hb)
  have HRB2 := hide hrb
  obtain ⟨ab, cb, hvb, _⟩ := hrb
  subst hvb
  clear hb hlb HLA HB1 HR1 HRA
  go_wp2_with fail
  refine (unhide HWA _ (unhide HR2)).mono ?_
  clear HWA
  rintro e W3 ⟨rfl, hb⟩
  have HB3 := hide (belows' (unhide HB2) hb)
  have HR3 := hide ((unhide HR2).below hb)
  have HRA3 := hide ((unhide HRA2).below hb)
  have HRB3 := hide ((unhide HRB2).below hb)
  clear hb HB2 HR2 HRA2 HRB2
  go_wp2_with fail
  refine (unhide HWB _ (unhide HR3)).mono ?_
  clear HWB
  rintro e W4 ⟨rfl, hb⟩
  have HB4 := hide (belows' (unhide HB3) hb)
  have HRA4 := hide ((unhide HRA3).below hb)
  have HRB4 := hide ((unhide HRB3).below hb)
  clear hb HB3 HR3 HRA3 HRB3
  have HLV := hide (lives_any W4)
  go_wp2_with fail
  refine (unhide HLV).mono ?_
  clear HLV
  rintro e W5 ⟨rfl, hb⟩
  have HB5 := hide (belows' (unhide HB4) hb)
  have HSM := hide (sameF_any _ _ lb lb W5 ((unhide HRA4).below hb) ((unhide HRB4).below hb))
  rw [decide_eq_true rfl] at HSM
  clear hb HB4 HRA4 HRB4
  go_wp2_with fail
  refine (unhide HSM).mono ?_
  clear HSM
  rintro e W6 ⟨rfl, hb⟩
  have HB6 := hide (belows' (unhide HB5) hb)
  clear hb HB5
  go_wp2
  go_ret
  exact ⟨by simp, unhide HB6⟩
end Go.Proofs.YtmlfjbfbpnnlkaaDoor
