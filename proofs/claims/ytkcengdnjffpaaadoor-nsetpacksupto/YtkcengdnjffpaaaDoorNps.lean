/-
  What missivelaw03.NsetPacks does, over this seat's program.
-/
import Derived.Test.YtkcengdnjffpaaaDoorNop
import Derived.Test.YtkcengdnjffpaaaDoorNlv
import Derived.Test.YtkcengdnjffpaaaDoorNrp
set_option linter.unusedVariables false
namespace Go.Proofs.YtkcengdnjffpaaaDoor
open Go.RowKit Go.Proofs.Nst

theorem packR_fit {ns : List Nat} (hf : ∀ n ∈ ns, n ≤ 4294967295) : (∀ x ∈ (packR ns).1, FitS x) ∧ (packR ns).1.length ≤ 1024 := by
  unfold packR
  split
  · split
    · simp
    · split
      · rename_i h
        exact ⟨(packS_fit hf).1, h⟩
      · simp
  · simp

set_option maxHeartbeats 4000000 in
set_option maxRecDepth 100000 in
theorem nsetPacks_walk (v : Value) (ns : List Nat) (w : World) (hE : ErrN w) (ha : RowNn w v ns) (hs : ns.length ≤ 1048576) :
    Calls Tryd.prog 4 #[v] w fun e w' => e = .returned (.bool true) ∧ Below w.heap.size w w' := by
  obtain ⟨aa, ca, hva, _, hfit, _⟩ := ha.1
  have HF := hide (packR_fit hfit)
  have HA := hide ha.1
  have HP := hide (npack_any v ns w ha.1 hs)
  have HE := hide hE
  have HS := hide hs
  subst hva
  obtain ⟨la, hla⟩ : ∃ x, x = ns.length := ⟨_, rfl⟩
  rw [← hla] at HA HP ⊢
  clear ha hs hE hfit hla
  have HQ := hide (fun W h => refPack_any (.slice aa la ca) ns W h (unhide HS))
  generalize packR ns = pr at HP HQ HF
  obtain ⟨q, c⟩ := pr
  simp only at HP HQ HF
  go_enter Tryd.func4, Tryd.ntmps4
  go_wp2_with fail
  refine (unhide HP).mono ?_
  rintro e W1 ⟨v1, rfl, ho, hb⟩
  have HR1 := hide (rowG_of_own (Fit := FitS) cellsS_len ho (by have := (unhide HF).2; omega) (unhide HF).1)
  have HB1 := hide hb
  have HE1 := hide ((unhide HE).below hb)
  have HA1 := hide (RowN.below (unhide HA) hb)
  obtain ⟨a1, c1, hv1, _⟩ := own_sliceG ho
  obtain ⟨M, hM⟩ : ∃ M, M = q.length := ⟨_, rfl⟩
  rw [← hM] at hv1
  subst hv1
  clear ho hb HP HE HA hM
  have HP := hide (unhide HQ W1 (unhide HA1))
  go_wp2_with fail
  refine (unhide HP).mono ?_
  rintro e W2 ⟨v2, rfl, ho, hb⟩
  have HG2 := hide (rowG_of_own (Fit := FitS) cellsS_len ho (by have := (unhide HF).2; omega) (unhide HF).1)
  have HR2 := hide (RowSp.below (unhide HR1) hb)
  have HB2 := hide (belows' (unhide HB1) hb)
  have HL := hide (lives_any W2 ((unhide HE1).below hb))
  obtain ⟨a2, c2, hv2, _⟩ := own_sliceG ho
  obtain ⟨M2, hM2⟩ : ∃ M, M = q.length := ⟨_, rfl⟩
  rw [← hM2] at hv2
  subst hv2
  clear ho hb HP HE1 HA1 HB1 HR1 hM2 HQ
  go_wp2_with fail
  refine (unhide HL).mono ?_
  rintro e W3 ⟨rfl, hb⟩
  have HB3 := hide (belows' (unhide HB2) hb)
  have HS3 := hide (sameSp_any _ _ q q W3 (RowSp.below (unhide HR2) hb) (RowSp.below (unhide HG2) hb))
  rw [decide_eq_true rfl] at HS3
  clear hb HL HB2 HR2 HG2
  go_wp2_with fail
  refine (unhide HS3).mono ?_
  rintro e W4 ⟨rfl, hb⟩
  have HB4 := hide (belows' (unhide HB3) hb)
  clear hb HB3 HS3
  go_wp2
  go_ret
  exact ⟨by simp, unhide HB4⟩
end Go.Proofs.YtkcengdnjffpaaaDoor
