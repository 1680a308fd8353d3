/-
  The walk of missivelaw08.HeadLike, over this seat's program.
-/
import Derived.Test.YtmlfjbfbpnnlkaaDoorHlv
set_option linter.unusedVariables false
namespace Go.Proofs.YtmlfjbfbpnnlkaaDoor
open Go.RowKit Go.Proofs.Hed

set_option maxHeartbeats 1000000 in
set_option maxRecDepth 100000 in
theorem headLike_walk (a b : ByteArray) (v : Value) (l : List Fld) (w : World) (h : RowF w v l) (hsum : a.size + b.size + sumF l ≤ 1048576) :
    Calls Tryd.prog 7 #[.string a, .string b, v] w fun e w' => e = .returned (.bool true) ∧ Below w.heap.size w w' := by
  have HL := hide (lives_any w)
  have HAA := hide (fun W => like_any a a W (by omega) (by omega))
  rw [decide_eq_true rfl] at HAA
  have HAB := hide (fun W => like_any a b W (by omega) (by omega))
  have HBA := hide (fun W => like_any b a W (by omega) (by omega))
  rw [show decide (smL b.data.toList = smL a.data.toList) = decide (smL a.data.toList = smL b.data.toList) from by simp only [eq_comm]] at HBA
  have HR := hide h
  obtain ⟨ad, cap, hv, _⟩ := h
  have hal : smL a.data.toList = smL b.data.toList → a.size = b.size ∧ allL a l = allL b l := by
    intro e
    refine ⟨?_, ?_⟩
    · have := congrArg List.length e
      simp only [smL, List.length_map, sizeL] at this
      exact this
    · unfold allL
      congr 1
      apply List.filter_congr
      intro f _
      simp only [called, e]
  have HAL := hide hal
  have hs1 : a.size ≤ 16777216 := by omega
  have hs2 : b.size ≤ 16777216 := by omega
  have HNA := hide (fun W (h : RowF W v l) => all_any v l a W h hs1)
  have HNB := hide (fun W (h : RowF W v l) => all_any v l b W h hs2)
  rw [hv] at HNA HNB HR ⊢
  clear hal hv hsum hs1 hs2
  go_enter Tryd.func7, Tryd.ntmps7
  go_wp2_with fail
  refine (unhide HL).mono ?_
  clear HL
  rintro e W1 ⟨rfl, hb1⟩
  have HB1 := hide hb1
  have HR1 := hide ((unhide HR).below hb1)
  clear hb1 HR
  go_wp2_with fail
  refine (unhide HAA _).mono ?_
  rintro e _ ⟨rfl, q1, rfl⟩
  by_cases hlk : smL a.data.toList = smL b.data.toList
  · rw [decide_eq_true hlk] at HAB HBA
    obtain ⟨hsz, hall⟩ := unhide HAL hlk
    have hsz' : ((a.size : Int) == (b.size : Int)) = true := by rw [hsz]; simp
    have HALL := hide hall
    clear hlk hsz hall HAL HAA
    go_wp2_with fail
    refine (unhide HAB _).mono ?_
    rintro e _ ⟨rfl, q2, rfl⟩
    go_wp2_with fail
    refine (unhide HBA _).mono ?_
    rintro e _ ⟨rfl, q3, rfl⟩
    go_wp2_with fail
    refine (unhide HAB _).mono ?_
    rintro e W2 ⟨rfl, q4, hw2⟩
    have hb2 : Below W1.heap.size W1 W2 := by rw [hw2]; exact ⟨rfl, rfl, rfl, Nat.le_refl _, fun _ _ => rfl⟩
    have HR2 := hide ((unhide HR1).below hb2)
    have HB2 := hide (belows' (unhide HB1) hb2)
    clear hb2 hw2 HAB HBA HR1 HB1
    go_wp2_with fail
    refine (unhide HNA _ (unhide HR2)).mono ?_
    rintro e W3 ⟨va, rfl, hra, hb⟩
    have HRA := hide hra
    have HR3 := hide ((unhide HR2).below hb)
    have HB3 := hide (belows' (unhide HB2) hb)
    obtain ⟨aa, ca, hva, _⟩ := hra
    rw [hva] at HRA ⊢
    clear hb HR2 HB2 HNA hva
    go_wp2_with fail
    refine (unhide HNB _ (unhide HR3)).mono ?_
    rintro e W4 ⟨vb, rfl, hrb, hb⟩
    have HSM := hide (sameS_any _ _ _ _ W4 ((unhide HRA).below hb) hrb)
    rw [decide_eq_true (unhide HALL)] at HSM
    have HB4 := hide (belows' (unhide HB3) hb)
    obtain ⟨ab, cb, hvb, _⟩ := hrb
    rw [hvb] at HSM ⊢
    clear hb HR3 HB3 HNB hvb HRA
    go_wp2_with fail
    refine (unhide HSM).mono ?_
    rintro e W5 ⟨rfl, hb⟩
    have HB5 := hide (belows' (unhide HB4) hb)
    clear hb HSM HB4
    go_wp2
    go_ret
    exact ⟨by simp, unhide HB5⟩
  · rw [decide_eq_false hlk] at HAB HBA
    clear hlk HAL HAA HNA HNB
    go_wp2_with fail
    refine (unhide HAB _).mono ?_
    rintro e _ ⟨rfl, q2, rfl⟩
    go_wp2_with fail
    refine (unhide HBA _).mono ?_
    rintro e _ ⟨rfl, q3, rfl⟩
    go_wp2_with fail
    refine (unhide HAB _).mono ?_
    rintro e W2 ⟨rfl, q4, hw2⟩
    have hb2 : Below W1.heap.size W1 W2 := by rw [hw2]; exact ⟨rfl, rfl, rfl, Nat.le_refl _, fun _ _ => rfl⟩
    have HB2 := hide (belows' (unhide HB1) hb2)
    clear hb2 hw2
    go_wp2
    go_ret
    exact ⟨by simp, unhide HB2⟩

end Go.Proofs.YtmlfjbfbpnnlkaaDoor
