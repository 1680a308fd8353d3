/-
  What missivelaw13.lists does, over this seat's program.
-/
import Derived.Test.YtghgpgeopdhcnaaPsm
set_option linter.unusedVariables false
namespace Go.Proofs.Ytghgpgeopdhcnaa
open Go.RowKit Go.Proofs.Num Go.Proofs.Dct Go.Proofs.Pst

theorem rowP_lit (w : World) (l : List Nat) (cs : Array Value) (hcs : flatG cells32 l = cs.toList) (hl : l.length ≤ 4194304) (hf : ∀ x ∈ l, x ≤ 4294967295) (n : Nat) (hn : n = l.length) (g : Nat) (hg : g = w.heap.size) :
    Row32 (w.alloc (.cells cs 32)) (.slice (some ⟨g, 0, none⟩) n n) l := by
  subst hn hg
  refine ⟨_, _, rfl, by omega, hf, Or.inr ⟨w.heap.size, 0, rfl, by simp, fun j u hj => ?_⟩⟩
  rw [Nat.zero_add, Blk.cell (Blk.new w 32 cs)]
  rw [hcs] at hj
  simpa using hj
theorem below_alloc (w : World) (o : Obj) : Below w.heap.size w (w.alloc o) := (Below.refl _ w).alloc (Nat.le_refl _) _
def p1 : List Nat := [1, 2, 5]
def p2 : List Nat := [2, 3, 5]
theorem fit_p {l : List Nat} (h : l.all (fun x => decide (x ≤ 4294967295)) = true) : ∀ x ∈ l, x ≤ 4294967295 := by
  intro x hx
  have := List.all_eq_true.1 h x hx
  exact of_decide_eq_true this
theorem and_p : andR [p1, p2] = ([2, 5], 0) := by decide +kernel
theorem merge_p : mergeL p1 p2 = [1, 2, 3, 5] := by
  unfold p1 p2
  rw [merge_lt (by decide), merge_eq rfl, merge_gt (by decide), merge_eq rfl, merge_nil]
theorem or_p : orR [p1, p2] = ([1, 2, 3, 5], 0) := by
  have hu : unionF 3 [p1, p2] = [1, 2, 3, 5] := by
    show (mergeL (unionF 2 [p1]) (unionF 2 [p2])).take 65537 = _
    rw [show unionF 2 [p1] = p1 by rfl, show unionF 2 [p2] = p2 by rfl, merge_p]
    rfl
  unfold orR
  rw [show [p1, p2].length + 1 = 3 from rfl, hu]
  rfl
theorem or_p2 : orR [[2, 2]] = ([], 12) := by
  unfold orR
  rw [if_pos (by decide)]
  rfl
theorem wo_p : withoutR p1 p2 = ([1], 0) := by decide +kernel
/-- Two lists that were just built. -/
theorem two_lits (w : World) : Row32 ((w.alloc (.cells #[.int .u32 1, .int .u32 2, .int .u32 5] 32)).alloc (.cells #[.int .u32 2, .int .u32 3, .int .u32 5] 32)) (.slice (some ⟨w.heap.size, 0, none⟩) 3 3) p1
    ∧ Row32 ((w.alloc (.cells #[.int .u32 1, .int .u32 2, .int .u32 5] 32)).alloc (.cells #[.int .u32 2, .int .u32 3, .int .u32 5] 32)) (.slice (some ⟨w.heap.size + 1, 0, none⟩) 3 3) p2
    ∧ Below w.heap.size w ((w.alloc (.cells #[.int .u32 1, .int .u32 2, .int .u32 5] 32)).alloc (.cells #[.int .u32 2, .int .u32 3, .int .u32 5] 32)) :=
  ⟨(rowP_lit w p1 _ rfl (by decide) (fit_p (by decide)) 3 rfl _ rfl).below (below_alloc _ _), rowP_lit _ p2 _ rfl (by decide) (fit_p (by decide)) 3 rfl _ (by simp), belows' (below_alloc _ _) (below_alloc _ _)⟩

set_option maxHeartbeats 4000000 in
set_option maxRecDepth 100000 in
theorem lists_any (w : World) : Calls Try.prog 14 #[] w fun e w' => e = .returned (.bool true) ∧ Below w.heap.size w w' := by
  obtain ⟨r0, r1, b0⟩ := two_lits w
  have hs0 : ((w.alloc (.cells #[.int .u32 1, .int .u32 2, .int .u32 5] 32)).alloc (.cells #[.int .u32 2, .int .u32 3, .int .u32 5] 32)).heap.size = w.heap.size + 1 + 1 := by simp
  have HA := hide (and_any _ [p1, p2] _ (rowRR_two r0 r1) (neat_some _ (Nat.le_refl _)))
  rw [and_p, hs0] at HA
  have HB0 := hide (belows' b0 (below_alloc _ (.cells #[.slice (some ⟨w.heap.size, 0, none⟩) 3 3, .slice (some ⟨w.heap.size + 1, 0, none⟩) 3 3] 23)))
  clear r0 r1 b0 hs0
  go_enter Try.func14, Try.ntmps14
  go_wp2_with fail
  refine (unhide HA).mono ?_
  rintro e W1 ⟨v1, rfl, ra, hb⟩
  have HB1 := hide (belows' (unhide HB0) hb)
  have HR1 := hide ra
  obtain ⟨a1, c1, hv1, _⟩ := ra
  subst hv1
  clear hb HA HB0
  obtain ⟨r0, r1, b0⟩ := two_lits W1
  have hs0 : ((W1.alloc (.cells #[.int .u32 1, .int .u32 2, .int .u32 5] 32)).alloc (.cells #[.int .u32 2, .int .u32 3, .int .u32 5] 32)).heap.size = W1.heap.size + 1 + 1 := by simp
  have HO := hide (or_any _ [p1, p2] _ (rowRR_two r0 r1) (neat_some _ (Nat.le_refl _)))
  rw [or_p, hs0] at HO
  have HBX := hide (belows' b0 (below_alloc _ (.cells #[.slice (some ⟨W1.heap.size, 0, none⟩) 3 3, .slice (some ⟨W1.heap.size + 1, 0, none⟩) 3 3] 23)))
  clear r0 r1 b0 hs0
  go_wp2_with fail
  refine (unhide HO).mono ?_
  rintro e W2 ⟨v2, rfl, rb, hb⟩
  have HB2 := hide (belows' (unhide HB1) (belows' (unhide HBX) hb))
  have HR12 := hide ((unhide HR1).below (belows' (unhide HBX) hb))
  have HR2 := hide rb
  obtain ⟨a2, c2, hv2, _⟩ := rb
  subst hv2
  clear hb HO HBX HB1 HR1
  obtain ⟨r0, r1, b0⟩ := two_lits W2
  have HW := hide (without_any _ _ p1 p2 _ r0 r1)
  rw [wo_p] at HW
  have HBX := hide b0
  clear r0 r1 b0
  go_wp2_with fail
  refine (unhide HW).mono ?_
  rintro e W3 ⟨v3, rfl, rc, hb⟩
  have HB3 := hide (belows' (unhide HB2) (belows' (unhide HBX) hb))
  have HR13 := hide ((unhide HR12).below (belows' (unhide HBX) hb))
  have HR23 := hide ((unhide HR2).below (belows' (unhide HBX) hb))
  have HR3 := hide rc
  obtain ⟨a3, c3, hv3, _⟩ := rc
  subst hv3
  clear hb HW HBX HB2 HR12 HR2
  have r22 := rowP_lit W3 [2, 2] #[.int .u32 2, .int .u32 2] rfl (by decide) (fit_p (by decide)) 2 rfl _ rfl
  have hs0 : (W3.alloc (.cells #[.int .u32 2, .int .u32 2] 32)).heap.size = W3.heap.size + 1 := by simp
  have HO := hide (or_any _ [[2, 2]] _ (rowRR_one r22) (neat_some _ (Nat.le_refl _)))
  rw [or_p2, hs0] at HO
  have HBX := hide (belows' (below_alloc W3 (.cells #[.int .u32 2, .int .u32 2] 32)) (below_alloc _ (.cells #[.slice (some ⟨W3.heap.size, 0, none⟩) 2 2] 23)))
  clear r22 hs0
  go_wp2_with fail
  refine (unhide HO).mono ?_
  rintro e W4 ⟨v4, rfl, rd, hb⟩
  have HB4 := hide (belows' (unhide HB3) (belows' (unhide HBX) hb))
  have HR14 := hide ((unhide HR13).below (belows' (unhide HBX) hb))
  have HR24 := hide ((unhide HR23).below (belows' (unhide HBX) hb))
  have HR34 := hide ((unhide HR3).below (belows' (unhide HBX) hb))
  obtain ⟨a4, c4, hv4, _⟩ := rd
  subst hv4
  clear hb HO HBX HB3 HR13 HR23 HR3
  simp only [List.length_cons, List.length_nil, Nat.zero_add, Nat.reduceAdd] at HR14 HR24 HR34 ⊢
  have HS := hide (same32_any _ _ [2, 5] [2, 5] _ ((unhide HR14).below (below_alloc W4 (.cells #[.int .u32 2, .int .u32 5] 32))) (rowP_lit W4 [2, 5] #[.int .u32 2, .int .u32 5] rfl (by decide) (fit_p (by decide)) 2 rfl _ rfl))
  rw [decide_eq_true rfl] at HS
  go_wp2_with fail
  refine (unhide HS).mono ?_
  rintro e W5 ⟨rfl, hb⟩
  have HB5 := hide (belows' (unhide HB4) (belows' (below_alloc _ _) hb))
  have HR25 := hide ((unhide HR24).below (belows' (below_alloc _ _) hb))
  have HR35 := hide ((unhide HR34).below (belows' (below_alloc _ _) hb))
  clear hb HS HB4 HR14 HR24 HR34
  have HS := hide (same32_any _ _ [1, 2, 3, 5] [1, 2, 3, 5] _ ((unhide HR25).below (below_alloc W5 (.cells #[.int .u32 1, .int .u32 2, .int .u32 3, .int .u32 5] 32))) (rowP_lit W5 [1, 2, 3, 5] #[.int .u32 1, .int .u32 2, .int .u32 3, .int .u32 5] rfl (by decide) (fit_p (by decide)) 4 rfl _ rfl))
  rw [decide_eq_true rfl] at HS
  go_wp2_with fail
  refine (unhide HS).mono ?_
  rintro e W6 ⟨rfl, hb⟩
  have HB6 := hide (belows' (unhide HB5) (belows' (below_alloc _ _) hb))
  have HR36 := hide ((unhide HR35).below (belows' (below_alloc _ _) hb))
  clear hb HS HB5 HR25 HR35
  have HS := hide (same32_any _ _ [1] [1] _ ((unhide HR36).below (below_alloc W6 (.cells #[.int .u32 1] 32))) (rowP_lit W6 [1] #[.int .u32 1] rfl (by decide) (fit_p (by decide)) 1 rfl _ rfl))
  rw [decide_eq_true rfl] at HS
  go_wp2_with fail
  refine (unhide HS).mono ?_
  rintro e W7 ⟨rfl, hb⟩
  have HB7 := hide (belows' (unhide HB6) (belows' (below_alloc _ _) hb))
  clear hb HS HB6 HR36
  have HK := hide (check_any _ [0, 9] _ (rowP_lit W7 [0, 9] #[.int .u32 0, .int .u32 9] rfl (by decide) (fit_p (by decide)) 2 rfl _ rfl))
  rw [show chk [0, 9] = 0 by decide] at HK
  go_wp2_with fail
  refine (unhide HK).mono ?_
  rintro e W8 ⟨rfl, q, rfl⟩
  go_wp2
  go_ret
  exact ⟨by simp, below_drewN (belows' (unhide HB7) (below_alloc _ _)) q⟩
end Go.Proofs.Ytghgpgeopdhcnaa
