/-
  What the document's Place of box does, over this seat's program.
-/
import Derived.Test.YthpjogfclklefaaDoorRxc
import Derived.Test.YthpjogfclklefaaDoorBpl
set_option linter.unusedVariables false
set_option linter.unusedSimpArgs false
namespace Go.Proofs.YthpjogfclklefaaDoor
open Go.RowKit

theorem placeL_at {l : List Msg} {u k : Nat} (hk : k < l.length) (h : l[k].uid = u) (hno : ∀ (j : Nat) (hj : j < l.length), j < k → l[j].uid ≠ u) : placeL l u = k + 1 ∧ u ∈ uidsM l := by
  have hm : u ∈ uidsM l := List.mem_map.2 ⟨l[k], List.getElem_mem _, h⟩
  refine ⟨?_, hm⟩
  unfold placeL
  rw [if_pos hm, List.findIdx_eq hk |>.2]
  refine ⟨by simpa using h, fun j hj => ?_⟩
  simpa using hno j (by omega) hj
theorem placeL_no {l : List Msg} {u : Nat} (hno : ∀ (j : Nat) (hj : j < l.length), l[j].uid ≠ u) : placeL l u = 0 ∧ u ∉ uidsM l := by
  have hm : u ∉ uidsM l := by
    intro h
    obtain ⟨m, hm, hu⟩ := List.mem_map.1 h
    obtain ⟨j, hj, rfl⟩ := List.getElem_of_mem hm
    exact hno j hj hu
  exact ⟨by unfold placeL; rw [if_neg hm], hm⟩

set_option maxHeartbeats 4000000 in
set_option maxRecDepth 100000 in
theorem refBPlace_any (b : Bx) (v : Value) (u : Nat) (w : World) (h : RowM w v b.ms) (hf : FitB b) (hu : u ≤ 4294967295) :
    Calls Tryd.prog 22 #[bxV b v, .int .u32 (u : Int)] w fun e w' => e = .returned (.tuple #[.int .i64 (placeB b u : Int), .int .i64 (whyB b u : Int)]) ∧ Below w.heap.size w w' := by
  have HC := hide (fun W (hR : RowM W v b.ms) => refBCheck_any b v W hR hf)
  obtain ⟨P, hP⟩ : ∃ P, placeB b u = P := ⟨_, rfl⟩
  obtain ⟨Y, hY⟩ : ∃ Y, whyB b u = Y := ⟨_, rfl⟩
  rw [hP, hY]
  have HP := hide hP
  have HY := hide hY
  clear hP hY
  obtain ⟨a, cap, rfl, hl, _, _⟩ := id h
  have HA := hide (show Below w.heap.size w (w.alloc (.cells (bxC b (.slice a b.ms.length cap)) 26)) from (Below.refl _ w).alloc (Nat.le_refl _) _)
  have HRA := hide (h.below (unhide HA))
  have KB := hide (Blk.new w 26 (bxC b (.slice a b.ms.length cap)))
  clear h
  cases hok : okB b with
  | false =>
    have hc : chkB b = 2 := by unfold chkB; rw [hok, if_neg (by simp)]
    have hp : 0 = P := by rw [← unhide HP]; unfold placeB; rw [hok, if_neg (by simp)]
    have hy : 2 = Y := by rw [← unhide HY]; unfold whyB; rw [hok, if_neg (by simp)]
    subst hp hy
    rw [hc] at HC
    clear hc hok HP HY hf KB
    obtain ⟨va, nx, mr, la, ms⟩ := b
    simp only [bxV, bxC] at *
    go_enter Tryd.func22, Tryd.ntmps22
    go_wp2_with fail
    refine (unhide HC _ (unhide HRA)).mono ?_
    rintro e w1 ⟨rfl, b1⟩
    have HB := hide (belows' (unhide HA) b1)
    clear b1 HA HRA HC
    go_wp2
    go_ret2
    exact ⟨rfl, unhide HB⟩
  | true =>
    have hc : chkB b = 0 := by unfold chkB; rw [hok, if_pos rfl]
    have HP := hide (show placeL b.ms u = P by rw [← unhide HP]; unfold placeB; rw [hok, if_pos rfl])
    have HY := hide (show (if u ∈ uidsM b.ms then 0 else 3) = Y by rw [← unhide HY]; unfold whyB; rw [hok, if_pos rfl])
    rw [hc] at HC
    clear hc hok hf
    obtain ⟨va, nx, mr, la, ms⟩ := b
    simp only [bxV, bxC] at *
    obtain ⟨n, hnn⟩ : ∃ n, ms.length = n := ⟨_, rfl⟩
    rw [hnn] at HA HRA KB HC hl ⊢
    have HN := hide hnn
    clear hnn
    go_enter Tryd.func22, Tryd.ntmps22
    go_wp2_with fail
    refine (unhide HC _ (unhide HRA)).mono ?_
    rintro e w1 ⟨rfl, b1⟩
    have KB := hide ((unhide KB).below b1)
    have HRA := hide ((unhide HRA).below b1)
    have HB := hide (belows' (unhide HA) b1)
    have c4 := (unhide KB).cell 4
    simp only [List.getElem?_toArray, List.getElem?_cons_succ, List.getElem?_cons_zero] at c4
    clear b1 HA HC KB
    go_wp2
    go_loopw [6, 7, 14] (fun _ _ z wr => ∃ k : Nat, z = .int .i64 k ∧ k ≤ n ∧ Hid (∀ (j : Nat) (hj : j < ms.length), j < k → ms[j].uid ≠ u) ∧ Hid (Below w1.heap.size w1 wr)) (fun _ _ z _ => n - (intOf z).toNat)
    case atStart => exact ⟨0, rfl, Nat.zero_le _, hide (fun j _ h => by omega), hide (Below.refl _ _)⟩
    case round =>
      obtain ⟨k, rfl, hk, HE, BJ⟩ := hrel
      by_cases hlt : k < n
      · have hkl : k < ms.length := by rw [unhide HN]; exact hlt
        have hlt1 : (k : Int) < (n : Int) := by omega
        obtain ⟨g, off, rfl, hg, hft, x0, x1, x2, x3, x4, x5⟩ := RowM.mail (unhide HRA) (unhide BJ) hkl
        have hu1 : ms[k].uid ≤ 4294967295 := hft.1
        have HAL := hide (show Below w.heap.size w (wr.alloc (.cells #[.int .u32 (ms[k].uid : Int), .int .u8 (ms[k].fl : Int), .int .i64 ms[k].dy, .int .i64 ms[k].sc, .int .i64 ms[k].zn, .string ms[k].raw] 47)) from belows' (unhide HB) (belows' (unhide BJ) ((Below.refl _ wr).alloc (Nat.le_refl _) _)))
        have HAJ := hide (show Below w1.heap.size w1 (wr.alloc (.cells #[.int .u32 (ms[k].uid : Int), .int .u8 (ms[k].fl : Int), .int .i64 ms[k].dy, .int .i64 ms[k].sc, .int .i64 ms[k].zn, .string ms[k].raw] 47)) from belows' (unhide BJ) ((Below.refl _ wr).alloc (Nat.le_refl _) _))
        by_cases he : ms[k].uid = u
        · have d : ((ms[k].uid : Int) == (u : Int)) = true := by rw [he]; simp
          obtain ⟨p1, p2⟩ := placeL_at hkl he (unhide HE)
          have hp : k + 1 = P := by rw [← unhide HP, p1]
          have hy : 0 = Y := by rw [← unhide HY, if_pos p2]
          have hw1 : IntKind.i64.wrap ((k : Int) + 1) = (k : Int) + 1 := by rw [IntKind.wrap_i64]; omega
          subst hp hy
          clear HP HY HE p1 p2 HAJ hft
          rw [he] at HAL
          go_wp2
          go_ret2
          exact ⟨by first | rfl | simp, unhide HAL⟩
        · have d : ((ms[k].uid : Int) == (u : Int)) = false := by simp; omega
          have HE2 : Hid (∀ (j : Nat) (hj : j < ms.length), j < k + 1 → ms[j].uid ≠ u) := hide (fun j hj hjk => by
            by_cases hjk2 : j < k
            · exact unhide HE j hj hjk2
            · obtain rfl : j = k := by omega
              exact he)
          clear hft HAL
          go_wp2
          exact ⟨⟨k + 1, by go_num, by omega, HE2, HAJ⟩, by simp [intOf]; omega⟩
      · have hlt1 : ¬ (k : Int) < (n : Int) := by omega
        obtain ⟨p1, p2⟩ := placeL_no (fun j hj => unhide HE j hj (by rw [unhide HN] at hj; omega))
        have hp : 0 = P := by rw [← unhide HP, p1]
        have hy : 3 = Y := by rw [← unhide HY, if_neg p2]
        subst hp hy
        clear HP HY HE p1 p2
        go_wp2
        go_ret2
        exact ⟨rfl, belows' (unhide HB) (unhide BJ)⟩
end Go.Proofs.YthpjogfclklefaaDoor
