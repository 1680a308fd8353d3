/-
  What the document's Find of box does, over this seat's program.
-/
import Derived.Test.YthpjogfclklefaaDoorRxp
import Derived.Test.YthpjogfclklefaaDoorBpm
set_option linter.unusedVariables false
set_option linter.unusedSimpArgs false
namespace Go.Proofs.YthpjogfclklefaaDoor
open Go.RowKit

theorem findL_at {l : List Msg} {u k : Nat} (hk : k < l.length) (h : l[k].uid = u) (hno : ∀ (j : Nat) (hj : j < l.length), j < k → l[j].uid ≠ u) : findL l u = l[k] := by
  unfold findL
  rw [List.find?_eq_getElem?_findIdx, List.findIdx_eq hk |>.2 ⟨by simpa using h, fun j hj => by simpa using hno j (by omega) hj⟩, List.getElem?_eq_getElem hk]
  rfl

set_option maxHeartbeats 4000000 in
set_option maxRecDepth 100000 in
theorem refBFind_any (b : Bx) (v : Value) (u : Nat) (w : World) (h : RowM w v b.ms) (hf : FitB b) (hu : u ≤ 4294967295) :
    Calls Tryd.prog 18 #[bxV b v, .int .u32 (u : Int)] w fun e w' => e = .returned (.tuple #[msV (findB b u), .int .i64 (whyB b u : Int)]) ∧ Below w.heap.size w w' := by
  have HC := hide (fun W (hR : RowM W v b.ms) => refBCheck_any b v W hR hf)
  obtain ⟨P, hP⟩ : ∃ P, findB b u = P := ⟨_, rfl⟩
  obtain ⟨Y, hY⟩ : ∃ Y, whyB b u = Y := ⟨_, rfl⟩
  rw [hP, hY]
  have HP := hide hP
  have HY := hide hY
  clear hP hY
  obtain ⟨a, cap, rfl, hl, _, _⟩ := id h
  have HA1 := hide (show Below w.heap.size w (w.alloc (.cells (bxC b (.slice a b.ms.length cap)) 26)) from (Below.refl _ w).alloc (Nat.le_refl _) _)
  have HM := hide (show Below (w.alloc (.cells (bxC b (.slice a b.ms.length cap)) 26)).heap.size (w.alloc (.cells (bxC b (.slice a b.ms.length cap)) 26)) ((w.alloc (.cells (bxC b (.slice a b.ms.length cap)) 26)).alloc (.cells #[.int .u32 0, .int .u8 0, .int .i64 0, .int .i64 0, .int .i64 0, .string ⟨#[]⟩] 47)) from (Below.refl _ _).alloc (Nat.le_refl _) _)
  have HA := hide (belows' (unhide HA1) (unhide HM))
  have hsz : (w.alloc (.cells (bxC b (.slice a b.ms.length cap)) 26)).heap.size = w.heap.size + 1 := by simp
  have KM := hide (Blk.new (w.alloc (.cells (bxC b (.slice a b.ms.length cap)) 26)) 47 #[.int .u32 0, .int .u8 0, .int .i64 0, .int .i64 0, .int .i64 0, .string ⟨#[]⟩])
  have HRA := hide (h.below (unhide HA))
  rw [hsz] at KM
  have KB := hide ((Blk.new w 26 (bxC b (.slice a b.ms.length cap))).below (unhide HM))
  have hle : w.heap.size ≤ w.heap.size + 1 := by omega
  clear HM hsz HA1
  clear h
  cases hok : okB b with
  | false =>
    have hc : chkB b = 2 := by unfold chkB; rw [hok, if_neg (by simp)]
    have hp : zeroM = P := by rw [← unhide HP]; unfold findB; rw [hok, if_neg (by simp)]
    have hy : 2 = Y := by rw [← unhide HY]; unfold whyB; rw [hok, if_neg (by simp)]
    subst hp hy
    rw [hc] at HC
    clear hc hok HP HY hf KB
    obtain ⟨va, nx, mr, la, ms⟩ := b
    simp only [bxV, bxC] at *
    go_enter Tryd.func18, Tryd.ntmps18
    go_wp2_with fail
    refine (unhide HC _ (unhide HRA)).mono ?_
    rintro e w1 ⟨rfl, b1⟩
    have HB := hide (belows' (unhide HA) b1)
    have KM := hide ((unhide KM).below b1)
    have m0 := (unhide KM).cell 0
    have m1 := (unhide KM).cell 1
    have m2 := (unhide KM).cell 2
    have m3 := (unhide KM).cell 3
    have m4 := (unhide KM).cell 4
    have m5 := (unhide KM).cell 5
    simp only [List.getElem?_toArray, List.getElem?_cons_succ, List.getElem?_cons_zero] at m0 m1 m2 m3 m4 m5
    have fz0 := (unhide KM).frozen 0
    have fz1 := (unhide KM).frozen 1
    have fz2 := (unhide KM).frozen 2
    have fz3 := (unhide KM).frozen 3
    have fz4 := (unhide KM).frozen 4
    have fz5 := (unhide KM).frozen 5
    have HE6 := hide (below6 (s := w.heap.size + 1) (unhide HB) hle)
    clear HB b1 HA HRA HC KM
    go_wp2
    refine bodyPost_ret (v := .tuple #[msV zeroM, .int .i64 2]) ?_ rfl ⟨rfl, unhide HE6 _ _ _ _ _ _⟩
    rw [results_cell_tmp rfl]
    unfold msV zeroM
    go_simp
  | true =>
    have hc : chkB b = 0 := by unfold chkB; rw [hok, if_pos rfl]
    have HP := hide (show findL b.ms u = P by rw [← unhide HP]; unfold findB; rw [hok, if_pos rfl])
    have HY := hide (show (if u ∈ uidsM b.ms then 0 else 3) = Y by rw [← unhide HY]; unfold whyB; rw [hok, if_pos rfl])
    rw [hc] at HC
    clear hc hok hf
    obtain ⟨va, nx, mr, la, ms⟩ := b
    simp only [bxV, bxC] at *
    obtain ⟨n, hnn⟩ : ∃ n, ms.length = n := ⟨_, rfl⟩
    rw [hnn] at HA KM HRA KB HC hl ⊢
    have HN := hide hnn
    clear hnn
    go_enter Tryd.func18, Tryd.ntmps18
    go_wp2_with fail
    refine (unhide HC _ (unhide HRA)).mono ?_
    rintro e w1 ⟨rfl, b1⟩
    have KB := hide ((unhide KB).below b1)
    have KM1 := hide ((unhide KM).below b1)
    clear KM
    have HRA := hide ((unhide HRA).below b1)
    have HB := hide (belows' (unhide HA) b1)
    have c4 := (unhide KB).cell 4
    simp only [List.getElem?_toArray, List.getElem?_cons_succ, List.getElem?_cons_zero] at c4
    clear b1 HA HC KB
    go_wp2
    go_loopw [7, 15] (fun _ z wr => ∃ k : Nat, z = .int .i64 k ∧ k ≤ n ∧ Hid (∀ (j : Nat) (hj : j < ms.length), j < k → ms[j].uid ≠ u) ∧ Hid (Below w1.heap.size w1 wr)) (fun _ z _ => n - (intOf z).toNat)
    case atStart => exact ⟨0, rfl, Nat.zero_le _, hide (fun j _ h => by omega), hide (Below.refl _ _)⟩
    case round =>
      obtain ⟨k, rfl, hk, HE, BJ⟩ := hrel
      by_cases hlt : k < n
      · have hkl : k < ms.length := by rw [unhide HN]; exact hlt
        have hlt1 : (k : Int) < (n : Int) := by omega
        obtain ⟨g, off, rfl, hg, hft, x0, x1, x2, x3, x4, x5⟩ := RowM.mail (unhide HRA) (unhide BJ) hkl
        have hu1 : ms[k].uid ≤ 4294967295 := hft.1
        have HAL := hide (show Below w.heap.size w (wr.alloc (.cells #[.int .u32 (ms[k].uid : Int), .int .u8 (ms[k].fl : Int), .int .i64 ms[k].dy, .int .i64 ms[k].sc, .int .i64 ms[k].zn, .string ms[k].raw] 47)) from belows' (unhide HB) (belows' (unhide BJ) ((Below.refl _ wr).alloc (Nat.le_refl _) _)))
        have HAJ := hide (show Below w1.heap.size w1 (wr.alloc (.cells #[.int .u32 (ms[k].uid : Int), .int .u8 (ms[k].fl : Int), .int .i64 ms[k].dy, .int .i64 ms[k].sc, .int .i64 ms[k].zn, .string ms[k].raw] 47)) from belows' (unhide BJ) ((Below.refl _ wr).alloc (Nat.le_refl _) _))
        by_cases he : ms[k].uid = u
        · have d : ((ms[k].uid : Int) == (u : Int)) = true := by rw [he]; simp
          obtain ⟨_, p2⟩ := placeL_at hkl he (unhide HE)
          have hp : ms[k] = P := by rw [← unhide HP, findL_at hkl he (unhide HE)]
          have hy : 0 = Y := by rw [← unhide HY, if_pos p2]
          rw [he] at HAL HAJ
          have KM := hide ((unhide KM1).below (unhide HAJ))
          have HE6 := hide (below6 (s := w.heap.size + 1) (unhide HAL) hle)
          subst hp hy
          have m0 := (unhide KM).cell 0
          have m1 := (unhide KM).cell 1
          have m2 := (unhide KM).cell 2
          have m3 := (unhide KM).cell 3
          have m4 := (unhide KM).cell 4
          have m5 := (unhide KM).cell 5
          simp only [List.getElem?_toArray, List.getElem?_cons_succ, List.getElem?_cons_zero] at m0 m1 m2 m3 m4 m5
          have fz0 := (unhide KM).frozen 0
          have fz1 := (unhide KM).frozen 1
          have fz2 := (unhide KM).frozen 2
          have fz3 := (unhide KM).frozen 3
          have fz4 := (unhide KM).frozen 4
          have fz5 := (unhide KM).frozen 5
          clear HP HY HE p2 HAJ hft KM HAL
          go_wp2
          refine bodyPost_ret (v := .tuple #[.agg #[.int .u32 (u : Int), .int .u8 (ms[k].fl : Int), .int .i64 ms[k].dy, .int .i64 ms[k].sc, .int .i64 ms[k].zn, .string ms[k].raw], .int .i64 0]) ?_ rfl ⟨by unfold msV; rw [he]; rfl, unhide HE6 _ _ _ _ _ _⟩
          rw [results_cell_tmp rfl]
          go_simp
        · have d : ((ms[k].uid : Int) == (u : Int)) = false := by simp; omega
          have HE2 : Hid (∀ (j : Nat) (hj : j < ms.length), j < k + 1 → ms[j].uid ≠ u) := hide (fun j hj hjk => by
            by_cases hjk2 : j < k
            · exact unhide HE j hj hjk2
            · obtain rfl : j = k := by omega
              exact he)
          clear hft HAL
          go_wp2
          exact ⟨⟨k + 1, by go_num, by omega, HE2, HAJ⟩, by simp [intOf]; omega⟩
      · have hlt1 : ¬ (k : Int) < (n : Int) := by omega
        obtain ⟨_, p2⟩ := placeL_no (fun j hj => unhide HE j hj (by rw [unhide HN] at hj; omega))
        have hp : zeroM = P := by rw [← unhide HP, findL_none p2]
        have hy : 3 = Y := by rw [← unhide HY, if_neg p2]
        have KM := hide ((unhide KM1).below (unhide BJ))
        have HE6 := hide (below6 (s := w.heap.size + 1) (belows' (unhide HB) (unhide BJ)) hle)
        subst hp hy
        have m0 := (unhide KM).cell 0
        have m1 := (unhide KM).cell 1
        have m2 := (unhide KM).cell 2
        have m3 := (unhide KM).cell 3
        have m4 := (unhide KM).cell 4
        have m5 := (unhide KM).cell 5
        simp only [List.getElem?_toArray, List.getElem?_cons_succ, List.getElem?_cons_zero] at m0 m1 m2 m3 m4 m5
        have fz0 := (unhide KM).frozen 0
        have fz1 := (unhide KM).frozen 1
        have fz2 := (unhide KM).frozen 2
        have fz3 := (unhide KM).frozen 3
        have fz4 := (unhide KM).frozen 4
        have fz5 := (unhide KM).frozen 5
        clear HP HY HE p2 KM
        go_wp2
        refine bodyPost_ret (v := .tuple #[msV zeroM, .int .i64 3]) ?_ rfl ⟨rfl, unhide HE6 _ _ _ _ _ _⟩
        rw [results_cell_tmp rfl]
        unfold msV zeroM
        go_simp
end Go.Proofs.YthpjogfclklefaaDoor
