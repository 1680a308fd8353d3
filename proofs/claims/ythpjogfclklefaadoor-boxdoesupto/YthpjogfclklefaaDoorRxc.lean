/-
  What the document's Check of a box does, over this seat's program: what the program's own tells.
-/
import Derived.Test.YthpjogfclklefaaDoorBnd2
import Derived.BigQuiet
set_option linter.unusedVariables false
set_option linter.unusedSimpArgs false
namespace Go.Proofs.YthpjogfclklefaaDoor
open Go.RowKit

set_option maxHeartbeats 8000000 in
set_option maxRecDepth 100000 in
theorem refBCheck_any (b : Bx) (v : Value) (w : World) (h : RowM w v b.ms) (hf : FitB b) :
    Calls Tryd.prog 14 #[bxV b v] w fun e w' => e = .returned (.int .i64 (chkB b : Int)) ∧ Below w.heap.size w w' := by
  obtain ⟨va, nx, mk, la, ms⟩ := b
  simp only [FitB] at hf
  simp only at h
  obtain ⟨hf1, hf2, hf3, hf4⟩ := hf
  have HR := hide h
  obtain ⟨a, cap, rfl, hl, _, _⟩ := h
  obtain ⟨n, hnn⟩ : ∃ n, ms.length = n := ⟨_, rfl⟩
  rw [hnn] at HR hl ⊢
  have HN := hide hnn
  clear hnn
  have HA := hide (show Below w.heap.size w (w.alloc (.cells #[.int .u32 (va : Int), .int .u64 (nx : Int), .int .u32 (mk : Int), .int .u32 (la : Int), .slice a n cap] 26)) from (Below.refl _ w).alloc (Nat.le_refl _) _)
  obtain ⟨C, hC⟩ : ∃ C, chkB ⟨va, nx, mk, la, ms⟩ = C := ⟨_, rfl⟩
  rw [hC]
  have HC := hide hC
  clear hC
  simp only [bxV, bxC]
  by_cases c0 : va = 0
  · have d0 : ((va : Int) == 0) = true := by simp; omega
    obtain rfl : 2 = C := by
      rw [← unhide HC]; unfold chkB okB; rw [if_neg]; simp only [Bool.and_eq_true, decide_eq_true_eq]; rintro ⟨h, _⟩; omega
    clear c0
    go_enter Tryd.func14, Tryd.ntmps14
    go_wp2
    go_ret
    exact ⟨rfl, unhide HA⟩
  · have d0 : ((va : Int) == 0) = false := by simp; omega
    by_cases c1 : nx < 1
    · have d1 : decide ((nx : Int) < 1) = true := by exact decide_eq_true (by omega)
      obtain rfl : 2 = C := by
        rw [← unhide HC]; unfold chkB okB; rw [if_neg]; simp only [Bool.and_eq_true, decide_eq_true_eq]; rintro ⟨h, _⟩; omega
      clear c1
      go_enter Tryd.func14, Tryd.ntmps14
      go_wp2
      go_ret
      exact ⟨rfl, unhide HA⟩
    · have d1 : decide ((nx : Int) < 1) = false := by exact decide_eq_false (by omega)
      by_cases c2 : nx > 4294967296
      · have d2 : decide ((nx : Int) > 4294967296) = true := by exact decide_eq_true (by omega)
        obtain rfl : 2 = C := by
          rw [← unhide HC]; unfold chkB okB; rw [if_neg]; simp only [Bool.and_eq_true, decide_eq_true_eq]; rintro ⟨h, _⟩; omega
        clear c2
        go_enter Tryd.func14, Tryd.ntmps14
        go_wp2
        go_ret
        exact ⟨rfl, unhide HA⟩
      · have d2 : decide ((nx : Int) > 4294967296) = false := by exact decide_eq_false (by omega)
        by_cases c3 : n > 4096
        · have d3 : decide ((n : Int) > 4096) = true := by exact decide_eq_true (by omega)
          obtain rfl : 2 = C := by
            rw [← unhide HC]; unfold chkB okB; rw [if_neg]; simp only [Bool.and_eq_true, decide_eq_true_eq]; rintro ⟨_, h, _⟩; have := unhide HN; omega
          clear c3
          go_enter Tryd.func14, Tryd.ntmps14
          go_wp2
          go_ret
          exact ⟨rfl, unhide HA⟩
        · have d3 : decide ((n : Int) > 4096) = false := by exact decide_eq_false (by omega)
          by_cases c4 : mk > la
          · have d4 : decide (la < mk) = true := by exact decide_eq_true (by omega)
            obtain rfl : 2 = C := by
              rw [← unhide HC]; unfold chkB okB; rw [if_neg]; simp only [Bool.and_eq_true, decide_eq_true_eq]; rintro ⟨h, _⟩; omega
            clear c4
            go_enter Tryd.func14, Tryd.ntmps14
            go_wp2
            go_ret
            exact ⟨rfl, unhide HA⟩
          · have d4 : decide (la < mk) = false := by exact decide_eq_false (by omega)
            by_cases c5 : la ≥ nx
            · have d5 : decide (nx ≤ la) = true := by exact decide_eq_true (by omega)
              obtain rfl : 2 = C := by
                rw [← unhide HC]; unfold chkB okB; rw [if_neg]; simp only [Bool.and_eq_true, decide_eq_true_eq]; rintro ⟨h, _⟩; omega
              clear c5
              go_enter Tryd.func14, Tryd.ntmps14
              go_wp2
              go_ret
              exact ⟨rfl, unhide HA⟩
            · have d5 : decide (nx ≤ la) = false := by exact decide_eq_false (by omega)
              have HRA := hide ((unhide HR).below (unhide HA))
              obtain ⟨r, hr⟩ : ∃ r, mailsOk nx 1 ms = r := ⟨_, rfl⟩
              have HC2 : Hid ((if r = true then 0 else 2) = C) := hide (by
                rw [← unhide HC]; unfold chkB okB
                simp only
                rw [hr, unhide HN, decide_eq_true (by omega : n ≤ 4096), decide_eq_true (by omega : va ≠ 0 ∧ 1 ≤ nx ∧ nx ≤ 4294967296 ∧ mk ≤ la ∧ la < nx)]
                simp)
              have HR0 := hide hr
              clear hr HC HR
              go_enter Tryd.func14, Tryd.ntmps14
              go_upto_region 3 with (fail)
              have z1 : (w.alloc (.cells #[.int .u32 (va : Int), .int .u64 (nx : Int), .int .u32 (mk : Int), .int .u32 (la : Int), .slice a n cap] 26)).cell? ⟨w.heap.size, 1, none⟩ = some (.int .u64 (nx : Int)) := by rw [World.cell?_alloc_at _ _ _ _ (by simp)]; rfl
              have z4 : (w.alloc (.cells #[.int .u32 (va : Int), .int .u64 (nx : Int), .int .u32 (mk : Int), .int .u32 (la : Int), .slice a n cap] 26)).cell? ⟨w.heap.size, 4, none⟩ = some (.slice a n cap) := by rw [World.cell?_alloc_at _ _ _ _ (by simp)]; rfl
              have hBB : w.heap.size < (w.alloc (.cells #[.int .u32 (va : Int), .int .u64 (nx : Int), .int .u32 (mk : Int), .int .u32 (la : Int), .slice a n cap] 26)).heap.size := by simp
              generalize w.alloc (.cells #[.int .u32 (va : Int), .int .u64 (nx : Int), .int .u32 (mk : Int), .int .u32 (la : Int), .slice a n cap] 26) = W1 at HA HRA z1 z4 hBB ⊢
              obtain ⟨B, hB⟩ : ∃ B, w.heap.size = B := ⟨_, rfl⟩
              rw [hB] at z1 z4 hBB ⊢
              have HFM := hide (fun X (hX : Below W1.heap.size W1 X) => belows' (unhide HA) hX)
              have HFN := hide (fun X (hX : Below W1.heap.size W1 X) => (show Below B w X by rw [← hB]; exact belows' (unhide HA) hX))
              have HZ1 : Hid (∀ W, Below W1.heap.size W1 W → W.cell? ⟨B, 1, none⟩ = some (.int .u64 (nx : Int)) ∧ W.cell? ⟨B, 4, none⟩ = some (.slice a n cap)) := hide (fun W hb => ⟨(hb.cell (p := ⟨B, 1, none⟩) hBB).trans z1, (hb.cell (p := ⟨B, 4, none⟩) hBB).trans z4⟩)
              go_wp2
              go_loopw [3, 4, 42] (fun _ _ z wr => ∃ k le : Nat, z = .int .i64 k ∧ k ≤ n ∧ Hid (mailsOk nx le (ms.drop k) = r) ∧ Hid (1 ≤ le ∧ (k = 0 → le = 1) ∧ (1 ≤ k → ∀ p, ms[k - 1]? = some p → le = p.uid + 1)) ∧ Hid (Below W1.heap.size W1 wr)) (fun _ _ z _ => n - (intOf z).toNat)
              case atStart => exact ⟨0, 1, rfl, Nat.zero_le _, HR0, hide ⟨by omega, fun _ => rfl, fun h => by omega⟩, hide (Below.refl _ _)⟩
              case round =>
                obtain ⟨k, le, rfl, hk, HE, HLE, HB⟩ := hrel
                have hle0 : 1 ≤ le := (unhide HLE).1
                have hlek : k = 0 → le = 1 := (unhide HLE).2.1
                have HPV := hide (unhide HLE).2.2
                clear HLE HR0 z1 z4
                by_cases hlt : k < n
                · skip
                  have hkl : k < ms.length := by rw [unhide HN]; exact hlt
                  have hlt1 : (k : Int) < (n : Int) := by omega
                  obtain ⟨g, off, rfl, hg, hft, c0, c1, c2, c3, c4, c5⟩ := RowM.mail (unhide HRA) (unhide HB) hkl
                  have hE := unhide HE
                  rw [mailsOk_at hkl] at hE
                  have HPP : Hid (1 ≤ k → ∃ pu, le = pu + 1 ∧ pu ≤ 4294967295 ∧ ∀ W, Below W1.heap.size W1 W → W.cell? ⟨g, off + (k - 1) * 6, none⟩ = some (.int .u32 (pu : Int))) := hide (fun hk1 => by
                    have hkl2 : k - 1 < ms.length := by omega
                    refine ⟨ms[k - 1].uid, unhide HPV hk1 _ (List.getElem?_eq_getElem hkl2), ?_, fun W hW => ?_⟩
                    · obtain ⟨_, _, _, _, hf2, _⟩ := RowM.mail (unhide HRA) (unhide HB) hkl2
                      exact hf2.1
                    · obtain ⟨g', off', e, _, _, d0, _⟩ := RowM.mail (unhide HRA) hW hkl2
                      injection e with e
                      injection e with e1 e2
                      subst e1 e2
                      exact d0)
                  have HPN : Hid (1 ≤ k + 1 → ∀ p, ms[(k + 1) - 1]? = some p → ms[k].uid + 1 = p.uid + 1) := hide (fun _ p hp => by
                    rw [Nat.add_sub_cancel, List.getElem?_eq_getElem hkl] at hp
                    rw [Option.some.inj hp])
                  obtain ⟨u, hu⟩ : ∃ u, ms[k].uid = u := ⟨_, rfl⟩
                  obtain ⟨f, hff⟩ : ∃ f, ms[k].fl = f := ⟨_, rfl⟩
                  obtain ⟨dy, hdy⟩ : ∃ x, ms[k].dy = x := ⟨_, rfl⟩
                  obtain ⟨sc, hsc⟩ : ∃ x, ms[k].sc = x := ⟨_, rfl⟩
                  obtain ⟨zn, hzn⟩ : ∃ x, ms[k].zn = x := ⟨_, rfl⟩
                  obtain ⟨rw_, hrw⟩ : ∃ x, ms[k].raw = x := ⟨_, rfl⟩
                  unfold FitM at hft
                  rw [hu, hff, hdy, hsc, hzn, hrw] at hE hft
                  rw [hu] at c0 HPN
                  rw [hff] at c1
                  rw [hdy] at c2
                  rw [hsc] at c3
                  rw [hzn] at c4
                  rw [hrw] at c5
                  have hu1 : u ≤ 4294967295 := hft.1
                  have hf1 : f ≤ 255 := hft.2.1
                  have hrz : rw_.size ≤ 16777216 := hft.2.2.2.2.2
                  have hw64 : IntKind.u64.wrap (u : Int) = (u : Int) := by simp [IntKind.wrap, IntKind.bits, IntKind.signed]; omega
                  have HEE := hide hE
                  have HFI := hide (fun W => refFine_any f dy sc zn rw_ W hrz)
                  clear hu hff hdy hsc hzn hrw hft hE HE HPV
                  have HAL := hide (show Below wr.heap.size wr (wr.alloc (.cells #[.int .u32 (u : Int), .int .u8 (f : Int), .int .i64 dy, .int .i64 sc, .int .i64 zn, .string rw_] 47)) from (Below.refl _ wr).alloc (Nat.le_refl _) _)
                  go_upto_region 6 with (fail)
                  have a0 : (wr.alloc (.cells #[.int .u32 (u : Int), .int .u8 (f : Int), .int .i64 dy, .int .i64 sc, .int .i64 zn, .string rw_] 47)).cell? ⟨wr.heap.size, 0, none⟩ = some (.int .u32 (u : Int)) := by rw [World.cell?_alloc_at _ _ _ _ (by simp)]; rfl
                  have a1 : (wr.alloc (.cells #[.int .u32 (u : Int), .int .u8 (f : Int), .int .i64 dy, .int .i64 sc, .int .i64 zn, .string rw_] 47)).cell? ⟨wr.heap.size, 1, none⟩ = some (.int .u8 (f : Int)) := by rw [World.cell?_alloc_at _ _ _ _ (by simp)]; rfl
                  have a2 : (wr.alloc (.cells #[.int .u32 (u : Int), .int .u8 (f : Int), .int .i64 dy, .int .i64 sc, .int .i64 zn, .string rw_] 47)).cell? ⟨wr.heap.size, 2, none⟩ = some (.int .i64 dy) := by rw [World.cell?_alloc_at _ _ _ _ (by simp)]; rfl
                  have a3 : (wr.alloc (.cells #[.int .u32 (u : Int), .int .u8 (f : Int), .int .i64 dy, .int .i64 sc, .int .i64 zn, .string rw_] 47)).cell? ⟨wr.heap.size, 3, none⟩ = some (.int .i64 sc) := by rw [World.cell?_alloc_at _ _ _ _ (by simp)]; rfl
                  have a4 : (wr.alloc (.cells #[.int .u32 (u : Int), .int .u8 (f : Int), .int .i64 dy, .int .i64 sc, .int .i64 zn, .string rw_] 47)).cell? ⟨wr.heap.size, 4, none⟩ = some (.int .i64 zn) := by rw [World.cell?_alloc_at _ _ _ _ (by simp)]; rfl
                  have a5 : (wr.alloc (.cells #[.int .u32 (u : Int), .int .u8 (f : Int), .int .i64 dy, .int .i64 sc, .int .i64 zn, .string rw_] 47)).cell? ⟨wr.heap.size, 5, none⟩ = some (.string rw_) := by rw [World.cell?_alloc_at _ _ _ _ (by simp)]; rfl
                  have hB7 : wr.heap.size < (wr.alloc (.cells #[.int .u32 (u : Int), .int .u8 (f : Int), .int .i64 dy, .int .i64 sc, .int .i64 zn, .string rw_] 47)).heap.size := by simp
                  have HB2 := hide (belows' (unhide HB) (unhide HAL))
                  generalize wr.alloc (.cells #[.int .u32 (u : Int), .int .u8 (f : Int), .int .i64 dy, .int .i64 sc, .int .i64 zn, .string rw_] 47) = W2 at a0 a1 a2 a3 a4 a5 hB7 HB2 HAL ⊢
                  generalize wr.heap.size = B7 at a0 a1 a2 a3 a4 a5 hB7 ⊢
                  have HX : Hid (∀ W, Below W2.heap.size W2 W → W.cell? ⟨B7, 0, none⟩ = some (.int .u32 (u : Int)) ∧ W.cell? ⟨B7, 1, none⟩ = some (.int .u8 (f : Int)) ∧ W.cell? ⟨B7, 2, none⟩ = some (.int .i64 dy) ∧ W.cell? ⟨B7, 3, none⟩ = some (.int .i64 sc) ∧ W.cell? ⟨B7, 4, none⟩ = some (.int .i64 zn) ∧ W.cell? ⟨B7, 5, none⟩ = some (.string rw_)) := hide (fun W hb => ⟨(hb.cell (p := ⟨B7, 0, none⟩) hB7).trans a0, (hb.cell (p := ⟨B7, 1, none⟩) hB7).trans a1, (hb.cell (p := ⟨B7, 2, none⟩) hB7).trans a2, (hb.cell (p := ⟨B7, 3, none⟩) hB7).trans a3, (hb.cell (p := ⟨B7, 4, none⟩) hB7).trans a4, (hb.cell (p := ⟨B7, 5, none⟩) hB7).trans a5⟩)
                  have HZ : Hid (∀ W, Below W2.heap.size W2 W → W.cell? ⟨B, 1, none⟩ = some (.int .u64 (nx : Int)) ∧ W.cell? ⟨B, 4, none⟩ = some (.slice (some ⟨g, off, none⟩) n cap)) := hide (fun W hb => unhide HZ1 W (belows' (unhide HB2) hb))
                  clear c0 c1 c2 c3 c4 c5 HB HAL a0 a1 a2 a3 a4 a5
                  by_cases hu0 : u = 0
                  · have d1 : ((u : Int) == 0) = true := by simp; omega
                    have hle1 : 1 ≤ le := hle0
                    have hfin : r = false := by
                      have h := unhide HEE
                      rw [decide_eq_false (by omega : ¬ (le ≤ u ∧ u < nx))] at h
                      exact h.symm
                    have hc : 2 = C := by have h := unhide HC2; rw [hfin, if_neg (by simp)] at h; exact h
                    subst hc
                    obtain ⟨x0, x1, x2, x3, x4, x5⟩ := unhide HX W2 (Below.refl _ _)
                    obtain ⟨q1, q4⟩ := unhide HZ W2 (Below.refl _ _)
                    clear HEE HPN hfin HC2 HX HZ
                    go_quiet (fail)
                    go_wp2
                    go_ret
                    first | exact ⟨rfl, unhide HFM _ (below_drewN (unhide HB2) _)⟩ | exact ⟨rfl, unhide HFN _ (below_drewN (unhide HB2) _)⟩
                  · have d1 : ((u : Int) == 0) = false := by simp; omega
                    by_cases hun : nx ≤ u
                    · have d2 : decide (nx ≤ u) = true := decide_eq_true hun
                      have d3 : decide ((nx : Int) ≤ (u : Int)) = true := decide_eq_true (by omega)
                      have hfin : r = false := by
                        have h := unhide HEE
                        rw [decide_eq_false (by omega : ¬ (le ≤ u ∧ u < nx))] at h
                        exact h.symm
                      have hc : 2 = C := by have h := unhide HC2; rw [hfin, if_neg (by simp)] at h; exact h
                      subst hc
                      obtain ⟨x0, x1, x2, x3, x4, x5⟩ := unhide HX W2 (Below.refl _ _)
                      obtain ⟨q1, q4⟩ := unhide HZ W2 (Below.refl _ _)
                      clear HEE HPN hfin HC2 HX HZ
                      go_quiet (fail)
                      go_wp2
                      go_ret
                      first | exact ⟨rfl, unhide HFM _ (below_drewN (unhide HB2) _)⟩ | exact ⟨rfl, unhide HFN _ (below_drewN (unhide HB2) _)⟩
                    · have d2 : decide (nx ≤ u) = false := decide_eq_false hun
                      have d3 : decide ((nx : Int) ≤ (u : Int)) = false := decide_eq_false (by omega)
                      by_cases hk0 : k = 0
                      · have dk : decide ((0 : Int) < (k : Int)) = false := decide_eq_false (by omega)
                        have dk2 : decide ((k : Int) > 0) = false := decide_eq_false (by omega)
                        have dk3 : decide (0 < k) = false := decide_eq_false (by omega)
                        have hle1 : le = 1 := hlek hk0
                        have HE2 : Hid (((decide (f ≤ 31) && (rightB dy sc zn && decide (rw_.size ≤ 65536))) && mailsOk nx (u + 1) (ms.drop (k + 1))) = r) := hide (by
                          rw [Bool.and_comm (rightB dy sc zn)]
                          have h := unhide HEE
                          rw [decide_eq_true (by omega : le ≤ u ∧ u < nx), Bool.true_and] at h
                          exact h)
                        clear HEE HPP hk0
                        cases hfi : decide (f ≤ 31) && (rightB dy sc zn && decide (rw_.size ≤ 65536)) with
                        | false =>
                          rw [hfi] at HFI HE2
                          have hc : 2 = C := by have h := unhide HC2; rw [← unhide HE2, if_neg (by simp)] at h; exact h
                          subst hc
                          clear HE2 HC2 HPN hfi
                          refine wp_region_held_drew (S := (fun w' => Below W2.heap.size W2 w')) (by kernel_rfl) ?_ (fun hHeld => ?_)
                          · exact ⟨rfl, rfl, rfl, Nat.le_refl _, fun _ _ => rfl⟩
                          refine wpAnyH_take (i := 0) (v := .pointer (some ⟨B7, 0, none⟩)) rfl (by kernel_rfl) (by kernel_rfl) (by kernel_rfl) (fun _ _ _ h => h) (Or.inl ⟨by kernel_rfl, fun wS hSw => ?_⟩) (by assumption) ?_
                          · (try dsimp only at hSw); go_simp
                          (try simp only [Act.put, List.setIfInBounds_toArray, List.set_cons_zero, List.set_cons_succ])
                          refine wpAnyH_take (i := 1) (v := .int .u32 (u : Int)) rfl (by kernel_rfl) (by kernel_rfl) (by kernel_rfl) (fun _ _ _ h => h) (Or.inl ⟨by kernel_rfl, fun wS hSw => ?_⟩) (by assumption) ?_
                          · (try dsimp only at hSw); have hx := unhide HX wS hSw; clear hSw; go_simp
                          (try simp only [Act.put, List.setIfInBounds_toArray, List.set_cons_zero, List.set_cons_succ])
                          refine wpAnyH_take (i := 2) (v := .bool false) rfl (by kernel_rfl) (by kernel_rfl) (by kernel_rfl) (fun _ _ _ h => h) (Or.inl ⟨by kernel_rfl, fun wS hSw => ?_⟩) (by assumption) ?_
                          · (try dsimp only at hSw); go_simp
                          (try simp only [Act.put, List.setIfInBounds_toArray, List.set_cons_zero, List.set_cons_succ])
                          refine wpAnyH_take (i := 3) (v := .bool false) rfl (by kernel_rfl) (by kernel_rfl) (by kernel_rfl) (fun _ _ _ h => h) (Or.inl ⟨by kernel_rfl, fun wS hSw => ?_⟩) (by assumption) ?_
                          · (try dsimp only at hSw); go_simp
                          (try simp only [Act.put, List.setIfInBounds_toArray, List.set_cons_zero, List.set_cons_succ])
                          refine wpAnyH_take (i := 4) (v := .pointer (some ⟨B7, 0, none⟩)) rfl (by kernel_rfl) (by kernel_rfl) (by kernel_rfl) (fun _ _ _ h => h) (Or.inl ⟨by kernel_rfl, fun wS hSw => ?_⟩) (by assumption) ?_
                          · (try dsimp only at hSw); go_simp
                          (try simp only [Act.put, List.setIfInBounds_toArray, List.set_cons_zero, List.set_cons_succ])
                          refine wpAnyH_take (i := 5) (v := .int .u32 (u : Int)) rfl (by kernel_rfl) (by kernel_rfl) (by kernel_rfl) (fun _ _ _ h => h) (Or.inl ⟨by kernel_rfl, fun wS hSw => ?_⟩) (by assumption) ?_
                          · (try dsimp only at hSw); have hx := unhide HX wS hSw; clear hSw; go_simp
                          (try simp only [Act.put, List.setIfInBounds_toArray, List.set_cons_zero, List.set_cons_succ])
                          refine wpAnyH_take (i := 6) (v := .int .u64 (u : Int)) rfl (by kernel_rfl) (by kernel_rfl) (by kernel_rfl) (fun _ _ _ h => h) (Or.inl ⟨by kernel_rfl, fun wS hSw => ?_⟩) (by assumption) ?_
                          · (try dsimp only at hSw); go_simp
                          (try simp only [Act.put, List.setIfInBounds_toArray, List.set_cons_zero, List.set_cons_succ])
                          refine wpAnyH_take (i := 7) (v := .pointer (some ⟨B, 1, none⟩)) rfl (by kernel_rfl) (by kernel_rfl) (by kernel_rfl) (fun _ _ _ h => h) (Or.inl ⟨by kernel_rfl, fun wS hSw => ?_⟩) (by assumption) ?_
                          · (try dsimp only at hSw); go_simp
                          (try simp only [Act.put, List.setIfInBounds_toArray, List.set_cons_zero, List.set_cons_succ])
                          refine wpAnyH_take (i := 8) (v := .int .u64 (nx : Int)) rfl (by kernel_rfl) (by kernel_rfl) (by kernel_rfl) (fun _ _ _ h => h) (Or.inl ⟨by kernel_rfl, fun wS hSw => ?_⟩) (by assumption) ?_
                          · (try dsimp only at hSw); have hx := unhide HZ wS hSw; clear hSw; go_simp
                          (try simp only [Act.put, List.setIfInBounds_toArray, List.set_cons_zero, List.set_cons_succ])
                          refine wpAnyH_take (i := 9) (v := .bool false) rfl (by kernel_rfl) (by kernel_rfl) (by kernel_rfl) (fun _ _ _ h => h) (Or.inl ⟨by kernel_rfl, fun wS hSw => ?_⟩) (by assumption) ?_
                          · (try dsimp only at hSw); go_simp
                          (try simp only [Act.put, List.setIfInBounds_toArray, List.set_cons_zero, List.set_cons_succ])
                          refine wpAnyH_take (i := 10) (v := .bool false) rfl (by kernel_rfl) (by kernel_rfl) (by kernel_rfl) (fun _ _ _ h => h) (Or.inl ⟨by kernel_rfl, fun wS hSw => ?_⟩) (by assumption) ?_
                          · (try dsimp only at hSw); go_simp
                          (try simp only [Act.put, List.setIfInBounds_toArray, List.set_cons_zero, List.set_cons_succ])
                          refine wpAnyH_take (i := 11) (v := .bool false) rfl (by kernel_rfl) (by kernel_rfl) (by kernel_rfl) (fun _ _ _ h => h) (Or.inl ⟨by kernel_rfl, fun wS hSw => ?_⟩) (by assumption) ?_
                          · (try dsimp only at hSw); go_simp
                          (try simp only [Act.put, List.setIfInBounds_toArray, List.set_cons_zero, List.set_cons_succ])
                          refine wpAnyH_take (i := 12) (v := .int .i64 (k : Int)) rfl (by kernel_rfl) (by kernel_rfl) (by kernel_rfl) (fun _ _ _ h => h) (Or.inl ⟨by kernel_rfl, fun wS hSw => ?_⟩) (by assumption) ?_
                          · (try dsimp only at hSw); go_simp
                          (try simp only [Act.put, List.setIfInBounds_toArray, List.set_cons_zero, List.set_cons_succ])
                          refine wpAnyH_take (i := 13) (v := .bool false) rfl (by kernel_rfl) (by kernel_rfl) (by kernel_rfl) (fun _ _ _ h => h) (Or.inl ⟨by kernel_rfl, fun wS hSw => ?_⟩) (by assumption) ?_
                          · (try dsimp only at hSw); go_simp
                          (try simp only [Act.put, List.setIfInBounds_toArray, List.set_cons_zero, List.set_cons_succ])
                          refine wpAnyH_take (i := 14) (v := .bool false) rfl (by kernel_rfl) (by kernel_rfl) (by kernel_rfl) (fun _ _ _ h => h) (Or.inl ⟨by kernel_rfl, fun wS hSw => ?_⟩) (by assumption) ?_
                          · (try dsimp only at hSw); go_simp
                          (try simp only [Act.put, List.setIfInBounds_toArray, List.set_cons_zero, List.set_cons_succ])
                          refine wpAnyH_take (i := 15) (v := undef) rfl (by kernel_rfl) (by kernel_rfl) (by kernel_rfl) (fun _ _ _ h => h) (Or.inr ⟨by kernel_rfl, rfl⟩) (by assumption) ?_
                          (try simp only [Act.put, List.setIfInBounds_toArray, List.set_cons_zero, List.set_cons_succ])
                          refine wpAnyH_take (i := 16) (v := undef) rfl (by kernel_rfl) (by kernel_rfl) (by kernel_rfl) (fun _ _ _ h => h) (Or.inr ⟨by kernel_rfl, rfl⟩) (by assumption) ?_
                          (try simp only [Act.put, List.setIfInBounds_toArray, List.set_cons_zero, List.set_cons_succ])
                          refine wpAnyH_take (i := 17) (v := undef) rfl (by kernel_rfl) (by kernel_rfl) (by kernel_rfl) (fun _ _ _ h => h) (Or.inr ⟨by kernel_rfl, rfl⟩) (by assumption) ?_
                          (try simp only [Act.put, List.setIfInBounds_toArray, List.set_cons_zero, List.set_cons_succ])
                          refine wpAnyH_take (i := 18) (v := undef) rfl (by kernel_rfl) (by kernel_rfl) (by kernel_rfl) (fun _ _ _ h => h) (Or.inr ⟨by kernel_rfl, rfl⟩) (by assumption) ?_
                          (try simp only [Act.put, List.setIfInBounds_toArray, List.set_cons_zero, List.set_cons_succ])
                          refine wpAnyH_take (i := 19) (v := undef) rfl (by kernel_rfl) (by kernel_rfl) (by kernel_rfl) (fun _ _ _ h => h) (Or.inr ⟨by kernel_rfl, rfl⟩) (by assumption) ?_
                          (try simp only [Act.put, List.setIfInBounds_toArray, List.set_cons_zero, List.set_cons_succ])
                          refine wpAnyH_take (i := 20) (v := undef) rfl (by kernel_rfl) (by kernel_rfl) (by kernel_rfl) (fun _ _ _ h => h) (Or.inr ⟨by kernel_rfl, rfl⟩) (by assumption) ?_
                          (try simp only [Act.put, List.setIfInBounds_toArray, List.set_cons_zero, List.set_cons_succ])
                          refine wpAnyH_take (i := 21) (v := undef) rfl (by kernel_rfl) (by kernel_rfl) (by kernel_rfl) (fun _ _ _ h => h) (Or.inr ⟨by kernel_rfl, rfl⟩) (by assumption) ?_
                          (try simp only [Act.put, List.setIfInBounds_toArray, List.set_cons_zero, List.set_cons_succ])
                          refine wpAnyH_take (i := 22) (v := undef) rfl (by kernel_rfl) (by kernel_rfl) (by kernel_rfl) (fun _ _ _ h => h) (Or.inr ⟨by kernel_rfl, rfl⟩) (by assumption) ?_
                          (try simp only [Act.put, List.setIfInBounds_toArray, List.set_cons_zero, List.set_cons_succ])
                          refine wpAnyH_take (i := 23) (v := undef) rfl (by kernel_rfl) (by kernel_rfl) (by kernel_rfl) (fun _ _ _ h => h) (Or.inr ⟨by kernel_rfl, rfl⟩) (by assumption) ?_
                          (try simp only [Act.put, List.setIfInBounds_toArray, List.set_cons_zero, List.set_cons_succ])
                          refine wpAnyH_take (i := 24) (v := undef) rfl (by kernel_rfl) (by kernel_rfl) (by kernel_rfl) (fun _ _ _ h => h) (Or.inr ⟨by kernel_rfl, rfl⟩) (by assumption) ?_
                          (try simp only [Act.put, List.setIfInBounds_toArray, List.set_cons_zero, List.set_cons_succ])
                          refine wpAnyH_take (i := 25) (v := .bool false) rfl (by kernel_rfl) (by kernel_rfl) (by kernel_rfl) (fun _ _ _ h => h) (Or.inl ⟨by kernel_rfl, fun wS hSw => ?_⟩) (by assumption) ?_
                          · (try dsimp only at hSw); go_simp
                          (try simp only [Act.put, List.setIfInBounds_toArray, List.set_cons_zero, List.set_cons_succ])
                          refine wpAnyH_take (i := 26) (v := .bool false) rfl (by kernel_rfl) (by kernel_rfl) (by kernel_rfl) (fun _ _ _ h => h) (Or.inl ⟨by kernel_rfl, fun wS hSw => ?_⟩) (by assumption) ?_
                          · (try dsimp only at hSw); go_simp
                          (try simp only [Act.put, List.setIfInBounds_toArray, List.set_cons_zero, List.set_cons_succ])
                          refine wpAnyH_take (i := 27) (v := .bool false) rfl (by kernel_rfl) (by kernel_rfl) (by kernel_rfl) (fun _ _ _ h => h) (Or.inl ⟨by kernel_rfl, fun wS hSw => ?_⟩) (by assumption) ?_
                          · (try dsimp only at hSw); go_simp
                          (try simp only [Act.put, List.setIfInBounds_toArray, List.set_cons_zero, List.set_cons_succ])
                          refine wpAnyH_take (i := 28) (v := .pointer (some ⟨B7, 1, none⟩)) rfl (by kernel_rfl) (by kernel_rfl) (by kernel_rfl) (fun _ _ _ h => h) (Or.inl ⟨by kernel_rfl, fun wS hSw => ?_⟩) (by assumption) ?_
                          · (try dsimp only at hSw); go_simp
                          (try simp only [Act.put, List.setIfInBounds_toArray, List.set_cons_zero, List.set_cons_succ])
                          refine wpAnyH_take (i := 29) (v := .int .u8 (f : Int)) rfl (by kernel_rfl) (by kernel_rfl) (by kernel_rfl) (fun _ _ _ h => h) (Or.inl ⟨by kernel_rfl, fun wS hSw => ?_⟩) (by assumption) ?_
                          · (try dsimp only at hSw); have hx := unhide HX wS hSw; clear hSw; go_simp
                          (try simp only [Act.put, List.setIfInBounds_toArray, List.set_cons_zero, List.set_cons_succ])
                          refine wpAnyH_take (i := 30) (v := .pointer (some ⟨B7, 2, none⟩)) rfl (by kernel_rfl) (by kernel_rfl) (by kernel_rfl) (fun _ _ _ h => h) (Or.inl ⟨by kernel_rfl, fun wS hSw => ?_⟩) (by assumption) ?_
                          · (try dsimp only at hSw); go_simp
                          (try simp only [Act.put, List.setIfInBounds_toArray, List.set_cons_zero, List.set_cons_succ])
                          refine wpAnyH_take (i := 31) (v := .agg #[.int .i64 dy, .int .i64 sc, .int .i64 zn]) rfl (by kernel_rfl) (by kernel_rfl) (by kernel_rfl) (fun _ _ _ h => h) (Or.inl ⟨by kernel_rfl, fun wS hSw => ?_⟩) (by assumption) ?_
                          · (try dsimp only at hSw); have hx := unhide HX wS hSw; clear hSw; go_simp
                          (try simp only [Act.put, List.setIfInBounds_toArray, List.set_cons_zero, List.set_cons_succ])
                          refine wpAnyH_take (i := 32) (v := .pointer (some ⟨B7, 5, none⟩)) rfl (by kernel_rfl) (by kernel_rfl) (by kernel_rfl) (fun _ _ _ h => h) (Or.inl ⟨by kernel_rfl, fun wS hSw => ?_⟩) (by assumption) ?_
                          · (try dsimp only at hSw); go_simp
                          (try simp only [Act.put, List.setIfInBounds_toArray, List.set_cons_zero, List.set_cons_succ])
                          refine wpAnyH_take (i := 33) (v := .string rw_) rfl (by kernel_rfl) (by kernel_rfl) (by kernel_rfl) (fun _ _ _ h => h) (Or.inl ⟨by kernel_rfl, fun wS hSw => ?_⟩) (by assumption) ?_
                          · (try dsimp only at hSw); have hx := unhide HX wS hSw; clear hSw; go_simp
                          (try simp only [Act.put, List.setIfInBounds_toArray, List.set_cons_zero, List.set_cons_succ])
                          refine wpAnyH_ready (rs := [34]) (by kernel_rfl) (by simp) ?_
                          refine AllReadyH.cons rfl (fun K hK => ?_) AllReadyH.nil
                          have hB : Below W2.heap.size W2 _ := hHeld
                          go_simp
                          refine (unhide HFI _).mono ?_
                          rintro e w6 ⟨rfl, b6⟩
                          have hw6 : Below W2.heap.size W2 w6 := belows' hB b6
                          clear b6 hB
                          go_wp2_with fail
                          refine hK.out _ _ ?_ (fun hHeld => ?_)
                          · exact hw6
                          clear hK K
                          (try simp only [Act.put, List.setIfInBounds_toArray, List.set_cons_zero, List.set_cons_succ])
                          refine wpAnyH_take (i := 35) (v := .bool true) rfl (by kernel_rfl) (by kernel_rfl) (by kernel_rfl) (fun _ _ _ h => h) (Or.inl ⟨by kernel_rfl, fun wS hSw => ?_⟩) (by assumption) ?_
                          · (try dsimp only at hSw); go_simp
                          (try simp only [Act.put, List.setIfInBounds_toArray, List.set_cons_zero, List.set_cons_succ])
                          refine wpAnyH_take (i := 36) (v := .bool true) rfl (by kernel_rfl) (by kernel_rfl) (by kernel_rfl) (fun _ _ _ h => h) (Or.inl ⟨by kernel_rfl, fun wS hSw => ?_⟩) (by assumption) ?_
                          · (try dsimp only at hSw); go_simp
                          (try simp only [Act.put, List.setIfInBounds_toArray, List.set_cons_zero, List.set_cons_succ])
                          refine wpAnyH_done (by kernel_rfl) ?_ _
                          have B9 := hide (belows' (unhide HB2) hHeld)
                          clear hHeld
                          go_wp2
                          go_ret
                          first | exact ⟨rfl, unhide HFM _ (unhide B9)⟩ | exact ⟨rfl, unhide HFN _ (unhide B9)⟩
                        | true =>
                          rw [hfi] at HFI HE2
                          have HE3 : Hid (mailsOk nx (u + 1) (ms.drop (k + 1)) = r) := hide (by simpa using unhide HE2)
                          clear HE2 hfi
                          refine wp_region_held_drew (S := (fun w' => Below W2.heap.size W2 w')) (by kernel_rfl) ?_ (fun hHeld => ?_)
                          · exact ⟨rfl, rfl, rfl, Nat.le_refl _, fun _ _ => rfl⟩
                          refine wpAnyH_take (i := 0) (v := .pointer (some ⟨B7, 0, none⟩)) rfl (by kernel_rfl) (by kernel_rfl) (by kernel_rfl) (fun _ _ _ h => h) (Or.inl ⟨by kernel_rfl, fun wS hSw => ?_⟩) (by assumption) ?_
                          · (try dsimp only at hSw); go_simp
                          (try simp only [Act.put, List.setIfInBounds_toArray, List.set_cons_zero, List.set_cons_succ])
                          refine wpAnyH_take (i := 1) (v := .int .u32 (u : Int)) rfl (by kernel_rfl) (by kernel_rfl) (by kernel_rfl) (fun _ _ _ h => h) (Or.inl ⟨by kernel_rfl, fun wS hSw => ?_⟩) (by assumption) ?_
                          · (try dsimp only at hSw); have hx := unhide HX wS hSw; clear hSw; go_simp
                          (try simp only [Act.put, List.setIfInBounds_toArray, List.set_cons_zero, List.set_cons_succ])
                          refine wpAnyH_take (i := 2) (v := .bool false) rfl (by kernel_rfl) (by kernel_rfl) (by kernel_rfl) (fun _ _ _ h => h) (Or.inl ⟨by kernel_rfl, fun wS hSw => ?_⟩) (by assumption) ?_
                          · (try dsimp only at hSw); go_simp
                          (try simp only [Act.put, List.setIfInBounds_toArray, List.set_cons_zero, List.set_cons_succ])
                          refine wpAnyH_take (i := 3) (v := .bool false) rfl (by kernel_rfl) (by kernel_rfl) (by kernel_rfl) (fun _ _ _ h => h) (Or.inl ⟨by kernel_rfl, fun wS hSw => ?_⟩) (by assumption) ?_
                          · (try dsimp only at hSw); go_simp
                          (try simp only [Act.put, List.setIfInBounds_toArray, List.set_cons_zero, List.set_cons_succ])
                          refine wpAnyH_take (i := 4) (v := .pointer (some ⟨B7, 0, none⟩)) rfl (by kernel_rfl) (by kernel_rfl) (by kernel_rfl) (fun _ _ _ h => h) (Or.inl ⟨by kernel_rfl, fun wS hSw => ?_⟩) (by assumption) ?_
                          · (try dsimp only at hSw); go_simp
                          (try simp only [Act.put, List.setIfInBounds_toArray, List.set_cons_zero, List.set_cons_succ])
                          refine wpAnyH_take (i := 5) (v := .int .u32 (u : Int)) rfl (by kernel_rfl) (by kernel_rfl) (by kernel_rfl) (fun _ _ _ h => h) (Or.inl ⟨by kernel_rfl, fun wS hSw => ?_⟩) (by assumption) ?_
                          · (try dsimp only at hSw); have hx := unhide HX wS hSw; clear hSw; go_simp
                          (try simp only [Act.put, List.setIfInBounds_toArray, List.set_cons_zero, List.set_cons_succ])
                          refine wpAnyH_take (i := 6) (v := .int .u64 (u : Int)) rfl (by kernel_rfl) (by kernel_rfl) (by kernel_rfl) (fun _ _ _ h => h) (Or.inl ⟨by kernel_rfl, fun wS hSw => ?_⟩) (by assumption) ?_
                          · (try dsimp only at hSw); go_simp
                          (try simp only [Act.put, List.setIfInBounds_toArray, List.set_cons_zero, List.set_cons_succ])
                          refine wpAnyH_take (i := 7) (v := .pointer (some ⟨B, 1, none⟩)) rfl (by kernel_rfl) (by kernel_rfl) (by kernel_rfl) (fun _ _ _ h => h) (Or.inl ⟨by kernel_rfl, fun wS hSw => ?_⟩) (by assumption) ?_
                          · (try dsimp only at hSw); go_simp
                          (try simp only [Act.put, List.setIfInBounds_toArray, List.set_cons_zero, List.set_cons_succ])
                          refine wpAnyH_take (i := 8) (v := .int .u64 (nx : Int)) rfl (by kernel_rfl) (by kernel_rfl) (by kernel_rfl) (fun _ _ _ h => h) (Or.inl ⟨by kernel_rfl, fun wS hSw => ?_⟩) (by assumption) ?_
                          · (try dsimp only at hSw); have hx := unhide HZ wS hSw; clear hSw; go_simp
                          (try simp only [Act.put, List.setIfInBounds_toArray, List.set_cons_zero, List.set_cons_succ])
                          refine wpAnyH_take (i := 9) (v := .bool false) rfl (by kernel_rfl) (by kernel_rfl) (by kernel_rfl) (fun _ _ _ h => h) (Or.inl ⟨by kernel_rfl, fun wS hSw => ?_⟩) (by assumption) ?_
                          · (try dsimp only at hSw); go_simp
                          (try simp only [Act.put, List.setIfInBounds_toArray, List.set_cons_zero, List.set_cons_succ])
                          refine wpAnyH_take (i := 10) (v := .bool false) rfl (by kernel_rfl) (by kernel_rfl) (by kernel_rfl) (fun _ _ _ h => h) (Or.inl ⟨by kernel_rfl, fun wS hSw => ?_⟩) (by assumption) ?_
                          · (try dsimp only at hSw); go_simp
                          (try simp only [Act.put, List.setIfInBounds_toArray, List.set_cons_zero, List.set_cons_succ])
                          refine wpAnyH_take (i := 11) (v := .bool false) rfl (by kernel_rfl) (by kernel_rfl) (by kernel_rfl) (fun _ _ _ h => h) (Or.inl ⟨by kernel_rfl, fun wS hSw => ?_⟩) (by assumption) ?_
                          · (try dsimp only at hSw); go_simp
                          (try simp only [Act.put, List.setIfInBounds_toArray, List.set_cons_zero, List.set_cons_succ])
                          refine wpAnyH_take (i := 12) (v := .int .i64 (k : Int)) rfl (by kernel_rfl) (by kernel_rfl) (by kernel_rfl) (fun _ _ _ h => h) (Or.inl ⟨by kernel_rfl, fun wS hSw => ?_⟩) (by assumption) ?_
                          · (try dsimp only at hSw); go_simp
                          (try simp only [Act.put, List.setIfInBounds_toArray, List.set_cons_zero, List.set_cons_succ])
                          refine wpAnyH_take (i := 13) (v := .bool false) rfl (by kernel_rfl) (by kernel_rfl) (by kernel_rfl) (fun _ _ _ h => h) (Or.inl ⟨by kernel_rfl, fun wS hSw => ?_⟩) (by assumption) ?_
                          · (try dsimp only at hSw); go_simp
                          (try simp only [Act.put, List.setIfInBounds_toArray, List.set_cons_zero, List.set_cons_succ])
                          refine wpAnyH_take (i := 14) (v := .bool false) rfl (by kernel_rfl) (by kernel_rfl) (by kernel_rfl) (fun _ _ _ h => h) (Or.inl ⟨by kernel_rfl, fun wS hSw => ?_⟩) (by assumption) ?_
                          · (try dsimp only at hSw); go_simp
                          (try simp only [Act.put, List.setIfInBounds_toArray, List.set_cons_zero, List.set_cons_succ])
                          refine wpAnyH_take (i := 15) (v := undef) rfl (by kernel_rfl) (by kernel_rfl) (by kernel_rfl) (fun _ _ _ h => h) (Or.inr ⟨by kernel_rfl, rfl⟩) (by assumption) ?_
                          (try simp only [Act.put, List.setIfInBounds_toArray, List.set_cons_zero, List.set_cons_succ])
                          refine wpAnyH_take (i := 16) (v := undef) rfl (by kernel_rfl) (by kernel_rfl) (by kernel_rfl) (fun _ _ _ h => h) (Or.inr ⟨by kernel_rfl, rfl⟩) (by assumption) ?_
                          (try simp only [Act.put, List.setIfInBounds_toArray, List.set_cons_zero, List.set_cons_succ])
                          refine wpAnyH_take (i := 17) (v := undef) rfl (by kernel_rfl) (by kernel_rfl) (by kernel_rfl) (fun _ _ _ h => h) (Or.inr ⟨by kernel_rfl, rfl⟩) (by assumption) ?_
                          (try simp only [Act.put, List.setIfInBounds_toArray, List.set_cons_zero, List.set_cons_succ])
                          refine wpAnyH_take (i := 18) (v := undef) rfl (by kernel_rfl) (by kernel_rfl) (by kernel_rfl) (fun _ _ _ h => h) (Or.inr ⟨by kernel_rfl, rfl⟩) (by assumption) ?_
                          (try simp only [Act.put, List.setIfInBounds_toArray, List.set_cons_zero, List.set_cons_succ])
                          refine wpAnyH_take (i := 19) (v := undef) rfl (by kernel_rfl) (by kernel_rfl) (by kernel_rfl) (fun _ _ _ h => h) (Or.inr ⟨by kernel_rfl, rfl⟩) (by assumption) ?_
                          (try simp only [Act.put, List.setIfInBounds_toArray, List.set_cons_zero, List.set_cons_succ])
                          refine wpAnyH_take (i := 20) (v := undef) rfl (by kernel_rfl) (by kernel_rfl) (by kernel_rfl) (fun _ _ _ h => h) (Or.inr ⟨by kernel_rfl, rfl⟩) (by assumption) ?_
                          (try simp only [Act.put, List.setIfInBounds_toArray, List.set_cons_zero, List.set_cons_succ])
                          refine wpAnyH_take (i := 21) (v := undef) rfl (by kernel_rfl) (by kernel_rfl) (by kernel_rfl) (fun _ _ _ h => h) (Or.inr ⟨by kernel_rfl, rfl⟩) (by assumption) ?_
                          (try simp only [Act.put, List.setIfInBounds_toArray, List.set_cons_zero, List.set_cons_succ])
                          refine wpAnyH_take (i := 22) (v := undef) rfl (by kernel_rfl) (by kernel_rfl) (by kernel_rfl) (fun _ _ _ h => h) (Or.inr ⟨by kernel_rfl, rfl⟩) (by assumption) ?_
                          (try simp only [Act.put, List.setIfInBounds_toArray, List.set_cons_zero, List.set_cons_succ])
                          refine wpAnyH_take (i := 23) (v := undef) rfl (by kernel_rfl) (by kernel_rfl) (by kernel_rfl) (fun _ _ _ h => h) (Or.inr ⟨by kernel_rfl, rfl⟩) (by assumption) ?_
                          (try simp only [Act.put, List.setIfInBounds_toArray, List.set_cons_zero, List.set_cons_succ])
                          refine wpAnyH_take (i := 24) (v := undef) rfl (by kernel_rfl) (by kernel_rfl) (by kernel_rfl) (fun _ _ _ h => h) (Or.inr ⟨by kernel_rfl, rfl⟩) (by assumption) ?_
                          (try simp only [Act.put, List.setIfInBounds_toArray, List.set_cons_zero, List.set_cons_succ])
                          refine wpAnyH_take (i := 25) (v := .bool false) rfl (by kernel_rfl) (by kernel_rfl) (by kernel_rfl) (fun _ _ _ h => h) (Or.inl ⟨by kernel_rfl, fun wS hSw => ?_⟩) (by assumption) ?_
                          · (try dsimp only at hSw); go_simp
                          (try simp only [Act.put, List.setIfInBounds_toArray, List.set_cons_zero, List.set_cons_succ])
                          refine wpAnyH_take (i := 26) (v := .bool false) rfl (by kernel_rfl) (by kernel_rfl) (by kernel_rfl) (fun _ _ _ h => h) (Or.inl ⟨by kernel_rfl, fun wS hSw => ?_⟩) (by assumption) ?_
                          · (try dsimp only at hSw); go_simp
                          (try simp only [Act.put, List.setIfInBounds_toArray, List.set_cons_zero, List.set_cons_succ])
                          refine wpAnyH_take (i := 27) (v := .bool false) rfl (by kernel_rfl) (by kernel_rfl) (by kernel_rfl) (fun _ _ _ h => h) (Or.inl ⟨by kernel_rfl, fun wS hSw => ?_⟩) (by assumption) ?_
                          · (try dsimp only at hSw); go_simp
                          (try simp only [Act.put, List.setIfInBounds_toArray, List.set_cons_zero, List.set_cons_succ])
                          refine wpAnyH_take (i := 28) (v := .pointer (some ⟨B7, 1, none⟩)) rfl (by kernel_rfl) (by kernel_rfl) (by kernel_rfl) (fun _ _ _ h => h) (Or.inl ⟨by kernel_rfl, fun wS hSw => ?_⟩) (by assumption) ?_
                          · (try dsimp only at hSw); go_simp
                          (try simp only [Act.put, List.setIfInBounds_toArray, List.set_cons_zero, List.set_cons_succ])
                          refine wpAnyH_take (i := 29) (v := .int .u8 (f : Int)) rfl (by kernel_rfl) (by kernel_rfl) (by kernel_rfl) (fun _ _ _ h => h) (Or.inl ⟨by kernel_rfl, fun wS hSw => ?_⟩) (by assumption) ?_
                          · (try dsimp only at hSw); have hx := unhide HX wS hSw; clear hSw; go_simp
                          (try simp only [Act.put, List.setIfInBounds_toArray, List.set_cons_zero, List.set_cons_succ])
                          refine wpAnyH_take (i := 30) (v := .pointer (some ⟨B7, 2, none⟩)) rfl (by kernel_rfl) (by kernel_rfl) (by kernel_rfl) (fun _ _ _ h => h) (Or.inl ⟨by kernel_rfl, fun wS hSw => ?_⟩) (by assumption) ?_
                          · (try dsimp only at hSw); go_simp
                          (try simp only [Act.put, List.setIfInBounds_toArray, List.set_cons_zero, List.set_cons_succ])
                          refine wpAnyH_take (i := 31) (v := .agg #[.int .i64 dy, .int .i64 sc, .int .i64 zn]) rfl (by kernel_rfl) (by kernel_rfl) (by kernel_rfl) (fun _ _ _ h => h) (Or.inl ⟨by kernel_rfl, fun wS hSw => ?_⟩) (by assumption) ?_
                          · (try dsimp only at hSw); have hx := unhide HX wS hSw; clear hSw; go_simp
                          (try simp only [Act.put, List.setIfInBounds_toArray, List.set_cons_zero, List.set_cons_succ])
                          refine wpAnyH_take (i := 32) (v := .pointer (some ⟨B7, 5, none⟩)) rfl (by kernel_rfl) (by kernel_rfl) (by kernel_rfl) (fun _ _ _ h => h) (Or.inl ⟨by kernel_rfl, fun wS hSw => ?_⟩) (by assumption) ?_
                          · (try dsimp only at hSw); go_simp
                          (try simp only [Act.put, List.setIfInBounds_toArray, List.set_cons_zero, List.set_cons_succ])
                          refine wpAnyH_take (i := 33) (v := .string rw_) rfl (by kernel_rfl) (by kernel_rfl) (by kernel_rfl) (fun _ _ _ h => h) (Or.inl ⟨by kernel_rfl, fun wS hSw => ?_⟩) (by assumption) ?_
                          · (try dsimp only at hSw); have hx := unhide HX wS hSw; clear hSw; go_simp
                          (try simp only [Act.put, List.setIfInBounds_toArray, List.set_cons_zero, List.set_cons_succ])
                          refine wpAnyH_ready (rs := [34]) (by kernel_rfl) (by simp) ?_
                          refine AllReadyH.cons rfl (fun K hK => ?_) AllReadyH.nil
                          have hB : Below W2.heap.size W2 _ := hHeld
                          go_simp
                          refine (unhide HFI _).mono ?_
                          rintro e w6 ⟨rfl, b6⟩
                          have hw6 : Below W2.heap.size W2 w6 := belows' hB b6
                          clear b6 hB
                          go_wp2_with fail
                          refine hK.out _ _ ?_ (fun hHeld => ?_)
                          · exact hw6
                          clear hK K
                          (try simp only [Act.put, List.setIfInBounds_toArray, List.set_cons_zero, List.set_cons_succ])
                          refine wpAnyH_take (i := 35) (v := .bool false) rfl (by kernel_rfl) (by kernel_rfl) (by kernel_rfl) (fun _ _ _ h => h) (Or.inl ⟨by kernel_rfl, fun wS hSw => ?_⟩) (by assumption) ?_
                          · (try dsimp only at hSw); go_simp
                          (try simp only [Act.put, List.setIfInBounds_toArray, List.set_cons_zero, List.set_cons_succ])
                          refine wpAnyH_take (i := 36) (v := .bool false) rfl (by kernel_rfl) (by kernel_rfl) (by kernel_rfl) (fun _ _ _ h => h) (Or.inl ⟨by kernel_rfl, fun wS hSw => ?_⟩) (by assumption) ?_
                          · (try dsimp only at hSw); go_simp
                          (try simp only [Act.put, List.setIfInBounds_toArray, List.set_cons_zero, List.set_cons_succ])
                          refine wpAnyH_done (by kernel_rfl) ?_ _
                          have B9 := hide (belows' (unhide HB2) hHeld)
                          clear hHeld
                          go_wp2
                          exact ⟨⟨k + 1, u + 1, by go_num, by omega, HE3, hide ⟨by omega, fun h => by omega, unhide HPN⟩, B9⟩, by simp [intOf]; omega⟩
                      · have dk : decide ((0 : Int) < (k : Int)) = true := decide_eq_true (by omega)
                        have dk2 : decide ((k : Int) > 0) = true := decide_eq_true (by omega)
                        have dk3 : decide (0 < k) = true := decide_eq_true (by omega)
                        have hk1 : (1 : Int) ≤ (k : Int) := by omega
                        obtain ⟨pu, hpu, hpl, hpc⟩ := unhide HPP (by omega)
                        have HY : Hid (∀ W, Below W2.heap.size W2 W → W.cell? ⟨g, off + (k - 1) * 6, none⟩ = some (.int .u32 (pu : Int))) := hide (fun W hb => hpc W (belows' (unhide HB2) hb))
                        clear HPP hpc
                        by_cases hup : u ≤ pu
                        · have e1 : decide (u ≤ pu) = true := decide_eq_true hup
                          have e2 : decide ((u : Int) ≤ (pu : Int)) = true := decide_eq_true (by omega)
                          have hfin : r = false := by
                            have h := unhide HEE
                            rw [decide_eq_false (by omega : ¬ (le ≤ u ∧ u < nx))] at h
                            exact h.symm
                          have hc : 2 = C := by have h := unhide HC2; rw [hfin, if_neg (by simp)] at h; exact h
                          subst hc
                          obtain ⟨x0, x1, x2, x3, x4, x5⟩ := unhide HX W2 (Below.refl _ _)
                          obtain ⟨q1, q4⟩ := unhide HZ W2 (Below.refl _ _)
                          have y0 := unhide HY W2 (Below.refl _ _)
                          clear HY HEE HPN hfin HC2 HX HZ
                          go_quiet (fail)
                          go_wp2
                          go_ret
                          first | exact ⟨rfl, unhide HFM _ (below_drewN (unhide HB2) _)⟩ | exact ⟨rfl, unhide HFN _ (below_drewN (unhide HB2) _)⟩
                        · have e1 : decide (u ≤ pu) = false := decide_eq_false hup
                          have e2 : decide ((u : Int) ≤ (pu : Int)) = false := decide_eq_false (by omega)
                          have HE2 : Hid (((decide (f ≤ 31) && (rightB dy sc zn && decide (rw_.size ≤ 65536))) && mailsOk nx (u + 1) (ms.drop (k + 1))) = r) := hide (by
                            rw [Bool.and_comm (rightB dy sc zn)]
                            have h := unhide HEE
                            rw [decide_eq_true (by omega : le ≤ u ∧ u < nx), Bool.true_and] at h
                            exact h)
                          clear HEE
                          cases hfi : decide (f ≤ 31) && (rightB dy sc zn && decide (rw_.size ≤ 65536)) with
                          | false =>
                            rw [hfi] at HFI HE2
                            have hc : 2 = C := by have h := unhide HC2; rw [← unhide HE2, if_neg (by simp)] at h; exact h
                            subst hc
                            clear HE2 HC2 HPN hfi
                            refine wp_region_held_drew (S := (fun w' => Below W2.heap.size W2 w')) (by kernel_rfl) ?_ (fun hHeld => ?_)
                            · exact ⟨rfl, rfl, rfl, Nat.le_refl _, fun _ _ => rfl⟩
                            refine wpAnyH_take (i := 0) (v := .pointer (some ⟨B7, 0, none⟩)) rfl (by kernel_rfl) (by kernel_rfl) (by kernel_rfl) (fun _ _ _ h => h) (Or.inl ⟨by kernel_rfl, fun wS hSw => ?_⟩) (by assumption) ?_
                            · (try dsimp only at hSw); go_simp
                            (try simp only [Act.put, List.setIfInBounds_toArray, List.set_cons_zero, List.set_cons_succ])
                            refine wpAnyH_take (i := 1) (v := .int .u32 (u : Int)) rfl (by kernel_rfl) (by kernel_rfl) (by kernel_rfl) (fun _ _ _ h => h) (Or.inl ⟨by kernel_rfl, fun wS hSw => ?_⟩) (by assumption) ?_
                            · (try dsimp only at hSw); have hx := unhide HX wS hSw; clear hSw; go_simp
                            (try simp only [Act.put, List.setIfInBounds_toArray, List.set_cons_zero, List.set_cons_succ])
                            refine wpAnyH_take (i := 2) (v := .bool false) rfl (by kernel_rfl) (by kernel_rfl) (by kernel_rfl) (fun _ _ _ h => h) (Or.inl ⟨by kernel_rfl, fun wS hSw => ?_⟩) (by assumption) ?_
                            · (try dsimp only at hSw); go_simp
                            (try simp only [Act.put, List.setIfInBounds_toArray, List.set_cons_zero, List.set_cons_succ])
                            refine wpAnyH_take (i := 3) (v := .bool false) rfl (by kernel_rfl) (by kernel_rfl) (by kernel_rfl) (fun _ _ _ h => h) (Or.inl ⟨by kernel_rfl, fun wS hSw => ?_⟩) (by assumption) ?_
                            · (try dsimp only at hSw); go_simp
                            (try simp only [Act.put, List.setIfInBounds_toArray, List.set_cons_zero, List.set_cons_succ])
                            refine wpAnyH_take (i := 4) (v := .pointer (some ⟨B7, 0, none⟩)) rfl (by kernel_rfl) (by kernel_rfl) (by kernel_rfl) (fun _ _ _ h => h) (Or.inl ⟨by kernel_rfl, fun wS hSw => ?_⟩) (by assumption) ?_
                            · (try dsimp only at hSw); go_simp
                            (try simp only [Act.put, List.setIfInBounds_toArray, List.set_cons_zero, List.set_cons_succ])
                            refine wpAnyH_take (i := 5) (v := .int .u32 (u : Int)) rfl (by kernel_rfl) (by kernel_rfl) (by kernel_rfl) (fun _ _ _ h => h) (Or.inl ⟨by kernel_rfl, fun wS hSw => ?_⟩) (by assumption) ?_
                            · (try dsimp only at hSw); have hx := unhide HX wS hSw; clear hSw; go_simp
                            (try simp only [Act.put, List.setIfInBounds_toArray, List.set_cons_zero, List.set_cons_succ])
                            refine wpAnyH_take (i := 6) (v := .int .u64 (u : Int)) rfl (by kernel_rfl) (by kernel_rfl) (by kernel_rfl) (fun _ _ _ h => h) (Or.inl ⟨by kernel_rfl, fun wS hSw => ?_⟩) (by assumption) ?_
                            · (try dsimp only at hSw); go_simp
                            (try simp only [Act.put, List.setIfInBounds_toArray, List.set_cons_zero, List.set_cons_succ])
                            refine wpAnyH_take (i := 7) (v := .pointer (some ⟨B, 1, none⟩)) rfl (by kernel_rfl) (by kernel_rfl) (by kernel_rfl) (fun _ _ _ h => h) (Or.inl ⟨by kernel_rfl, fun wS hSw => ?_⟩) (by assumption) ?_
                            · (try dsimp only at hSw); go_simp
                            (try simp only [Act.put, List.setIfInBounds_toArray, List.set_cons_zero, List.set_cons_succ])
                            refine wpAnyH_take (i := 8) (v := .int .u64 (nx : Int)) rfl (by kernel_rfl) (by kernel_rfl) (by kernel_rfl) (fun _ _ _ h => h) (Or.inl ⟨by kernel_rfl, fun wS hSw => ?_⟩) (by assumption) ?_
                            · (try dsimp only at hSw); have hx := unhide HZ wS hSw; clear hSw; go_simp
                            (try simp only [Act.put, List.setIfInBounds_toArray, List.set_cons_zero, List.set_cons_succ])
                            refine wpAnyH_take (i := 9) (v := .bool false) rfl (by kernel_rfl) (by kernel_rfl) (by kernel_rfl) (fun _ _ _ h => h) (Or.inl ⟨by kernel_rfl, fun wS hSw => ?_⟩) (by assumption) ?_
                            · (try dsimp only at hSw); go_simp
                            (try simp only [Act.put, List.setIfInBounds_toArray, List.set_cons_zero, List.set_cons_succ])
                            refine wpAnyH_take (i := 10) (v := .bool false) rfl (by kernel_rfl) (by kernel_rfl) (by kernel_rfl) (fun _ _ _ h => h) (Or.inl ⟨by kernel_rfl, fun wS hSw => ?_⟩) (by assumption) ?_
                            · (try dsimp only at hSw); go_simp
                            (try simp only [Act.put, List.setIfInBounds_toArray, List.set_cons_zero, List.set_cons_succ])
                            refine wpAnyH_take (i := 11) (v := .bool false) rfl (by kernel_rfl) (by kernel_rfl) (by kernel_rfl) (fun _ _ _ h => h) (Or.inl ⟨by kernel_rfl, fun wS hSw => ?_⟩) (by assumption) ?_
                            · (try dsimp only at hSw); go_simp
                            (try simp only [Act.put, List.setIfInBounds_toArray, List.set_cons_zero, List.set_cons_succ])
                            refine wpAnyH_take (i := 12) (v := .int .i64 (k : Int)) rfl (by kernel_rfl) (by kernel_rfl) (by kernel_rfl) (fun _ _ _ h => h) (Or.inl ⟨by kernel_rfl, fun wS hSw => ?_⟩) (by assumption) ?_
                            · (try dsimp only at hSw); go_simp
                            (try simp only [Act.put, List.setIfInBounds_toArray, List.set_cons_zero, List.set_cons_succ])
                            refine wpAnyH_take (i := 13) (v := .bool true) rfl (by kernel_rfl) (by kernel_rfl) (by kernel_rfl) (fun _ _ _ h => h) (Or.inl ⟨by kernel_rfl, fun wS hSw => ?_⟩) (by assumption) ?_
                            · (try dsimp only at hSw); go_simp
                            (try simp only [Act.put, List.setIfInBounds_toArray, List.set_cons_zero, List.set_cons_succ])
                            refine wpAnyH_take (i := 14) (v := .bool true) rfl (by kernel_rfl) (by kernel_rfl) (by kernel_rfl) (fun _ _ _ h => h) (Or.inl ⟨by kernel_rfl, fun wS hSw => ?_⟩) (by assumption) ?_
                            · (try dsimp only at hSw); go_simp
                            (try simp only [Act.put, List.setIfInBounds_toArray, List.set_cons_zero, List.set_cons_succ])
                            refine wpAnyH_take (i := 15) (v := .pointer (some ⟨B7, 0, none⟩)) rfl (by kernel_rfl) (by kernel_rfl) (by kernel_rfl) (fun _ _ _ h => h) (Or.inl ⟨by kernel_rfl, fun wS hSw => ?_⟩) (by assumption) ?_
                            · (try dsimp only at hSw); go_simp
                            (try simp only [Act.put, List.setIfInBounds_toArray, List.set_cons_zero, List.set_cons_succ])
                            refine wpAnyH_take (i := 16) (v := .int .u32 (u : Int)) rfl (by kernel_rfl) (by kernel_rfl) (by kernel_rfl) (fun _ _ _ h => h) (Or.inl ⟨by kernel_rfl, fun wS hSw => ?_⟩) (by assumption) ?_
                            · (try dsimp only at hSw); have hx := unhide HX wS hSw; clear hSw; go_simp
                            (try simp only [Act.put, List.setIfInBounds_toArray, List.set_cons_zero, List.set_cons_succ])
                            refine wpAnyH_take (i := 17) (v := .pointer (some ⟨B, 4, none⟩)) rfl (by kernel_rfl) (by kernel_rfl) (by kernel_rfl) (fun _ _ _ h => h) (Or.inl ⟨by kernel_rfl, fun wS hSw => ?_⟩) (by assumption) ?_
                            · (try dsimp only at hSw); go_simp
                            (try simp only [Act.put, List.setIfInBounds_toArray, List.set_cons_zero, List.set_cons_succ])
                            refine wpAnyH_take (i := 18) (v := .slice (some ⟨g, off, none⟩) n cap) rfl (by kernel_rfl) (by kernel_rfl) (by kernel_rfl) (fun _ _ _ h => h) (Or.inl ⟨by kernel_rfl, fun wS hSw => ?_⟩) (by assumption) ?_
                            · (try dsimp only at hSw); have hx := unhide HZ wS hSw; clear hSw; go_simp
                            (try simp only [Act.put, List.setIfInBounds_toArray, List.set_cons_zero, List.set_cons_succ])
                            refine wpAnyH_take (i := 19) (v := .int .i64 (k : Int)) rfl (by kernel_rfl) (by kernel_rfl) (by kernel_rfl) (fun _ _ _ h => h) (Or.inl ⟨by kernel_rfl, fun wS hSw => ?_⟩) (by assumption) ?_
                            · (try dsimp only at hSw); go_simp
                            (try simp only [Act.put, List.setIfInBounds_toArray, List.set_cons_zero, List.set_cons_succ])
                            refine wpAnyH_take (i := 20) (v := .int .i64 ((k : Int) - 1)) rfl (by kernel_rfl) (by kernel_rfl) (by kernel_rfl) (fun _ _ _ h => h) (Or.inl ⟨by kernel_rfl, fun wS hSw => ?_⟩) (by assumption) ?_
                            · (try dsimp only at hSw); go_simp; (rw [IntKind.wrap_i64]; omega)
                            (try simp only [Act.put, List.setIfInBounds_toArray, List.set_cons_zero, List.set_cons_succ])
                            refine wpAnyH_take (i := 21) (v := .pointer (some ⟨g, off + (k - 1) * 6, none⟩)) rfl (by kernel_rfl) (by kernel_rfl) (by kernel_rfl) (fun _ _ _ h => h) (Or.inl ⟨by kernel_rfl, fun wS hSw => ?_⟩) (by assumption) ?_
                            · (try dsimp only at hSw); go_simp; (intro hx; exfalso; omega)
                            (try simp only [Act.put, List.setIfInBounds_toArray, List.set_cons_zero, List.set_cons_succ])
                            refine wpAnyH_take (i := 22) (v := .pointer (some ⟨g, off + (k - 1) * 6, none⟩)) rfl (by kernel_rfl) (by kernel_rfl) (by kernel_rfl) (fun _ _ _ h => h) (Or.inl ⟨by kernel_rfl, fun wS hSw => ?_⟩) (by assumption) ?_
                            · (try dsimp only at hSw); go_simp
                            (try simp only [Act.put, List.setIfInBounds_toArray, List.set_cons_zero, List.set_cons_succ])
                            refine wpAnyH_take (i := 23) (v := .int .u32 (pu : Int)) rfl (by kernel_rfl) (by kernel_rfl) (by kernel_rfl) (fun _ _ _ h => h) (Or.inl ⟨by kernel_rfl, fun wS hSw => ?_⟩) (by assumption) ?_
                            · (try dsimp only at hSw); have hx := unhide HY wS hSw; clear hSw; go_simp
                            (try simp only [Act.put, List.setIfInBounds_toArray, List.set_cons_zero, List.set_cons_succ])
                            refine wpAnyH_take (i := 24) (v := .bool false) rfl (by kernel_rfl) (by kernel_rfl) (by kernel_rfl) (fun _ _ _ h => h) (Or.inl ⟨by kernel_rfl, fun wS hSw => ?_⟩) (by assumption) ?_
                            · (try dsimp only at hSw); go_simp
                            (try simp only [Act.put, List.setIfInBounds_toArray, List.set_cons_zero, List.set_cons_succ])
                            refine wpAnyH_take (i := 25) (v := .bool false) rfl (by kernel_rfl) (by kernel_rfl) (by kernel_rfl) (fun _ _ _ h => h) (Or.inl ⟨by kernel_rfl, fun wS hSw => ?_⟩) (by assumption) ?_
                            · (try dsimp only at hSw); go_simp
                            (try simp only [Act.put, List.setIfInBounds_toArray, List.set_cons_zero, List.set_cons_succ])
                            refine wpAnyH_take (i := 26) (v := .bool false) rfl (by kernel_rfl) (by kernel_rfl) (by kernel_rfl) (fun _ _ _ h => h) (Or.inl ⟨by kernel_rfl, fun wS hSw => ?_⟩) (by assumption) ?_
                            · (try dsimp only at hSw); go_simp
                            (try simp only [Act.put, List.setIfInBounds_toArray, List.set_cons_zero, List.set_cons_succ])
                            refine wpAnyH_take (i := 27) (v := .bool false) rfl (by kernel_rfl) (by kernel_rfl) (by kernel_rfl) (fun _ _ _ h => h) (Or.inl ⟨by kernel_rfl, fun wS hSw => ?_⟩) (by assumption) ?_
                            · (try dsimp only at hSw); go_simp
                            (try simp only [Act.put, List.setIfInBounds_toArray, List.set_cons_zero, List.set_cons_succ])
                            refine wpAnyH_take (i := 28) (v := .pointer (some ⟨B7, 1, none⟩)) rfl (by kernel_rfl) (by kernel_rfl) (by kernel_rfl) (fun _ _ _ h => h) (Or.inl ⟨by kernel_rfl, fun wS hSw => ?_⟩) (by assumption) ?_
                            · (try dsimp only at hSw); go_simp
                            (try simp only [Act.put, List.setIfInBounds_toArray, List.set_cons_zero, List.set_cons_succ])
                            refine wpAnyH_take (i := 29) (v := .int .u8 (f : Int)) rfl (by kernel_rfl) (by kernel_rfl) (by kernel_rfl) (fun _ _ _ h => h) (Or.inl ⟨by kernel_rfl, fun wS hSw => ?_⟩) (by assumption) ?_
                            · (try dsimp only at hSw); have hx := unhide HX wS hSw; clear hSw; go_simp
                            (try simp only [Act.put, List.setIfInBounds_toArray, List.set_cons_zero, List.set_cons_succ])
                            refine wpAnyH_take (i := 30) (v := .pointer (some ⟨B7, 2, none⟩)) rfl (by kernel_rfl) (by kernel_rfl) (by kernel_rfl) (fun _ _ _ h => h) (Or.inl ⟨by kernel_rfl, fun wS hSw => ?_⟩) (by assumption) ?_
                            · (try dsimp only at hSw); go_simp
                            (try simp only [Act.put, List.setIfInBounds_toArray, List.set_cons_zero, List.set_cons_succ])
                            refine wpAnyH_take (i := 31) (v := .agg #[.int .i64 dy, .int .i64 sc, .int .i64 zn]) rfl (by kernel_rfl) (by kernel_rfl) (by kernel_rfl) (fun _ _ _ h => h) (Or.inl ⟨by kernel_rfl, fun wS hSw => ?_⟩) (by assumption) ?_
                            · (try dsimp only at hSw); have hx := unhide HX wS hSw; clear hSw; go_simp
                            (try simp only [Act.put, List.setIfInBounds_toArray, List.set_cons_zero, List.set_cons_succ])
                            refine wpAnyH_take (i := 32) (v := .pointer (some ⟨B7, 5, none⟩)) rfl (by kernel_rfl) (by kernel_rfl) (by kernel_rfl) (fun _ _ _ h => h) (Or.inl ⟨by kernel_rfl, fun wS hSw => ?_⟩) (by assumption) ?_
                            · (try dsimp only at hSw); go_simp
                            (try simp only [Act.put, List.setIfInBounds_toArray, List.set_cons_zero, List.set_cons_succ])
                            refine wpAnyH_take (i := 33) (v := .string rw_) rfl (by kernel_rfl) (by kernel_rfl) (by kernel_rfl) (fun _ _ _ h => h) (Or.inl ⟨by kernel_rfl, fun wS hSw => ?_⟩) (by assumption) ?_
                            · (try dsimp only at hSw); have hx := unhide HX wS hSw; clear hSw; go_simp
                            (try simp only [Act.put, List.setIfInBounds_toArray, List.set_cons_zero, List.set_cons_succ])
                            refine wpAnyH_ready (rs := [34]) (by kernel_rfl) (by simp) ?_
                            refine AllReadyH.cons rfl (fun K hK => ?_) AllReadyH.nil
                            have hB : Below W2.heap.size W2 _ := hHeld
                            go_simp
                            refine (unhide HFI _).mono ?_
                            rintro e w6 ⟨rfl, b6⟩
                            have hw6 : Below W2.heap.size W2 w6 := belows' hB b6
                            clear b6 hB
                            go_wp2_with fail
                            refine hK.out _ _ ?_ (fun hHeld => ?_)
                            · exact hw6
                            clear hK K
                            (try simp only [Act.put, List.setIfInBounds_toArray, List.set_cons_zero, List.set_cons_succ])
                            refine wpAnyH_take (i := 35) (v := .bool true) rfl (by kernel_rfl) (by kernel_rfl) (by kernel_rfl) (fun _ _ _ h => h) (Or.inl ⟨by kernel_rfl, fun wS hSw => ?_⟩) (by assumption) ?_
                            · (try dsimp only at hSw); go_simp
                            (try simp only [Act.put, List.setIfInBounds_toArray, List.set_cons_zero, List.set_cons_succ])
                            refine wpAnyH_take (i := 36) (v := .bool true) rfl (by kernel_rfl) (by kernel_rfl) (by kernel_rfl) (fun _ _ _ h => h) (Or.inl ⟨by kernel_rfl, fun wS hSw => ?_⟩) (by assumption) ?_
                            · (try dsimp only at hSw); go_simp
                            (try simp only [Act.put, List.setIfInBounds_toArray, List.set_cons_zero, List.set_cons_succ])
                            refine wpAnyH_done (by kernel_rfl) ?_ _
                            have B9 := hide (belows' (unhide HB2) hHeld)
                            clear hHeld
                            go_wp2
                            go_ret
                            first | exact ⟨rfl, unhide HFM _ (unhide B9)⟩ | exact ⟨rfl, unhide HFN _ (unhide B9)⟩
                          | true =>
                            rw [hfi] at HFI HE2
                            have HE3 : Hid (mailsOk nx (u + 1) (ms.drop (k + 1)) = r) := hide (by simpa using unhide HE2)
                            clear HE2 hfi
                            refine wp_region_held_drew (S := (fun w' => Below W2.heap.size W2 w')) (by kernel_rfl) ?_ (fun hHeld => ?_)
                            · exact ⟨rfl, rfl, rfl, Nat.le_refl _, fun _ _ => rfl⟩
                            refine wpAnyH_take (i := 0) (v := .pointer (some ⟨B7, 0, none⟩)) rfl (by kernel_rfl) (by kernel_rfl) (by kernel_rfl) (fun _ _ _ h => h) (Or.inl ⟨by kernel_rfl, fun wS hSw => ?_⟩) (by assumption) ?_
                            · (try dsimp only at hSw); go_simp
                            (try simp only [Act.put, List.setIfInBounds_toArray, List.set_cons_zero, List.set_cons_succ])
                            refine wpAnyH_take (i := 1) (v := .int .u32 (u : Int)) rfl (by kernel_rfl) (by kernel_rfl) (by kernel_rfl) (fun _ _ _ h => h) (Or.inl ⟨by kernel_rfl, fun wS hSw => ?_⟩) (by assumption) ?_
                            · (try dsimp only at hSw); have hx := unhide HX wS hSw; clear hSw; go_simp
                            (try simp only [Act.put, List.setIfInBounds_toArray, List.set_cons_zero, List.set_cons_succ])
                            refine wpAnyH_take (i := 2) (v := .bool false) rfl (by kernel_rfl) (by kernel_rfl) (by kernel_rfl) (fun _ _ _ h => h) (Or.inl ⟨by kernel_rfl, fun wS hSw => ?_⟩) (by assumption) ?_
                            · (try dsimp only at hSw); go_simp
                            (try simp only [Act.put, List.setIfInBounds_toArray, List.set_cons_zero, List.set_cons_succ])
                            refine wpAnyH_take (i := 3) (v := .bool false) rfl (by kernel_rfl) (by kernel_rfl) (by kernel_rfl) (fun _ _ _ h => h) (Or.inl ⟨by kernel_rfl, fun wS hSw => ?_⟩) (by assumption) ?_
                            · (try dsimp only at hSw); go_simp
                            (try simp only [Act.put, List.setIfInBounds_toArray, List.set_cons_zero, List.set_cons_succ])
                            refine wpAnyH_take (i := 4) (v := .pointer (some ⟨B7, 0, none⟩)) rfl (by kernel_rfl) (by kernel_rfl) (by kernel_rfl) (fun _ _ _ h => h) (Or.inl ⟨by kernel_rfl, fun wS hSw => ?_⟩) (by assumption) ?_
                            · (try dsimp only at hSw); go_simp
                            (try simp only [Act.put, List.setIfInBounds_toArray, List.set_cons_zero, List.set_cons_succ])
                            refine wpAnyH_take (i := 5) (v := .int .u32 (u : Int)) rfl (by kernel_rfl) (by kernel_rfl) (by kernel_rfl) (fun _ _ _ h => h) (Or.inl ⟨by kernel_rfl, fun wS hSw => ?_⟩) (by assumption) ?_
                            · (try dsimp only at hSw); have hx := unhide HX wS hSw; clear hSw; go_simp
                            (try simp only [Act.put, List.setIfInBounds_toArray, List.set_cons_zero, List.set_cons_succ])
                            refine wpAnyH_take (i := 6) (v := .int .u64 (u : Int)) rfl (by kernel_rfl) (by kernel_rfl) (by kernel_rfl) (fun _ _ _ h => h) (Or.inl ⟨by kernel_rfl, fun wS hSw => ?_⟩) (by assumption) ?_
                            · (try dsimp only at hSw); go_simp
                            (try simp only [Act.put, List.setIfInBounds_toArray, List.set_cons_zero, List.set_cons_succ])
                            refine wpAnyH_take (i := 7) (v := .pointer (some ⟨B, 1, none⟩)) rfl (by kernel_rfl) (by kernel_rfl) (by kernel_rfl) (fun _ _ _ h => h) (Or.inl ⟨by kernel_rfl, fun wS hSw => ?_⟩) (by assumption) ?_
                            · (try dsimp only at hSw); go_simp
                            (try simp only [Act.put, List.setIfInBounds_toArray, List.set_cons_zero, List.set_cons_succ])
                            refine wpAnyH_take (i := 8) (v := .int .u64 (nx : Int)) rfl (by kernel_rfl) (by kernel_rfl) (by kernel_rfl) (fun _ _ _ h => h) (Or.inl ⟨by kernel_rfl, fun wS hSw => ?_⟩) (by assumption) ?_
                            · (try dsimp only at hSw); have hx := unhide HZ wS hSw; clear hSw; go_simp
                            (try simp only [Act.put, List.setIfInBounds_toArray, List.set_cons_zero, List.set_cons_succ])
                            refine wpAnyH_take (i := 9) (v := .bool false) rfl (by kernel_rfl) (by kernel_rfl) (by kernel_rfl) (fun _ _ _ h => h) (Or.inl ⟨by kernel_rfl, fun wS hSw => ?_⟩) (by assumption) ?_
                            · (try dsimp only at hSw); go_simp
                            (try simp only [Act.put, List.setIfInBounds_toArray, List.set_cons_zero, List.set_cons_succ])
                            refine wpAnyH_take (i := 10) (v := .bool false) rfl (by kernel_rfl) (by kernel_rfl) (by kernel_rfl) (fun _ _ _ h => h) (Or.inl ⟨by kernel_rfl, fun wS hSw => ?_⟩) (by assumption) ?_
                            · (try dsimp only at hSw); go_simp
                            (try simp only [Act.put, List.setIfInBounds_toArray, List.set_cons_zero, List.set_cons_succ])
                            refine wpAnyH_take (i := 11) (v := .bool false) rfl (by kernel_rfl) (by kernel_rfl) (by kernel_rfl) (fun _ _ _ h => h) (Or.inl ⟨by kernel_rfl, fun wS hSw => ?_⟩) (by assumption) ?_
                            · (try dsimp only at hSw); go_simp
                            (try simp only [Act.put, List.setIfInBounds_toArray, List.set_cons_zero, List.set_cons_succ])
                            refine wpAnyH_take (i := 12) (v := .int .i64 (k : Int)) rfl (by kernel_rfl) (by kernel_rfl) (by kernel_rfl) (fun _ _ _ h => h) (Or.inl ⟨by kernel_rfl, fun wS hSw => ?_⟩) (by assumption) ?_
                            · (try dsimp only at hSw); go_simp
                            (try simp only [Act.put, List.setIfInBounds_toArray, List.set_cons_zero, List.set_cons_succ])
                            refine wpAnyH_take (i := 13) (v := .bool true) rfl (by kernel_rfl) (by kernel_rfl) (by kernel_rfl) (fun _ _ _ h => h) (Or.inl ⟨by kernel_rfl, fun wS hSw => ?_⟩) (by assumption) ?_
                            · (try dsimp only at hSw); go_simp
                            (try simp only [Act.put, List.setIfInBounds_toArray, List.set_cons_zero, List.set_cons_succ])
                            refine wpAnyH_take (i := 14) (v := .bool true) rfl (by kernel_rfl) (by kernel_rfl) (by kernel_rfl) (fun _ _ _ h => h) (Or.inl ⟨by kernel_rfl, fun wS hSw => ?_⟩) (by assumption) ?_
                            · (try dsimp only at hSw); go_simp
                            (try simp only [Act.put, List.setIfInBounds_toArray, List.set_cons_zero, List.set_cons_succ])
                            refine wpAnyH_take (i := 15) (v := .pointer (some ⟨B7, 0, none⟩)) rfl (by kernel_rfl) (by kernel_rfl) (by kernel_rfl) (fun _ _ _ h => h) (Or.inl ⟨by kernel_rfl, fun wS hSw => ?_⟩) (by assumption) ?_
                            · (try dsimp only at hSw); go_simp
                            (try simp only [Act.put, List.setIfInBounds_toArray, List.set_cons_zero, List.set_cons_succ])
                            refine wpAnyH_take (i := 16) (v := .int .u32 (u : Int)) rfl (by kernel_rfl) (by kernel_rfl) (by kernel_rfl) (fun _ _ _ h => h) (Or.inl ⟨by kernel_rfl, fun wS hSw => ?_⟩) (by assumption) ?_
                            · (try dsimp only at hSw); have hx := unhide HX wS hSw; clear hSw; go_simp
                            (try simp only [Act.put, List.setIfInBounds_toArray, List.set_cons_zero, List.set_cons_succ])
                            refine wpAnyH_take (i := 17) (v := .pointer (some ⟨B, 4, none⟩)) rfl (by kernel_rfl) (by kernel_rfl) (by kernel_rfl) (fun _ _ _ h => h) (Or.inl ⟨by kernel_rfl, fun wS hSw => ?_⟩) (by assumption) ?_
                            · (try dsimp only at hSw); go_simp
                            (try simp only [Act.put, List.setIfInBounds_toArray, List.set_cons_zero, List.set_cons_succ])
                            refine wpAnyH_take (i := 18) (v := .slice (some ⟨g, off, none⟩) n cap) rfl (by kernel_rfl) (by kernel_rfl) (by kernel_rfl) (fun _ _ _ h => h) (Or.inl ⟨by kernel_rfl, fun wS hSw => ?_⟩) (by assumption) ?_
                            · (try dsimp only at hSw); have hx := unhide HZ wS hSw; clear hSw; go_simp
                            (try simp only [Act.put, List.setIfInBounds_toArray, List.set_cons_zero, List.set_cons_succ])
                            refine wpAnyH_take (i := 19) (v := .int .i64 (k : Int)) rfl (by kernel_rfl) (by kernel_rfl) (by kernel_rfl) (fun _ _ _ h => h) (Or.inl ⟨by kernel_rfl, fun wS hSw => ?_⟩) (by assumption) ?_
                            · (try dsimp only at hSw); go_simp
                            (try simp only [Act.put, List.setIfInBounds_toArray, List.set_cons_zero, List.set_cons_succ])
                            refine wpAnyH_take (i := 20) (v := .int .i64 ((k : Int) - 1)) rfl (by kernel_rfl) (by kernel_rfl) (by kernel_rfl) (fun _ _ _ h => h) (Or.inl ⟨by kernel_rfl, fun wS hSw => ?_⟩) (by assumption) ?_
                            · (try dsimp only at hSw); go_simp; (rw [IntKind.wrap_i64]; omega)
                            (try simp only [Act.put, List.setIfInBounds_toArray, List.set_cons_zero, List.set_cons_succ])
                            refine wpAnyH_take (i := 21) (v := .pointer (some ⟨g, off + (k - 1) * 6, none⟩)) rfl (by kernel_rfl) (by kernel_rfl) (by kernel_rfl) (fun _ _ _ h => h) (Or.inl ⟨by kernel_rfl, fun wS hSw => ?_⟩) (by assumption) ?_
                            · (try dsimp only at hSw); go_simp; (intro hx; exfalso; omega)
                            (try simp only [Act.put, List.setIfInBounds_toArray, List.set_cons_zero, List.set_cons_succ])
                            refine wpAnyH_take (i := 22) (v := .pointer (some ⟨g, off + (k - 1) * 6, none⟩)) rfl (by kernel_rfl) (by kernel_rfl) (by kernel_rfl) (fun _ _ _ h => h) (Or.inl ⟨by kernel_rfl, fun wS hSw => ?_⟩) (by assumption) ?_
                            · (try dsimp only at hSw); go_simp
                            (try simp only [Act.put, List.setIfInBounds_toArray, List.set_cons_zero, List.set_cons_succ])
                            refine wpAnyH_take (i := 23) (v := .int .u32 (pu : Int)) rfl (by kernel_rfl) (by kernel_rfl) (by kernel_rfl) (fun _ _ _ h => h) (Or.inl ⟨by kernel_rfl, fun wS hSw => ?_⟩) (by assumption) ?_
                            · (try dsimp only at hSw); have hx := unhide HY wS hSw; clear hSw; go_simp
                            (try simp only [Act.put, List.setIfInBounds_toArray, List.set_cons_zero, List.set_cons_succ])
                            refine wpAnyH_take (i := 24) (v := .bool false) rfl (by kernel_rfl) (by kernel_rfl) (by kernel_rfl) (fun _ _ _ h => h) (Or.inl ⟨by kernel_rfl, fun wS hSw => ?_⟩) (by assumption) ?_
                            · (try dsimp only at hSw); go_simp
                            (try simp only [Act.put, List.setIfInBounds_toArray, List.set_cons_zero, List.set_cons_succ])
                            refine wpAnyH_take (i := 25) (v := .bool false) rfl (by kernel_rfl) (by kernel_rfl) (by kernel_rfl) (fun _ _ _ h => h) (Or.inl ⟨by kernel_rfl, fun wS hSw => ?_⟩) (by assumption) ?_
                            · (try dsimp only at hSw); go_simp
                            (try simp only [Act.put, List.setIfInBounds_toArray, List.set_cons_zero, List.set_cons_succ])
                            refine wpAnyH_take (i := 26) (v := .bool false) rfl (by kernel_rfl) (by kernel_rfl) (by kernel_rfl) (fun _ _ _ h => h) (Or.inl ⟨by kernel_rfl, fun wS hSw => ?_⟩) (by assumption) ?_
                            · (try dsimp only at hSw); go_simp
                            (try simp only [Act.put, List.setIfInBounds_toArray, List.set_cons_zero, List.set_cons_succ])
                            refine wpAnyH_take (i := 27) (v := .bool false) rfl (by kernel_rfl) (by kernel_rfl) (by kernel_rfl) (fun _ _ _ h => h) (Or.inl ⟨by kernel_rfl, fun wS hSw => ?_⟩) (by assumption) ?_
                            · (try dsimp only at hSw); go_simp
                            (try simp only [Act.put, List.setIfInBounds_toArray, List.set_cons_zero, List.set_cons_succ])
                            refine wpAnyH_take (i := 28) (v := .pointer (some ⟨B7, 1, none⟩)) rfl (by kernel_rfl) (by kernel_rfl) (by kernel_rfl) (fun _ _ _ h => h) (Or.inl ⟨by kernel_rfl, fun wS hSw => ?_⟩) (by assumption) ?_
                            · (try dsimp only at hSw); go_simp
                            (try simp only [Act.put, List.setIfInBounds_toArray, List.set_cons_zero, List.set_cons_succ])
                            refine wpAnyH_take (i := 29) (v := .int .u8 (f : Int)) rfl (by kernel_rfl) (by kernel_rfl) (by kernel_rfl) (fun _ _ _ h => h) (Or.inl ⟨by kernel_rfl, fun wS hSw => ?_⟩) (by assumption) ?_
                            · (try dsimp only at hSw); have hx := unhide HX wS hSw; clear hSw; go_simp
                            (try simp only [Act.put, List.setIfInBounds_toArray, List.set_cons_zero, List.set_cons_succ])
                            refine wpAnyH_take (i := 30) (v := .pointer (some ⟨B7, 2, none⟩)) rfl (by kernel_rfl) (by kernel_rfl) (by kernel_rfl) (fun _ _ _ h => h) (Or.inl ⟨by kernel_rfl, fun wS hSw => ?_⟩) (by assumption) ?_
                            · (try dsimp only at hSw); go_simp
                            (try simp only [Act.put, List.setIfInBounds_toArray, List.set_cons_zero, List.set_cons_succ])
                            refine wpAnyH_take (i := 31) (v := .agg #[.int .i64 dy, .int .i64 sc, .int .i64 zn]) rfl (by kernel_rfl) (by kernel_rfl) (by kernel_rfl) (fun _ _ _ h => h) (Or.inl ⟨by kernel_rfl, fun wS hSw => ?_⟩) (by assumption) ?_
                            · (try dsimp only at hSw); have hx := unhide HX wS hSw; clear hSw; go_simp
                            (try simp only [Act.put, List.setIfInBounds_toArray, List.set_cons_zero, List.set_cons_succ])
                            refine wpAnyH_take (i := 32) (v := .pointer (some ⟨B7, 5, none⟩)) rfl (by kernel_rfl) (by kernel_rfl) (by kernel_rfl) (fun _ _ _ h => h) (Or.inl ⟨by kernel_rfl, fun wS hSw => ?_⟩) (by assumption) ?_
                            · (try dsimp only at hSw); go_simp
                            (try simp only [Act.put, List.setIfInBounds_toArray, List.set_cons_zero, List.set_cons_succ])
                            refine wpAnyH_take (i := 33) (v := .string rw_) rfl (by kernel_rfl) (by kernel_rfl) (by kernel_rfl) (fun _ _ _ h => h) (Or.inl ⟨by kernel_rfl, fun wS hSw => ?_⟩) (by assumption) ?_
                            · (try dsimp only at hSw); have hx := unhide HX wS hSw; clear hSw; go_simp
                            (try simp only [Act.put, List.setIfInBounds_toArray, List.set_cons_zero, List.set_cons_succ])
                            refine wpAnyH_ready (rs := [34]) (by kernel_rfl) (by simp) ?_
                            refine AllReadyH.cons rfl (fun K hK => ?_) AllReadyH.nil
                            have hB : Below W2.heap.size W2 _ := hHeld
                            go_simp
                            refine (unhide HFI _).mono ?_
                            rintro e w6 ⟨rfl, b6⟩
                            have hw6 : Below W2.heap.size W2 w6 := belows' hB b6
                            clear b6 hB
                            go_wp2_with fail
                            refine hK.out _ _ ?_ (fun hHeld => ?_)
                            · exact hw6
                            clear hK K
                            (try simp only [Act.put, List.setIfInBounds_toArray, List.set_cons_zero, List.set_cons_succ])
                            refine wpAnyH_take (i := 35) (v := .bool false) rfl (by kernel_rfl) (by kernel_rfl) (by kernel_rfl) (fun _ _ _ h => h) (Or.inl ⟨by kernel_rfl, fun wS hSw => ?_⟩) (by assumption) ?_
                            · (try dsimp only at hSw); go_simp
                            (try simp only [Act.put, List.setIfInBounds_toArray, List.set_cons_zero, List.set_cons_succ])
                            refine wpAnyH_take (i := 36) (v := .bool false) rfl (by kernel_rfl) (by kernel_rfl) (by kernel_rfl) (fun _ _ _ h => h) (Or.inl ⟨by kernel_rfl, fun wS hSw => ?_⟩) (by assumption) ?_
                            · (try dsimp only at hSw); go_simp
                            (try simp only [Act.put, List.setIfInBounds_toArray, List.set_cons_zero, List.set_cons_succ])
                            refine wpAnyH_done (by kernel_rfl) ?_ _
                            have B9 := hide (belows' (unhide HB2) hHeld)
                            clear hHeld
                            go_wp2
                            exact ⟨⟨k + 1, u + 1, by go_num, by omega, HE3, hide ⟨by omega, fun h => by omega, unhide HPN⟩, B9⟩, by simp [intOf]; omega⟩
                · have hlt1 : ¬ (k : Int) < (n : Int) := by omega
                  have hrr : r = true := by
                    have h := unhide HE
                    rw [List.drop_of_length_le (by rw [unhide HN]; omega)] at h
                    exact h.symm
                  have hc : 0 = C := by have h := unhide HC2; rw [hrr, if_pos rfl] at h; exact h
                  subst hc
                  go_wp2
                  go_ret
                  first | exact ⟨rfl, unhide HFM _ (unhide HB)⟩ | exact ⟨rfl, unhide HFN _ (unhide HB)⟩
end Go.Proofs.YthpjogfclklefaaDoor
