/-
  What disk.Delete's innermost step does, over this seat's program.
-/
import Derived.Test.YtmfkhbofmaonkaaDla
import Derived.Deep.RegionHeld3
set_option linter.unusedVariables false
set_option linter.unusedSimpArgs false
namespace Go.Proofs.Ytmfkhbofmaonkaa
open Go.RowKit Go.Proofs.Dsk

theorem below_undrew {B n : Nat} {a w : World} (h : Below B (a.drewN n) w) : Below B a w := ⟨h.os, h.tape, h.output, h.size, h.block⟩
theorem pt_ne {w : World} {p B : Nat} {cs ds : Array Value} (h : Blk w p 47 cs) (k : Blk w B 52 ds) : p ≠ B := blk_ne h k (by decide)
theorem it_ne {w : World} {p B : Nat} {cs ds : Array Value} (h : Blk w p 3 cs) (k : Blk w B 52 ds) : p ≠ B := blk_ne h k (by decide)
theorem st_ne {w : World} {p B : Nat} {cs ds : Array Value} (h : Blk w p 9 cs) (k : Blk w B 52 ds) : p ≠ B := blk_ne h k (by decide)

set_option maxHeartbeats 2000000 in
set_option maxRecDepth 100000 in
theorem delete11_any (d : Fs) (C B p q i : Nat) (v : Value) (W : World) (hS : SysV W C B v d) (hi : i < d.files.length) (hp : Blk W p 47 #[.pointer (some ⟨B, 0, none⟩)]) (hq : Blk W q 3 #[.int .i64 i]) :
    Calls Try.prog 51 #[.pointer (some ⟨p, 0, none⟩), .pointer (some ⟨q, 0, none⟩)] W fun e W' => e = .returned (.tuple #[]) ∧ Sys W' C B { d with files := d.files.eraseIdx i } ∧ Below C W W' := by
  obtain ⟨hCB, hfit, k0, hown, hne⟩ := hS
  obtain ⟨g, cap, rfl⟩ : ∃ g cap, v = .slice (some ⟨g, 0, none⟩) d.files.length cap := by
    rcases hown.2 with ⟨_, h0⟩ | ⟨g, cap, cur, hv, _⟩
    · omega
    · exact ⟨g, cap, hv⟩
  obtain ⟨hgC, cur, hg⟩ : C ≤ g ∧ ∃ cur, W.heap[g]? = some (.cells cur 56 (0, 0)) := by
    rcases hown.2 with ⟨h0, _⟩ | ⟨g', cap', cur, hv, hb, hg, _⟩
    · simp at h0
    · simp only [Value.slice.injEq, Option.some.injEq, Addr.mk.injEq, and_true, true_and] at hv
      obtain ⟨rfl, rfl⟩ := hv
      exact ⟨hb, cur, hg⟩
  have npg := blk_ne hp hg (by decide)
  have nqg := blk_ne hq hg (by decide)
  have nBg := blk_ne k0 hg (by decide)
  have npB := pt_ne hp k0
  have nqB := it_ne hq k0
  have hlt := k0.lt
  obtain ⟨j, hj⟩ : ∃ j, j = i + 1 := ⟨_, rfl⟩
  have hn63 := hfit.2.2
  have hwr : IntKind.i64.wrap ((i : Int) + 1) = (j : Int) := by rw [IntKind.wrap_i64, hj]; omega
  have HD := hide (fun n => deleteF_own C g cap i j d.files (W.drewN n) hown hj hi)
  obtain ⟨m, hm⟩ : ∃ m, (d.files.eraseIdx i).length = m := ⟨_, rfl⟩
  rw [hm] at HD
  have HM := hide hm
  clear hm
  have cp := hp.cell 0
  have cq := hq.cell 0
  have c1 := k0.cell 1
  have f1 := k0.frozen 1
  simp only [sysCells, List.getElem?_toArray, List.getElem?_cons_succ, List.getElem?_cons_zero] at cp cq c1
  have HP := hide hp
  have HQ := hide hq
  have HK := hide k0
  have HFIT := hide hfit
  have HKEEP : Hid (∀ (n : Nat) (w' : World), (W.drewN n).grownBy w' (some g) → w'.cell? ⟨p, 0, none⟩ = some (.pointer (some ⟨B, 0, none⟩)) ∧ w'.cell? ⟨q, 0, none⟩ = some (.int .i64 i) ∧ w'.frozen? ⟨B, 1, none⟩ = false) := hide (fun n w' hg' => by
    have a1 := (blk_grown (w := W.drewN n) hp hg' npg).cell 0
    have a2 := (blk_grown (w := W.drewN n) hq hg' nqg).cell 0
    have a3 := blk_grown (w := W.drewN n) k0 hg' nBg
    simp only [List.getElem?_toArray, List.getElem?_cons_zero] at a1 a2
    exact ⟨a1, a2, a3.frozen 1⟩)
  clear hp hq k0 hown hne hfit hg hj
  go_enter Try.func51, Try.ntmps51
  go_wp2
  refine wp_region_held_drew (S := fun w' => w'.cell? ⟨p, 0, none⟩ = some (.pointer (some ⟨B, 0, none⟩)) ∧ w'.cell? ⟨q, 0, none⟩ = some (.int .i64 i) ∧ w'.frozen? ⟨B, 1, none⟩ = false) (by kernel_rfl) ?_ (fun hHeld => ?_)
  · exact ⟨cp, cq, f1⟩
  refine wpAnyH_take (i := 0) (v := .pointer (some ⟨B, 0, none⟩)) rfl (by kernel_rfl) (by kernel_rfl) (by kernel_rfl) (fun _ _ _ h => h) (Or.inl ⟨by rfl, fun wS hSw => ?_⟩) (by assumption) ?_
  · (try dsimp only at hSw); go_simp
  (try simp only [Act.put, List.setIfInBounds_toArray, List.set_cons_zero, List.set_cons_succ])
  refine wpAnyH_take (i := 1) (v := .pointer (some ⟨B, 0, none⟩)) rfl (by kernel_rfl) (by kernel_rfl) (by kernel_rfl) (fun _ _ _ h => h) (Or.inl ⟨by rfl, fun wS hSw => ?_⟩) (by assumption) ?_
  · (try dsimp only at hSw); go_simp
  (try simp only [Act.put, List.setIfInBounds_toArray, List.set_cons_zero, List.set_cons_succ])
  refine wpAnyH_take (i := 2) (v := .pointer (some ⟨B, 0, none⟩)) rfl (by kernel_rfl) (by kernel_rfl) (by kernel_rfl) (fun _ _ _ h => h) (Or.inl ⟨by rfl, fun wS hSw => ?_⟩) (by assumption) ?_
  · (try dsimp only at hSw); go_simp
  (try simp only [Act.put, List.setIfInBounds_toArray, List.set_cons_zero, List.set_cons_succ])
  refine wpAnyH_take (i := 3) (v := .pointer (some ⟨B, 0, none⟩)) rfl (by kernel_rfl) (by kernel_rfl) (by kernel_rfl) (fun _ _ _ h => h) (Or.inl ⟨by rfl, fun wS hSw => ?_⟩) (by assumption) ?_
  · (try dsimp only at hSw); go_simp
  (try simp only [Act.put, List.setIfInBounds_toArray, List.set_cons_zero, List.set_cons_succ])
  refine wpAnyH_take (i := 4) (v := .pointer (some ⟨B, 1, none⟩)) rfl (by kernel_rfl) (by kernel_rfl) (by kernel_rfl) (fun _ _ _ h => h) (Or.inl ⟨by rfl, fun wS hSw => ?_⟩) (by assumption) ?_
  · (try dsimp only at hSw); go_simp
  (try simp only [Act.put, List.setIfInBounds_toArray, List.set_cons_zero, List.set_cons_succ])
  refine wpAnyH_take (i := 6) (v := .int .i64 (i : Int)) rfl (by kernel_rfl) (by kernel_rfl) (by kernel_rfl) (fun _ _ _ h => h) (Or.inl ⟨by rfl, fun wS hSw => ?_⟩) (by assumption) ?_
  · (try dsimp only at hSw); go_simp
  (try simp only [Act.put, List.setIfInBounds_toArray, List.set_cons_zero, List.set_cons_succ])
  refine wpAnyH_take (i := 7) (v := .int .i64 (i : Int)) rfl (by kernel_rfl) (by kernel_rfl) (by kernel_rfl) (fun _ _ _ h => h) (Or.inl ⟨by rfl, fun wS hSw => ?_⟩) (by assumption) ?_
  · (try dsimp only at hSw); go_simp
  (try simp only [Act.put, List.setIfInBounds_toArray, List.set_cons_zero, List.set_cons_succ])
  refine wpAnyH_take (i := 8) (v := .int .i64 (j : Int)) rfl (by kernel_rfl) (by kernel_rfl) (by kernel_rfl) (fun _ _ _ h => h) (Or.inl ⟨by rfl, fun wS hSw => ?_⟩) (by assumption) ?_
  · (try dsimp only at hSw); go_simp
  (try simp only [Act.put, List.setIfInBounds_toArray, List.set_cons_zero, List.set_cons_succ])
  refine wpAnyH_ready (rs := [5]) (by kernel_rfl) (by simp) ?_
  refine AllReadyH.cons rfl (fun K hK => ?_) AllReadyH.nil
  go_simp
  refine hK.out _ _ ?_ (fun hHeld => ?_)
  · exact hHeld
  clear hK K
  (try simp only [Act.put, List.setIfInBounds_toArray, List.set_cons_zero, List.set_cons_succ])
  refine wpAnyH_ready (rs := [9]) (by kernel_rfl) (by simp) ?_
  refine AllReadyH.cons rfl (fun K hK => ?_) AllReadyH.nil
  go_simp
  refine (unhide HD _).mono ?_
  rintro e w3 ⟨rfl, own3, gr3⟩
  have c13 := (blk_grown (w := W.drewN _) (unhide HK) gr3 nBg).cell 1
  simp only [sysCells, List.getElem?_toArray, List.getElem?_cons_succ, List.getElem?_cons_zero] at c13
  have hk3 := unhide HKEEP _ _ gr3
  go_wp2_with fail
  refine hK.out _ _ ?_ (fun hHeld => ?_)
  · exact unhide HKEEP _ _ gr3
  clear hK K
  (try simp only [Act.put, List.setIfInBounds_toArray, List.set_cons_zero, List.set_cons_succ])
  refine wpAnyH_take (i := 10) (v := .pointer (some ⟨B, 0, none⟩)) rfl (by kernel_rfl) (by kernel_rfl) (by kernel_rfl) (fun _ _ _ h => h) (Or.inl ⟨by rfl, fun wS hSw => ?_⟩) (by assumption) ?_
  · (try dsimp only at hSw); go_simp
  (try simp only [Act.put, List.setIfInBounds_toArray, List.set_cons_zero, List.set_cons_succ])
  refine wpAnyH_take (i := 11) (v := .pointer (some ⟨B, 0, none⟩)) rfl (by kernel_rfl) (by kernel_rfl) (by kernel_rfl) (fun _ _ _ h => h) (Or.inl ⟨by rfl, fun wS hSw => ?_⟩) (by assumption) ?_
  · (try dsimp only at hSw); go_simp
  (try simp only [Act.put, List.setIfInBounds_toArray, List.set_cons_zero, List.set_cons_succ])
  refine wpAnyH_take (i := 12) (v := .pointer (some ⟨B, 1, none⟩)) rfl (by kernel_rfl) (by kernel_rfl) (by kernel_rfl) (fun _ _ _ h => h) (Or.inl ⟨by rfl, fun wS hSw => ?_⟩) (by assumption) ?_
  · (try dsimp only at hSw); go_simp
  (try simp only [Act.put, List.setIfInBounds_toArray, List.set_cons_zero, List.set_cons_succ])
  refine wpAnyH_ready (rs := [13]) (by kernel_rfl) (by simp) ?_
  refine AllReadyH.cons rfl (fun K hK => ?_) AllReadyH.nil
  obtain ⟨x1, x2, x3⟩ := hk3
  go_simp
  refine hK.out _ _ ?_ (fun hHeld => ?_)
  · exact ⟨(World.cell?_setCell_far _ _ _ _ (fun e => npB e.symm)).trans x1, (World.cell?_setCell_far _ _ _ _ (fun e => nqB e.symm)).trans x2, by simp [x3]⟩
  clear hK K
  (try simp only [Act.put, List.setIfInBounds_toArray, List.set_cons_zero, List.set_cons_succ])
  refine wpAnyH_done (by kernel_rfl) ?_ _
  have S3 : Hid (Sys (w3.setCell ⟨B, 1, none⟩ (.slice (some ⟨g, 0, none⟩) m cap)) C B { d with files := d.files.eraseIdx i }) := by
    have k3 := blk_grown (w := W.drewN _) (unhide HK) gr3 nBg
    rw [← unhide HM] at own3 ⊢
    refine hide ⟨hCB, fit_sub (unhide HFIT) (fun f hf => List.mem_of_mem_eraseIdx hf) (by have := List.length_eraseIdx_le d.files i; omega), .slice (some ⟨g, 0, none⟩) (d.files.eraseIdx i).length cap, k3.set 1 _, own_set own3 (fun e => nBg (by simpa [Value.ownBlock] using e.symm)), fun e => nBg (by simpa [Value.ownBlock] using e.symm)⟩
  have B3 : Hid (Below C W (w3.setCell ⟨B, 1, none⟩ (.slice (some ⟨g, 0, none⟩) m cap))) := hide ((below_undrew (grown_below gr3 hgC (by show C ≤ W.heap.size; omega))).setCell (p := ⟨B, 1, none⟩) hCB _)
  clear own3 gr3 hHeld x1 x2 x3 c13
  go_wp2
  go_end0
  exact ⟨rfl, unhide S3, unhide B3⟩
end Go.Proofs.Ytmfkhbofmaonkaa
