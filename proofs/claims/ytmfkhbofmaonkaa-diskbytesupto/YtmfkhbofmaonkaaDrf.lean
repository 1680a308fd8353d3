/-
  What disk.Rename's innermost step does where there is no file of the new name, over this seat's program.
-/
import Derived.Test.YtmfkhbofmaonkaaDra
import Derived.Deep.RegionHeld3
set_option linter.unusedVariables false
set_option linter.unusedSimpArgs false
namespace Go.Proofs.Ytmfkhbofmaonkaa
open Go.RowKit Go.Proofs.Dsk Go.Lib

set_option maxHeartbeats 8000000 in
set_option maxRecDepth 100000 in
theorem rename11_no (d : Fs) (C B p q r i : Nat) (to : ByteArray) (v : Value) (W : World) (hS : SysV W C B v d) (hi : i < d.files.length) (hl : d.files.length ≤ 1024) (hri : Rise d.files) (hto : to.size ≤ 281474976710656) (hp : Blk W p 47 #[.pointer (some ⟨B, 0, none⟩)]) (hq : Blk W q 3 #[.int .i64 i]) (hr : Blk W r 9 #[.string to]) (hh : has (d.files.eraseIdx i) to = false) :
    Calls Try.prog 47 #[.pointer (some ⟨p, 0, none⟩), .pointer (some ⟨q, 0, none⟩), .pointer (some ⟨r, 0, none⟩)] W fun e W' => e = .returned (.tuple #[]) ∧ Sys W' C B { d with files := (d.files.eraseIdx i).insertIdx (lb (d.files.eraseIdx i) to) ⟨to, d.files[i].data, d.files[i].synced⟩ } ∧ Below C W W' := by
  obtain ⟨g, cap, hv, hgC, hgw, nBg, x0, x1, x2, hfz, cur, hg⟩ := hS.at hi
  subst hv
  have HSV := hide hS
  obtain ⟨hCB, hfit, k0, hown, hne⟩ := hS
  have hlt := k0.lt
  have npB := pt_ne hp k0
  have nrB := st_ne hr k0
  have nqB := it_ne hq k0
  have npg := blk_ne hp hg (by decide)
  have nqg := blk_ne hq hg (by decide)
  have nrg := blk_ne hr hg (by decide)
  have hpl := hp.lt
  have hrl := hr.lt
  have HCL := hide (fun X => clone_any to X hto)
  have hfi := hfit.2.1 _ (List.getElem_mem hi)
  have HFI : Hid (Fits ⟨to, d.files[i].data, d.files[i].synced⟩) := hide ⟨Nat.le_trans hto (by decide), hfi.2.1, hfi.2.2⟩
  have hel : (d.files.eraseIdx i).length = d.files.length - 1 := by rw [List.length_eraseIdx_of_lt hi]
  have hri1 := rise_erase hri i
  have HFIT := hide hfit
  have HFIT1 := hide (fit_sub hfit (fun f hf => List.mem_of_mem_eraseIdx hf) (show (d.files.eraseIdx i).length ≤ 9223372036854775807 by omega))
  generalize hnm : d.files[i].name = nm at x0
  generalize hdt : d.files[i].data = dt at x1 HFI ⊢
  generalize hsy : d.files[i].synced = sy at x2 HFI ⊢
  have HA : Hid (∀ X, Below W.heap.size W X → SA B p q g i d.files.length cap nm dt sy X) := hide (fun X hX => by
    have a1 := (hp.below hX).cell 0
    have a2 := (hq.below hX).cell 0
    have a3 := (k0.below hX).cell 1
    simp only [sysCells, List.getElem?_toArray, List.getElem?_cons_succ, List.getElem?_cons_zero] at a1 a2 a3
    exact ⟨a1, a2, a3, (hX.cell (p := ⟨g, i * 3, none⟩) hgw).trans x0, (hX.cell (p := ⟨g, i * 3 + 1, none⟩) hgw).trans x1, (hX.cell (p := ⟨g, i * 3 + 2, none⟩) hgw).trans x2⟩)
  have HB : Hid (∀ X, Below W.heap.size W X → X.cell? ⟨p, 0, none⟩ = some (.pointer (some ⟨B, 0, none⟩)) ∧ X.cell? ⟨q, 0, none⟩ = some (.int .i64 i) ∧ X.cell? ⟨r, 0, none⟩ = some (.string to) ∧ Blk X B 52 (sysCells d (.slice (some ⟨g, 0, none⟩) d.files.length cap)) ∧ X.cell? ⟨B, 1, none⟩ = some (.slice (some ⟨g, 0, none⟩) d.files.length cap) ∧ X.frozen? ⟨B, 1, none⟩ = false ∧ X.ownsRow C 56 3 (.slice (some ⟨g, 0, none⟩) d.files.length cap) d.files.length (flatF d.files)) := hide (fun X hX => by
    have a1 := (hp.below hX).cell 0
    have a2 := (hq.below hX).cell 0
    have a4 := (hr.below hX).cell 0
    have a3 := (k0.below hX).cell 1
    simp only [sysCells, List.getElem?_toArray, List.getElem?_cons_succ, List.getElem?_cons_zero] at a1 a2 a3 a4
    exact ⟨a1, a2, a4, k0.below hX, a3, (k0.below hX).frozen 1, own_below hown hX⟩)
  have HG : Hid (∀ X n w', Below W.heap.size W X → (World.drewN X n).grownBy w' (some g) → w'.cell? ⟨p, 0, none⟩ = some (.pointer (some ⟨B, 0, none⟩)) ∧ w'.cell? ⟨q, 0, none⟩ = some (.int .i64 i) ∧ w'.frozen? ⟨B, 1, none⟩ = false ∧ Blk w' p 47 #[.pointer (some ⟨B, 0, none⟩)] ∧ Blk w' r 9 #[.string to] ∧ Blk w' B 52 (sysCells d (.slice (some ⟨g, 0, none⟩) d.files.length cap))) := hide (fun X n w' hX hgr => by
    have u1 := hp.below hX
    have u2 := hq.below hX
    have u3 := k0.below hX
    have u4 := hr.below hX
    have a1 := blk_grown (w := X.drewN n) u1 hgr npg
    have a2 := (blk_grown (w := X.drewN n) u2 hgr nqg).cell 0
    have a3 := blk_grown (w := X.drewN n) u3 hgr nBg
    have a4 := blk_grown (w := X.drewN n) u4 hgr nrg
    have a5 := a1.cell 0
    simp only [sysCells, List.getElem?_toArray, List.getElem?_cons_succ, List.getElem?_cons_zero] at a2 a5
    exact ⟨a5, a2, a3.frozen 1, a1, a4, a3⟩)
  have HF := hide (fun (m : Nat) (hm : (d.files.eraseIdx i).length = m) (X : World) (hX : RowF X (.slice (some ⟨g, 0, none⟩) m cap) (d.files.eraseIdx i)) => find_any { d with files := d.files.eraseIdx i } (.slice (some ⟨g, 0, none⟩) m cap) to X hri1 (by show (d.files.eraseIdx i).length ≤ 1024; omega) hX)
  have HH := hide hh
  have HPL : Hid (lb (d.files.eraseIdx i) to ≤ (d.files.eraseIdx i).length) := hide (lb_le _ _)
  have HEL := hide hel
  have HL := hide hl
  have HI := hide hi
  obtain ⟨j, hj⟩ : ∃ j, j = i + 1 := ⟨_, rfl⟩
  have HJ := hide hj
  have hwr : IntKind.i64.wrap ((i : Int) + 1) = (j : Int) := by rw [IntKind.wrap_i64, hj]; omega
  have hiN : (i : Int) < (d.files.length : Int) := by omega
  obtain ⟨N, hN⟩ : ∃ N, N = d.files.length := ⟨_, rfl⟩
  have HN := hide hN
  rw [← hN] at HA HB HG hi hiN
  have h63 : N ≤ 1024 := by omega
  obtain ⟨m, hm⟩ : ∃ m, (d.files.eraseIdx i).length = m := ⟨_, rfl⟩
  have HM := hide hm
  clear hm hN hj hel hh hri1 hfit hown hne k0 hp hq hr hg x0 x1 x2 hfz hnm hdt hsy hfi hri hl
  go_enter Try.func47, Try.ntmps47
  go_wp2
  refine wp_region_held_drew (S := SA B p q g i N cap nm dt sy) (by kernel_rfl) ?_ (fun hHeld => ?_)
  · exact unhide HA _ (below_dr1 (Below.refl _ _))
  refine wpAnyH_take (i := 0) (v := .pointer (some ⟨B, 0, none⟩)) rfl (by kernel_rfl) (by kernel_rfl) (by kernel_rfl) (fun _ _ _ h => h) (Or.inl ⟨by rfl, fun wS hSw => ?_⟩) (by assumption) ?_
  · (try dsimp only [SA, SB, SC] at hSw); go_simp
  (try simp only [Act.put, List.setIfInBounds_toArray, List.set_cons_zero, List.set_cons_succ])
  refine wpAnyH_take (i := 1) (v := .pointer (some ⟨B, 0, none⟩)) rfl (by kernel_rfl) (by kernel_rfl) (by kernel_rfl) (fun _ _ _ h => h) (Or.inl ⟨by rfl, fun wS hSw => ?_⟩) (by assumption) ?_
  · (try dsimp only [SA, SB, SC] at hSw); go_simp
  (try simp only [Act.put, List.setIfInBounds_toArray, List.set_cons_zero, List.set_cons_succ])
  refine wpAnyH_take (i := 2) (v := .pointer (some ⟨B, 0, none⟩)) rfl (by kernel_rfl) (by kernel_rfl) (by kernel_rfl) (fun _ _ _ h => h) (Or.inl ⟨by rfl, fun wS hSw => ?_⟩) (by assumption) ?_
  · (try dsimp only [SA, SB, SC] at hSw); go_simp
  (try simp only [Act.put, List.setIfInBounds_toArray, List.set_cons_zero, List.set_cons_succ])
  refine wpAnyH_take (i := 3) (v := .pointer (some ⟨B, 1, none⟩)) rfl (by kernel_rfl) (by kernel_rfl) (by kernel_rfl) (fun _ _ _ h => h) (Or.inl ⟨by rfl, fun wS hSw => ?_⟩) (by assumption) ?_
  · (try dsimp only [SA, SB, SC] at hSw); go_simp
  (try simp only [Act.put, List.setIfInBounds_toArray, List.set_cons_zero, List.set_cons_succ])
  refine wpAnyH_take (i := 4) (v := .slice (some ⟨g, 0, none⟩) N cap) rfl (by kernel_rfl) (by kernel_rfl) (by kernel_rfl) (fun _ _ _ h => h) (Or.inl ⟨by rfl, fun wS hSw => ?_⟩) (by assumption) ?_
  · (try dsimp only [SA, SB, SC] at hSw); go_simp
  (try simp only [Act.put, List.setIfInBounds_toArray, List.set_cons_zero, List.set_cons_succ])
  refine wpAnyH_take (i := 5) (v := .int .i64 (i : Int)) rfl (by kernel_rfl) (by kernel_rfl) (by kernel_rfl) (fun _ _ _ h => h) (Or.inl ⟨by rfl, fun wS hSw => ?_⟩) (by assumption) ?_
  · (try dsimp only [SA, SB, SC] at hSw); go_simp
  (try simp only [Act.put, List.setIfInBounds_toArray, List.set_cons_zero, List.set_cons_succ])
  refine wpAnyH_take (i := 6) (v := .pointer (some ⟨g, i * 3, none⟩)) rfl (by kernel_rfl) (by kernel_rfl) (by kernel_rfl) (fun _ _ _ h => h) (Or.inl ⟨by rfl, fun wS hSw => ?_⟩) (by assumption) ?_
  · (try dsimp only [SA, SB, SC] at hSw); go_simp
  (try simp only [Act.put, List.setIfInBounds_toArray, List.set_cons_zero, List.set_cons_succ])
  refine wpAnyH_take (i := 7) (v := .agg #[.string nm, .string dt, .int .i64 sy]) rfl (by kernel_rfl) (by kernel_rfl) (by kernel_rfl) (fun _ _ _ h => h) (Or.inl ⟨by rfl, fun wS hSw => ?_⟩) (by assumption) ?_
  · (try dsimp only [SA, SB, SC] at hSw); go_simp
  (try simp only [Act.put, List.setIfInBounds_toArray, List.set_cons_zero, List.set_cons_succ])
  refine wpAnyH_ready (rs := [8]) (by kernel_rfl) (by simp) ?_
  refine AllReadyH.cons rfl (fun K hK => ?_) AllReadyH.nil
  go_simp
  refine hK.out _ _ ?_ (fun hHeld => ?_)
  · exact unhide HA _ (below_dr1 ((Below.refl _ _).alloc (Nat.le_refl _) _))
  clear hK K
  (try simp only [Act.put, List.setIfInBounds_toArray, List.set_cons_zero, List.set_cons_succ])
  refine wpAnyH_ready (rs := [9]) (by kernel_rfl) (by simp) ?_
  refine AllReadyH.cons rfl (fun K hK => ?_) AllReadyH.nil
  go_simp
  refine hK.out _ _ ?_ (fun hHeld => ?_)
  · exact unhide HA _ (below_dr1 ((Below.refl _ _).alloc (Nat.le_refl _) _))
  clear hK K
  (try simp only [Act.put, List.setIfInBounds_toArray, List.set_cons_zero, List.set_cons_succ])
  refine wpAnyH_done (by kernel_rfl) ?_ _
  clear hHeld
  have tr := (unhide HB _ (Below.refl _ _)).2.2.1
  have tr1 : (W.alloc (Obj.cells #[.string nm, .string dt, .int .i64 sy] 56)).cell? ⟨r, 0, none⟩ = some (.string to) := (unhide HB _ ((Below.refl _ _).alloc (Nat.le_refl _) _)).2.2.1
  go_wp2_with fail
  clear tr tr1
  refine (unhide HCL _).mono ?_
  rintro e w1 ⟨rfl, b1⟩
  have bw1 : Below (W.alloc (Obj.cells #[.string nm, .string dt, .int .i64 sy] 56)).heap.size (W.alloc (Obj.cells #[.string nm, .string dt, .int .i64 sy] 56)) w1 := ⟨b1.os, b1.tape, b1.output, b1.size, b1.block⟩
  have kf := (Blk.new W 56 #[.string nm, .string dt, .int .i64 sy]).below bw1
  have kc := kf.cell 0
  have kz := kf.frozen 0
  simp only [sysCells, List.getElem?_toArray, List.getElem?_cons_succ, List.getElem?_cons_zero] at kc
  have bX1 : Below W.heap.size W (w1.setCell ⟨W.heap.size, 0, none⟩ (.string to)) := (belows ((Below.refl _ _).alloc (Nat.le_refl _) _) bw1).setCell (p := ⟨W.heap.size, 0, none⟩) (Nat.le_refl _) _
  have kF1 : Blk (w1.setCell ⟨W.heap.size, 0, none⟩ (.string to)) W.heap.size 56 #[.string to, .string dt, .int .i64 sy] := kf.set 0 _
  obtain ⟨t1, t2⟩ : w1.cell? ⟨r, 0, none⟩ = some (.string to) ∧ w1.cell? ⟨p, 0, none⟩ = some (.pointer (some ⟨B, 0, none⟩)) := ⟨(unhide HB _ (belows ((Below.refl _ _).alloc (Nat.le_refl _) _) bw1)).2.2.1, (unhide HB _ (belows ((Below.refl _ _).alloc (Nat.le_refl _) _) bw1)).1⟩
  clear b1 bw1 kf
  go_wp2
  clear kc kz t1 t2
  generalize (w1.setCell ⟨W.heap.size, 0, none⟩ (.string to)) = X1 at bX1 kF1 ⊢
  obtain ⟨cp, cq, cr, kB1, c1, f1, own1⟩ := unhide HB _ bX1
  have OWN1 := hide own1
  have KB1 := hide kB1
  have BX1 := hide bX1
  have KF1 := hide kF1
  have HD := hide (fun n => deleteF_own C g cap i j d.files (X1.drewN n) (by rw [← unhide HN]; exact own1) (unhide HJ) (unhide HI))
  rw [← unhide HN, unhide HM] at HD
  clear own1 kB1 bX1 kF1
  refine wp_region_held_drew (S := SB B p q i) (by kernel_rfl) ?_ (fun hHeld => ?_)
  · exact ⟨cp, cq, f1⟩
  refine wpAnyH_take (i := 0) (v := .pointer (some ⟨B, 0, none⟩)) rfl (by kernel_rfl) (by kernel_rfl) (by kernel_rfl) (fun _ _ _ h => h) (Or.inl ⟨by rfl, fun wS hSw => ?_⟩) (by assumption) ?_
  · (try dsimp only [SA, SB, SC] at hSw); go_simp
  (try simp only [Act.put, List.setIfInBounds_toArray, List.set_cons_zero, List.set_cons_succ])
  refine wpAnyH_take (i := 1) (v := .pointer (some ⟨B, 0, none⟩)) rfl (by kernel_rfl) (by kernel_rfl) (by kernel_rfl) (fun _ _ _ h => h) (Or.inl ⟨by rfl, fun wS hSw => ?_⟩) (by assumption) ?_
  · (try dsimp only [SA, SB, SC] at hSw); go_simp
  (try simp only [Act.put, List.setIfInBounds_toArray, List.set_cons_zero, List.set_cons_succ])
  refine wpAnyH_take (i := 2) (v := .pointer (some ⟨B, 0, none⟩)) rfl (by kernel_rfl) (by kernel_rfl) (by kernel_rfl) (fun _ _ _ h => h) (Or.inl ⟨by rfl, fun wS hSw => ?_⟩) (by assumption) ?_
  · (try dsimp only [SA, SB, SC] at hSw); go_simp
  (try simp only [Act.put, List.setIfInBounds_toArray, List.set_cons_zero, List.set_cons_succ])
  refine wpAnyH_take (i := 3) (v := .pointer (some ⟨B, 0, none⟩)) rfl (by kernel_rfl) (by kernel_rfl) (by kernel_rfl) (fun _ _ _ h => h) (Or.inl ⟨by rfl, fun wS hSw => ?_⟩) (by assumption) ?_
  · (try dsimp only [SA, SB, SC] at hSw); go_simp
  (try simp only [Act.put, List.setIfInBounds_toArray, List.set_cons_zero, List.set_cons_succ])
  refine wpAnyH_take (i := 4) (v := .pointer (some ⟨B, 1, none⟩)) rfl (by kernel_rfl) (by kernel_rfl) (by kernel_rfl) (fun _ _ _ h => h) (Or.inl ⟨by rfl, fun wS hSw => ?_⟩) (by assumption) ?_
  · (try dsimp only [SA, SB, SC] at hSw); go_simp
  (try simp only [Act.put, List.setIfInBounds_toArray, List.set_cons_zero, List.set_cons_succ])
  refine wpAnyH_take (i := 6) (v := .int .i64 (i : Int)) rfl (by kernel_rfl) (by kernel_rfl) (by kernel_rfl) (fun _ _ _ h => h) (Or.inl ⟨by rfl, fun wS hSw => ?_⟩) (by assumption) ?_
  · (try dsimp only [SA, SB, SC] at hSw); go_simp
  (try simp only [Act.put, List.setIfInBounds_toArray, List.set_cons_zero, List.set_cons_succ])
  refine wpAnyH_take (i := 7) (v := .int .i64 (i : Int)) rfl (by kernel_rfl) (by kernel_rfl) (by kernel_rfl) (fun _ _ _ h => h) (Or.inl ⟨by rfl, fun wS hSw => ?_⟩) (by assumption) ?_
  · (try dsimp only [SA, SB, SC] at hSw); go_simp
  (try simp only [Act.put, List.setIfInBounds_toArray, List.set_cons_zero, List.set_cons_succ])
  refine wpAnyH_take (i := 8) (v := .int .i64 (j : Int)) rfl (by kernel_rfl) (by kernel_rfl) (by kernel_rfl) (fun _ _ _ h => h) (Or.inl ⟨by rfl, fun wS hSw => ?_⟩) (by assumption) ?_
  · (try dsimp only [SA, SB, SC] at hSw); go_simp
  (try simp only [Act.put, List.setIfInBounds_toArray, List.set_cons_zero, List.set_cons_succ])
  refine wpAnyH_ready (rs := [5]) (by kernel_rfl) (by simp) ?_
  refine AllReadyH.cons rfl (fun K hK => ?_) AllReadyH.nil
  go_simp
  refine hK.out _ _ ?_ (fun hHeld => ?_)
  · exact hHeld
  clear hK K
  (try simp only [Act.put, List.setIfInBounds_toArray, List.set_cons_zero, List.set_cons_succ])
  refine wpAnyH_ready (rs := [9]) (by kernel_rfl) (by simp) ?_
  refine AllReadyH.cons rfl (fun K hK => ?_) AllReadyH.nil
  go_simp
  refine (unhide HD _).mono ?_
  rintro e w3 ⟨rfl, own3, gr3⟩
  have KG3 := hide (unhide HG _ _ _ (unhide BX1) gr3)
  have hk3 := (unhide KG3).1
  have OWN3 := hide own3
  have GR3 := hide gr3
  clear own3 gr3
  go_wp2_with fail
  refine hK.out _ _ ?_ (fun hHeld => ?_)
  · exact ⟨(unhide KG3).1, (unhide KG3).2.1, (unhide KG3).2.2.1⟩
  clear hK K
  (try simp only [Act.put, List.setIfInBounds_toArray, List.set_cons_zero, List.set_cons_succ])
  obtain ⟨x1, x2, x3, _⟩ := unhide KG3
  refine wpAnyH_take (i := 10) (v := .pointer (some ⟨B, 0, none⟩)) rfl (by kernel_rfl) (by kernel_rfl) (by kernel_rfl) (fun _ _ _ h => h) (Or.inl ⟨by rfl, fun wS hSw => ?_⟩) (by assumption) ?_
  · (try dsimp only [SA, SB, SC] at hSw); go_simp
  (try simp only [Act.put, List.setIfInBounds_toArray, List.set_cons_zero, List.set_cons_succ])
  refine wpAnyH_take (i := 11) (v := .pointer (some ⟨B, 0, none⟩)) rfl (by kernel_rfl) (by kernel_rfl) (by kernel_rfl) (fun _ _ _ h => h) (Or.inl ⟨by rfl, fun wS hSw => ?_⟩) (by assumption) ?_
  · (try dsimp only [SA, SB, SC] at hSw); go_simp
  (try simp only [Act.put, List.setIfInBounds_toArray, List.set_cons_zero, List.set_cons_succ])
  refine wpAnyH_take (i := 12) (v := .pointer (some ⟨B, 1, none⟩)) rfl (by kernel_rfl) (by kernel_rfl) (by kernel_rfl) (fun _ _ _ h => h) (Or.inl ⟨by rfl, fun wS hSw => ?_⟩) (by assumption) ?_
  · (try dsimp only [SA, SB, SC] at hSw); go_simp
  (try simp only [Act.put, List.setIfInBounds_toArray, List.set_cons_zero, List.set_cons_succ])
  refine wpAnyH_ready (rs := [13]) (by kernel_rfl) (by simp) ?_
  refine AllReadyH.cons rfl (fun K hK => ?_) AllReadyH.nil
  have c13 := ((unhide KG3).2.2.2.2.2).cell 1
  simp only [sysCells, List.getElem?_toArray, List.getElem?_cons_succ, List.getElem?_cons_zero] at c13
  go_simp
  clear c13
  refine hK.out _ _ ?_ (fun hHeld => ?_)
  · exact ⟨(World.cell?_setCell_far _ _ _ _ (fun e => npB e.symm)).trans x1, (World.cell?_setCell_far _ _ _ _ (fun e => nqB e.symm)).trans x2, by simp [x3]⟩
  clear hK K
  (try simp only [Act.put, List.setIfInBounds_toArray, List.set_cons_zero, List.set_cons_succ])
  refine wpAnyH_done (by kernel_rfl) ?_ _
  clear hHeld x1 x2 x3
  have k3 := (unhide KG3).2.2.2.2.2
  have kp3 := (unhide KG3).2.2.2.1
  have kr3 := (unhide KG3).2.2.2.2.1
  have own3 := unhide OWN3
  have gr3 := unhide GR3
  have V2 : SysV (w3.setCell ⟨B, 1, none⟩ (.slice (some ⟨g, 0, none⟩) m cap)) C B (.slice (some ⟨g, 0, none⟩) m cap) { d with files := d.files.eraseIdx i } := by
    rw [← unhide HM] at own3 ⊢
    exact ⟨hCB, unhide HFIT1, k3.set 1 _, own_set own3 (fun e => nBg (by simpa [Value.ownBlock] using e.symm)), fun e => nBg (by simpa [Value.ownBlock] using e.symm)⟩
  have kp2 := blk_far (b := B) (i := 1) kp3 npB (.slice (some ⟨g, 0, none⟩) m cap)
  have kr2 := blk_far (b := B) (i := 1) kr3 nrB (.slice (some ⟨g, 0, none⟩) m cap)
  have kF2 := blk_far (b := B) (i := 1) (blk_grown (w := X1.drewN _) (unhide KF1) gr3 (by omega)) (by omega) (.slice (some ⟨g, 0, none⟩) m cap)
  have hX2s : W.heap.size < w3.heap.size := by have := gr3.size; have := (unhide KF1).lt; exact Nat.lt_of_lt_of_le this gr3.size
  have B2 : Below C W (w3.setCell ⟨B, 1, none⟩ (.slice (some ⟨g, 0, none⟩) m cap)) := (below_undrew (grown_below gr3 hgC (show C ≤ X1.heap.size by have := (unhide BX1).size; omega)) |> fun h => ((unhide BX1).mono (show C ≤ W.heap.size by omega)).trans h).setCell (p := ⟨B, 1, none⟩) hCB _
  have hX2z : W.heap.size < (w3.setCell ⟨B, 1, none⟩ (.slice (some ⟨g, 0, none⟩) m cap)).heap.size := by simpa using hX2s
  clear k3 kp3 kr3 own3 gr3 KG3 OWN3 GR3 hX2s
  generalize (w3.setCell ⟨B, 1, none⟩ (.slice (some ⟨g, 0, none⟩) m cap)) = X2 at V2 kp2 kr2 kF2 B2 hX2z ⊢
  have HC : Hid (∀ X, Below X2.heap.size X2 X → SC B p r W.heap.size d (.slice (some ⟨g, 0, none⟩) m cap) to dt sy X) := hide (fun X hX => by
    have a1 := (kp2.below hX).cell 0
    have a2 := (kr2.below hX).cell 0
    have b := (V2.below hX).2.2.1
    have c0 := b.cell 0
    have c1 := b.cell 1
    have c2 := b.cell 2
    have c3 := b.cell 3
    have c4 := b.cell 4
    have d0 := (kF2.below hX).cell 0
    have d1 := (kF2.below hX).cell 1
    have d2 := (kF2.below hX).cell 2
    simp only [sysCells, List.getElem?_toArray, List.getElem?_cons_succ, List.getElem?_cons_zero] at a1 a2 c0 c1 c2 c3 c4 d0 d1 d2
    exact ⟨a1, a2, c0, c1, c2, c3, c4, d0, d1, d2⟩)
  have HROW : Hid (∀ {X : World}, Below X2.heap.size X2 X → RowF X (.slice (some ⟨g, 0, none⟩) m cap) (d.files.eraseIdx i)) := fun {X} hX => (rowF_of_own (v := .slice (some ⟨g, 0, none⟩) m cap) V2.2.2.2.1 V2.2.1.2.2 V2.2.1.2.1).below hX
  have HFX := hide (unhide HF m (unhide HM))
  have hthere := unhide HH
  simp only [fsV] at HFX
  rw [hthere] at HFX
  clear hthere
  generalize hpl : lb (d.files.eraseIdx i) to = pl at HFX HPL ⊢
  have HV2 := hide V2
  have HKF2 := hide kF2
  have HB2 := hide B2
  have HKP2 := hide kp2
  have hg2 := V2.2.2.2.1
  clear V2 kF2 B2 kp2 kr2 HA HB HG HD cp cq cr c1 f1 HF BX1 KB1 OWN1 KF1 HCL
  have OWN2 := hide hg2
  clear hg2
  go_wp2
  refine wp_region_held_drew (S := SC B p r W.heap.size d (.slice (some ⟨g, 0, none⟩) m cap) to dt sy) (by kernel_rfl) ?_ (fun hHeld => ?_)
  · exact unhide HC _ (below_dr1 (Below.refl _ _))
  refine wpAnyH_take (i := 0) (v := .pointer (some ⟨B, 0, none⟩)) rfl (by kernel_rfl) (by kernel_rfl) (by kernel_rfl) (fun _ _ _ h => h) (Or.inl ⟨by rfl, fun wS hSw => ?_⟩) (by assumption) ?_
  · (try dsimp only [SA, SB, SC] at hSw); go_simp
  (try simp only [Act.put, List.setIfInBounds_toArray, List.set_cons_zero, List.set_cons_succ])
  refine wpAnyH_take (i := 1) (v := .pointer (some ⟨B, 0, none⟩)) rfl (by kernel_rfl) (by kernel_rfl) (by kernel_rfl) (fun _ _ _ h => h) (Or.inl ⟨by rfl, fun wS hSw => ?_⟩) (by assumption) ?_
  · (try dsimp only [SA, SB, SC] at hSw); go_simp
  (try simp only [Act.put, List.setIfInBounds_toArray, List.set_cons_zero, List.set_cons_succ])
  refine wpAnyH_take (i := 2) (v := .agg #[.int .i64 d.room, .slice (some ⟨g, 0, none⟩) m cap, .int .i64 d.fuse, .int .i64 d.fault, .bool d.down]) rfl (by kernel_rfl) (by kernel_rfl) (by kernel_rfl) (fun _ _ _ h => h) (Or.inl ⟨by rfl, fun wS hSw => ?_⟩) (by assumption) ?_
  · (try dsimp only [SA, SB, SC] at hSw); go_simp
  (try simp only [Act.put, List.setIfInBounds_toArray, List.set_cons_zero, List.set_cons_succ])
  refine wpAnyH_take (i := 3) (v := .string to) rfl (by kernel_rfl) (by kernel_rfl) (by kernel_rfl) (fun _ _ _ h => h) (Or.inl ⟨by rfl, fun wS hSw => ?_⟩) (by assumption) ?_
  · (try dsimp only [SA, SB, SC] at hSw); go_simp
  (try simp only [Act.put, List.setIfInBounds_toArray, List.set_cons_zero, List.set_cons_succ])
  refine wpAnyH_ready (rs := [4]) (by kernel_rfl) (by simp) ?_
  refine AllReadyH.cons rfl (fun K hK => ?_) AllReadyH.nil
  go_simp
  refine (unhide HFX _ (unhide HROW (below_dr1 (Below.refl _ _)))).mono ?_
  rintro e w4 ⟨rfl, b4⟩
  have bw4 : Below X2.heap.size X2 w4 := ⟨b4.os, b4.tape, b4.output, b4.size, b4.block⟩
  clear b4
  go_wp2_with fail
  refine hK.out _ _ ?_ (fun hHeld => ?_)
  · exact unhide HC _ bw4
  clear hK K
  (try simp only [Act.put, List.setIfInBounds_toArray, List.set_cons_zero, List.set_cons_succ])
  refine wpAnyH_take (i := 5) (v := .tuple #[.int .i64 (pl : Int), .bool false]) rfl (by kernel_rfl) (by kernel_rfl) (by kernel_rfl) (fun _ _ _ h => h) (Or.inl ⟨by rfl, fun wS hSw => ?_⟩) (by assumption) ?_
  · (try dsimp only [SA, SB, SC] at hSw); go_simp
  (try simp only [Act.put, List.setIfInBounds_toArray, List.set_cons_zero, List.set_cons_succ])
  refine wpAnyH_take (i := 6) (v := .int .i64 (pl : Int)) rfl (by kernel_rfl) (by kernel_rfl) (by kernel_rfl) (fun _ _ _ h => h) (Or.inl ⟨by rfl, fun wS hSw => ?_⟩) (by assumption) ?_
  · (try dsimp only [SA, SB, SC] at hSw); go_simp
  (try simp only [Act.put, List.setIfInBounds_toArray, List.set_cons_zero, List.set_cons_succ])
  refine wpAnyH_take (i := 7) (v := .bool false) rfl (by kernel_rfl) (by kernel_rfl) (by kernel_rfl) (fun _ _ _ h => h) (Or.inl ⟨by rfl, fun wS hSw => ?_⟩) (by assumption) ?_
  · (try dsimp only [SA, SB, SC] at hSw); go_simp
  (try simp only [Act.put, List.setIfInBounds_toArray, List.set_cons_zero, List.set_cons_succ])
  refine wpAnyH_take (i := 8) (v := .int .i64 (pl : Int)) rfl (by kernel_rfl) (by kernel_rfl) (by kernel_rfl) (fun _ _ _ h => h) (Or.inl ⟨by rfl, fun wS hSw => ?_⟩) (by assumption) ?_
  · (try dsimp only [SA, SB, SC] at hSw); go_simp
  (try simp only [Act.put, List.setIfInBounds_toArray, List.set_cons_zero, List.set_cons_succ])
  refine wpAnyH_take (i := 9) (v := .bool false) rfl (by kernel_rfl) (by kernel_rfl) (by kernel_rfl) (fun _ _ _ h => h) (Or.inl ⟨by rfl, fun wS hSw => ?_⟩) (by assumption) ?_
  · (try dsimp only [SA, SB, SC] at hSw); go_simp
  (try simp only [Act.put, List.setIfInBounds_toArray, List.set_cons_zero, List.set_cons_succ])
  refine wpAnyH_done (by kernel_rfl) ?_ _
  have hs4 := bw4.size
  have V4 := (unhide HV2).below bw4
  have BW4 := hide ((unhide HB2).trans (bw4.mono (by omega)))
  have HC4 : Hid (∀ X, Below w4.heap.size w4 X → SC B p r W.heap.size d (.slice (some ⟨g, 0, none⟩) m cap) to dt sy X) := hide (fun X hX => unhide HC X (belows bw4 hX))
  have hCw4 : C ≤ w4.heap.size := by omega
  clear hHeld HC HFX HROW HKF2 HB2
  have hm3 : m < 1025 := by have := unhide HM; have := unhide HEL; have := unhide HL; omega
  have own4 := V4.2.2.2.1
  have nfB : W.heap.size ≠ B := by omega
  have nfg : W.heap.size ≠ g := by omega
  have HE : Hid (∀ X, Below w4.heap.size w4 X → X.cell? ⟨p, 0, none⟩ = some (.pointer (some ⟨B, 0, none⟩)) ∧ X.cell? ⟨W.heap.size, 0, none⟩ = some (.string to) ∧ X.cell? ⟨W.heap.size, 1, none⟩ = some (.string dt) ∧ X.cell? ⟨W.heap.size, 2, none⟩ = some (.int .i64 sy)) := hide (fun X hX => by
    obtain ⟨a1, _, _, _, _, _, _, d0, d1, d2⟩ := unhide HC4 X hX
    exact ⟨a1, d0, d1, d2⟩)
  have hgm : w4.ownsRow C 56 3 (.slice (some ⟨g, 0, none⟩) m cap) (d.files.eraseIdx i).length (flatF (d.files.eraseIdx i)) := own4
  have hgw4 : g < w4.heap.size := (own_lt own4 g rfl).2
  have HIN := hide (fun (X : World) (vb : Nat) (hX : Below w4.heap.size w4 X) (hvb : w4.heap.size ≤ vb) (hv : Blk X vb 56 (cellsF ⟨to, dt, sy⟩).toArray) => insertF_own C (.slice (some ⟨g, 0, none⟩) m cap) (d.files.eraseIdx i) pl ⟨to, dt, sy⟩ vb X (own_below hgm hX) (unhide HPL) (by have := unhide HM; omega) hv (fun e => by rw [ob_some] at e; injection e with e; omega) (by have := hX.size; omega))
  obtain ⟨m5, hm5⟩ : ∃ m5, ((d.files.eraseIdx i).insertIdx pl ⟨to, dt, sy⟩).length = m5 := ⟨_, rfl⟩
  rw [hm5] at HIN
  have HM5 := hide hm5
  clear hm5
  have HGE : Hid (∀ X w5, Below w4.heap.size w4 X → X.grownBy w5 (Value.slice (some ⟨g, 0, none⟩) m cap).ownBlock → w5.cell? ⟨p, 0, none⟩ = some (.pointer (some ⟨B, 0, none⟩)) ∧ w5.cell? ⟨W.heap.size, 0, none⟩ = some (.string to) ∧ w5.cell? ⟨W.heap.size, 1, none⟩ = some (.string dt) ∧ w5.cell? ⟨W.heap.size, 2, none⟩ = some (.int .i64 sy) ∧ Blk w5 B 52 (sysCells { d with files := d.files.eraseIdx i } (.slice (some ⟨g, 0, none⟩) m cap)) ∧ w5.frozen? ⟨B, 1, none⟩ = false) := hide (fun X w5 hX hg5 => by
    rw [ob_some] at hg5
    obtain ⟨a1, d0, d1, d2⟩ := unhide HE X hX
    have kb := blk_grown (V4.below hX).2.2.1 hg5 nBg
    exact ⟨hg5.cell (a := ⟨p, 0, none⟩) a1 (fun e => npg (by simpa using e)), hg5.cell (a := ⟨W.heap.size, 0, none⟩) d0 (fun e => nfg (by simpa using e)), hg5.cell (a := ⟨W.heap.size, 1, none⟩) d1 (fun e => nfg (by simpa using e)), hg5.cell (a := ⟨W.heap.size, 2, none⟩) d2 (fun e => nfg (by simpa using e)), kb, kb.frozen 1⟩)
  have bA : Below w4.heap.size w4 (w4.alloc (Obj.cells #[.string to, .string dt, .int .i64 sy] 56)) := (Below.refl _ _).alloc (Nat.le_refl _) _
  have kA := Blk.new w4 56 #[.string to, .string dt, .int .i64 sy]
  obtain ⟨cp, _, _, c1, _, _, _, d0, d1, d2⟩ := unhide HC4 w4 (Below.refl _ _)
  have cA := (unhide HC4 _ bA).2.2.2.1
  have hpi : (pl : Int) ≤ (m : Int) := by have := unhide HPL; have := unhide HM; omega
  clear V4 own4 hgm
  go_wp2
  refine wp_region_held_drew (S := fun w' => w'.cell? ⟨p, 0, none⟩ = some (.pointer (some ⟨B, 0, none⟩)) ∧ w'.cell? ⟨W.heap.size, 0, none⟩ = some (.string to) ∧ w'.cell? ⟨W.heap.size, 1, none⟩ = some (.string dt) ∧ w'.cell? ⟨W.heap.size, 2, none⟩ = some (.int .i64 sy)) (by kernel_rfl) ?_ (fun hHeld => ?_)
  · exact ⟨cp, d0, d1, d2⟩
  refine wpAnyH_take (i := 0) (v := .pointer (some ⟨B, 0, none⟩)) rfl (by kernel_rfl) (by kernel_rfl) (by kernel_rfl) (fun _ _ _ h => h) (Or.inl ⟨by rfl, fun wS hSw => ?_⟩) (by assumption) ?_
  · (try dsimp only [SA, SB, SC] at hSw); go_simp
  (try simp only [Act.put, List.setIfInBounds_toArray, List.set_cons_zero, List.set_cons_succ])
  refine wpAnyH_take (i := 1) (v := .pointer (some ⟨B, 0, none⟩)) rfl (by kernel_rfl) (by kernel_rfl) (by kernel_rfl) (fun _ _ _ h => h) (Or.inl ⟨by rfl, fun wS hSw => ?_⟩) (by assumption) ?_
  · (try dsimp only [SA, SB, SC] at hSw); go_simp
  (try simp only [Act.put, List.setIfInBounds_toArray, List.set_cons_zero, List.set_cons_succ])
  refine wpAnyH_take (i := 2) (v := .pointer (some ⟨B, 0, none⟩)) rfl (by kernel_rfl) (by kernel_rfl) (by kernel_rfl) (fun _ _ _ h => h) (Or.inl ⟨by rfl, fun wS hSw => ?_⟩) (by assumption) ?_
  · (try dsimp only [SA, SB, SC] at hSw); go_simp
  (try simp only [Act.put, List.setIfInBounds_toArray, List.set_cons_zero, List.set_cons_succ])
  refine wpAnyH_take (i := 3) (v := .pointer (some ⟨B, 0, none⟩)) rfl (by kernel_rfl) (by kernel_rfl) (by kernel_rfl) (fun _ _ _ h => h) (Or.inl ⟨by rfl, fun wS hSw => ?_⟩) (by assumption) ?_
  · (try dsimp only [SA, SB, SC] at hSw); go_simp
  (try simp only [Act.put, List.setIfInBounds_toArray, List.set_cons_zero, List.set_cons_succ])
  refine wpAnyH_take (i := 4) (v := .pointer (some ⟨B, 1, none⟩)) rfl (by kernel_rfl) (by kernel_rfl) (by kernel_rfl) (fun _ _ _ h => h) (Or.inl ⟨by rfl, fun wS hSw => ?_⟩) (by assumption) ?_
  · (try dsimp only [SA, SB, SC] at hSw); go_simp
  (try simp only [Act.put, List.setIfInBounds_toArray, List.set_cons_zero, List.set_cons_succ])
  refine wpAnyH_take (i := 6) (v := .int .i64 (pl : Int)) rfl (by kernel_rfl) (by kernel_rfl) (by kernel_rfl) (fun _ _ _ h => h) (Or.inl ⟨by rfl, fun wS hSw => ?_⟩) (by assumption) ?_
  · (try dsimp only [SA, SB, SC] at hSw); go_simp
  (try simp only [Act.put, List.setIfInBounds_toArray, List.set_cons_zero, List.set_cons_succ])
  refine wpAnyH_take (i := 7) (v := .agg #[.string to, .string dt, .int .i64 sy]) rfl (by kernel_rfl) (by kernel_rfl) (by kernel_rfl) (fun _ _ _ h => h) (Or.inl ⟨by rfl, fun wS hSw => ?_⟩) (by assumption) ?_
  · (try dsimp only [SA, SB, SC] at hSw); go_simp
  (try simp only [Act.put, List.setIfInBounds_toArray, List.set_cons_zero, List.set_cons_succ])
  refine wpAnyH_ready (rs := [5, 8]) (by kernel_rfl) (by simp) ?_
  refine (AllReadyH.cons rfl (fun K hK => ?_) (AllReadyH.cons rfl (fun K hK => ?_) AllReadyH.nil))
  · go_simp
    refine hK.out _ _ ?_ (fun hHeld => ?_)
    · exact hHeld
    clear hK K
    (try simp only [Act.put, List.setIfInBounds_toArray, List.set_cons_zero, List.set_cons_succ])
    refine wpAnyH_ready (rs := [8]) (by kernel_rfl) (by simp) ?_
    refine AllReadyH.cons rfl (fun K hK => ?_) AllReadyH.nil
    go_simp
    refine hK.out _ _ ?_ (fun hHeld => ?_)
    · exact unhide HE _ (below_dr1 bA)
    clear hK K
    (try simp only [Act.put, List.setIfInBounds_toArray, List.set_cons_zero, List.set_cons_succ])
    refine wpAnyH_ready (rs := [9]) (by kernel_rfl) (by simp) ?_
    refine AllReadyH.cons rfl (fun K hK => ?_) AllReadyH.nil
    go_simp
    refine (unhide HIN _ w4.heap.size (below_dr1 bA) (Nat.le_refl _) kA).mono ?_
    rintro e w5 ⟨v5, rfl, own5, gr5⟩
    have KE5 := hide (unhide HGE _ _ (below_dr1 bA) gr5)
    obtain ⟨a5, cap5, rfl⟩ := own_form own5
    have OWN5 := hide own5
    have GR5 := hide gr5
    clear own5 gr5
    go_wp2_with fail
    refine hK.out _ _ ?_ (fun hHeld => ?_)
    · exact ⟨(unhide KE5).1, (unhide KE5).2.1, (unhide KE5).2.2.1, (unhide KE5).2.2.2.1⟩
    clear hK K
    (try simp only [Act.put, List.setIfInBounds_toArray, List.set_cons_zero, List.set_cons_succ])
    obtain ⟨z1, z2, z3, z4, z5, z6⟩ := unhide KE5
    refine wpAnyH_take (i := 10) (v := .pointer (some ⟨B, 0, none⟩)) rfl (by kernel_rfl) (by kernel_rfl) (by kernel_rfl) (fun _ _ _ h => h) (Or.inl ⟨by rfl, fun wS hSw => ?_⟩) (by assumption) ?_
    · (try dsimp only [SA, SB, SC] at hSw); go_simp
    (try simp only [Act.put, List.setIfInBounds_toArray, List.set_cons_zero, List.set_cons_succ])
    refine wpAnyH_take (i := 11) (v := .pointer (some ⟨B, 0, none⟩)) rfl (by kernel_rfl) (by kernel_rfl) (by kernel_rfl) (fun _ _ _ h => h) (Or.inl ⟨by rfl, fun wS hSw => ?_⟩) (by assumption) ?_
    · (try dsimp only [SA, SB, SC] at hSw); go_simp
    (try simp only [Act.put, List.setIfInBounds_toArray, List.set_cons_zero, List.set_cons_succ])
    refine wpAnyH_take (i := 12) (v := .pointer (some ⟨B, 1, none⟩)) rfl (by kernel_rfl) (by kernel_rfl) (by kernel_rfl) (fun _ _ _ h => h) (Or.inl ⟨by rfl, fun wS hSw => ?_⟩) (by assumption) ?_
    · (try dsimp only [SA, SB, SC] at hSw); go_simp
    (try simp only [Act.put, List.setIfInBounds_toArray, List.set_cons_zero, List.set_cons_succ])
    refine wpAnyH_ready (rs := [13]) (by kernel_rfl) (by simp) ?_
    refine AllReadyH.cons rfl (fun K hK => ?_) AllReadyH.nil
    have c13 := z5.cell 1
    simp only [sysCells, List.getElem?_toArray, List.getElem?_cons_succ, List.getElem?_cons_zero] at c13
    go_simp
    clear c13
    refine hK.out _ _ ?_ (fun hHeld => ?_)
    · exact ⟨(World.cell?_setCell_far _ _ _ _ (fun e => npB e.symm)).trans z1, (World.cell?_setCell_far _ _ _ _ (fun e => nfB e.symm)).trans z2, (World.cell?_setCell_far _ _ _ _ (fun e => nfB e.symm)).trans z3, (World.cell?_setCell_far _ _ _ _ (fun e => nfB e.symm)).trans z4⟩
    clear hK K
    (try simp only [Act.put, List.setIfInBounds_toArray, List.set_cons_zero, List.set_cons_succ])
    refine wpAnyH_done (by kernel_rfl) ?_ _
    clear hHeld
    have S5 : Hid (Sys (w5.setCell ⟨B, 1, none⟩ (.slice a5 m5 cap5)) C B { d with files := (d.files.eraseIdx i).insertIdx pl ⟨to, dt, sy⟩ }) := by
      have own5 := unhide OWN5
      have hne5 := own_ne own5 z5 (by decide)
      rw [← unhide HM5] at own5 hne5 ⊢
      exact hide ⟨hCB, fit_ins (unhide HFIT1) (unhide HFI) (unhide HPL) (by have := unhide HM; have := unhide HEL; have := unhide HL; show (d.files.eraseIdx i).length ≤ 1024; omega), _, z5.set 1 _, own_set own5 hne5, hne5⟩
    have B5 : Hid (Below C W (w5.setCell ⟨B, 1, none⟩ (.slice a5 m5 cap5))) := hide ((((unhide BW4).trans ((below_dr1 bA).mono hCw4)).grown (unhide GR5) (by have := bA.size; exact Nat.le_trans hCw4 this) (fun k hk => by rw [ob_some] at hk; injection hk with hk; omega)).setCell (p := ⟨B, 1, none⟩) hCB _)
    clear z1 z2 z3 z4 z5 z6
    go_wp2
    go_end0
    exact ⟨rfl, by rw [hpl]; exact unhide S5, unhide B5⟩
  · go_simp
    refine hK.out _ _ ?_ (fun hHeld => ?_)
    · exact unhide HE _ (below_dr1 bA)
    clear hK K
    (try simp only [Act.put, List.setIfInBounds_toArray, List.set_cons_zero, List.set_cons_succ])
    refine wpAnyH_ready (rs := [5]) (by kernel_rfl) (by simp) ?_
    refine AllReadyH.cons rfl (fun K hK => ?_) AllReadyH.nil
    go_simp
    refine hK.out _ _ ?_ (fun hHeld => ?_)
    · exact hHeld
    clear hK K
    (try simp only [Act.put, List.setIfInBounds_toArray, List.set_cons_zero, List.set_cons_succ])
    refine wpAnyH_ready (rs := [9]) (by kernel_rfl) (by simp) ?_
    refine AllReadyH.cons rfl (fun K hK => ?_) AllReadyH.nil
    go_simp
    refine (unhide HIN _ w4.heap.size (below_dr1 bA) (Nat.le_refl _) kA).mono ?_
    rintro e w5 ⟨v5, rfl, own5, gr5⟩
    have KE5 := hide (unhide HGE _ _ (below_dr1 bA) gr5)
    obtain ⟨a5, cap5, rfl⟩ := own_form own5
    have OWN5 := hide own5
    have GR5 := hide gr5
    clear own5 gr5
    go_wp2_with fail
    refine hK.out _ _ ?_ (fun hHeld => ?_)
    · exact ⟨(unhide KE5).1, (unhide KE5).2.1, (unhide KE5).2.2.1, (unhide KE5).2.2.2.1⟩
    clear hK K
    (try simp only [Act.put, List.setIfInBounds_toArray, List.set_cons_zero, List.set_cons_succ])
    obtain ⟨z1, z2, z3, z4, z5, z6⟩ := unhide KE5
    refine wpAnyH_take (i := 10) (v := .pointer (some ⟨B, 0, none⟩)) rfl (by kernel_rfl) (by kernel_rfl) (by kernel_rfl) (fun _ _ _ h => h) (Or.inl ⟨by rfl, fun wS hSw => ?_⟩) (by assumption) ?_
    · (try dsimp only [SA, SB, SC] at hSw); go_simp
    (try simp only [Act.put, List.setIfInBounds_toArray, List.set_cons_zero, List.set_cons_succ])
    refine wpAnyH_take (i := 11) (v := .pointer (some ⟨B, 0, none⟩)) rfl (by kernel_rfl) (by kernel_rfl) (by kernel_rfl) (fun _ _ _ h => h) (Or.inl ⟨by rfl, fun wS hSw => ?_⟩) (by assumption) ?_
    · (try dsimp only [SA, SB, SC] at hSw); go_simp
    (try simp only [Act.put, List.setIfInBounds_toArray, List.set_cons_zero, List.set_cons_succ])
    refine wpAnyH_take (i := 12) (v := .pointer (some ⟨B, 1, none⟩)) rfl (by kernel_rfl) (by kernel_rfl) (by kernel_rfl) (fun _ _ _ h => h) (Or.inl ⟨by rfl, fun wS hSw => ?_⟩) (by assumption) ?_
    · (try dsimp only [SA, SB, SC] at hSw); go_simp
    (try simp only [Act.put, List.setIfInBounds_toArray, List.set_cons_zero, List.set_cons_succ])
    refine wpAnyH_ready (rs := [13]) (by kernel_rfl) (by simp) ?_
    refine AllReadyH.cons rfl (fun K hK => ?_) AllReadyH.nil
    have c13 := z5.cell 1
    simp only [sysCells, List.getElem?_toArray, List.getElem?_cons_succ, List.getElem?_cons_zero] at c13
    go_simp
    clear c13
    refine hK.out _ _ ?_ (fun hHeld => ?_)
    · exact ⟨(World.cell?_setCell_far _ _ _ _ (fun e => npB e.symm)).trans z1, (World.cell?_setCell_far _ _ _ _ (fun e => nfB e.symm)).trans z2, (World.cell?_setCell_far _ _ _ _ (fun e => nfB e.symm)).trans z3, (World.cell?_setCell_far _ _ _ _ (fun e => nfB e.symm)).trans z4⟩
    clear hK K
    (try simp only [Act.put, List.setIfInBounds_toArray, List.set_cons_zero, List.set_cons_succ])
    refine wpAnyH_done (by kernel_rfl) ?_ _
    clear hHeld
    have S5 : Hid (Sys (w5.setCell ⟨B, 1, none⟩ (.slice a5 m5 cap5)) C B { d with files := (d.files.eraseIdx i).insertIdx pl ⟨to, dt, sy⟩ }) := by
      have own5 := unhide OWN5
      have hne5 := own_ne own5 z5 (by decide)
      rw [← unhide HM5] at own5 hne5 ⊢
      exact hide ⟨hCB, fit_ins (unhide HFIT1) (unhide HFI) (unhide HPL) (by have := unhide HM; have := unhide HEL; have := unhide HL; show (d.files.eraseIdx i).length ≤ 1024; omega), _, z5.set 1 _, own_set own5 hne5, hne5⟩
    have B5 : Hid (Below C W (w5.setCell ⟨B, 1, none⟩ (.slice a5 m5 cap5))) := hide ((((unhide BW4).trans ((below_dr1 bA).mono hCw4)).grown (unhide GR5) (by have := bA.size; exact Nat.le_trans hCw4 this) (fun k hk => by rw [ob_some] at hk; injection hk with hk; omega)).setCell (p := ⟨B, 1, none⟩) hCB _)
    clear z1 z2 z3 z4 z5 z6
    go_wp2
    go_end0
    exact ⟨rfl, by rw [hpl]; exact unhide S5, unhide B5⟩
end Go.Proofs.Ytmfkhbofmaonkaa
