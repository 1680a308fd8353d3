/-
  What disk.Create does, over this seat's program.
-/
import Derived.Test.YtmfkhbofmaonkaaInc
import Derived.Deep.RegionHeld3
set_option linter.unusedVariables false
set_option linter.unusedSimpArgs false
namespace Go.Proofs.Ytmfkhbofmaonkaa
open Go.RowKit Go.Proofs.Dsk Go.Lib

theorem own_ne {w : World} {C p n : Nat} {t : TypeId} {v : Value} {xs : List Value} {cs : Array Value} (h : w.ownsRow C 56 3 v n xs) (hp : Blk w p t cs) (ht : t ≠ 56) : v.ownBlock ≠ some p := by
  rcases h.2 with ⟨h0, _⟩ | ⟨g, cap, cur, hv, hb, hg, _⟩
  · rw [h0]; simp [Value.ownBlock]
  · rw [hv]
    intro e
    simp only [Value.ownBlock, Option.some.injEq] at e
    exact blk_ne hp hg ht e.symm
theorem own_lt {w : World} {C n : Nat} {v : Value} {xs : List Value} (h : w.ownsRow C 56 3 v n xs) : ∀ k, v.ownBlock = some k → C ≤ k ∧ k < w.heap.size := fun k hk => ⟨(h.lt k hk).1, (h.lt k hk).2⟩
theorem blk_grownO {w W : World} {p : Nat} {o : Option Nat} {t : TypeId} {cs : Array Value} (h : Blk w p t cs) (hg : w.grownBy W o) (hne : o ≠ some p) : Blk W p t cs := by
  unfold Blk at *
  rw [hg.block p (Array.getElem?_eq_some_iff.1 h).1 (fun e => hne e.symm)]; exact h
theorem below_from {w a b : World} {n : Nat} (h : Below w.heap.size w a) (k : Below a.heap.size (a.drewN n) b) : Below w.heap.size w b := belows h ⟨k.os, k.tape, k.output, k.size, k.block⟩
theorem below_fro {w b : World} {n : Nat} (k : Below (w.drewN n).heap.size (w.drewN n) b) : Below w.heap.size w b := ⟨k.os, k.tape, k.output, k.size, k.block⟩
theorem fits_new {n : ByteArray} (hn : n.size ≤ 281474976710656) : Fits ⟨n, ByteArray.empty, 0⟩ := ⟨Nat.le_trans hn (by decide), Nat.zero_le _, by show (-9223372036854775808 : Int) ≤ 0; decide, by show (0 : Int) ≤ 9223372036854775807; decide⟩
theorem fit_ins {d : Fs} {i : Nat} {f : File} (h : FitAll d) (hf : Fits f) (hi : i ≤ d.files.length) (hl : d.files.length ≤ 1024) : FitAll { d with files := d.files.insertIdx i f } :=
  ⟨h.1, fun x hx => by
    rcases (List.mem_insertIdx hi).1 hx with h1 | h1
    · rw [h1]; exact hf
    · exact h.2.1 x h1, by show (d.files.insertIdx i f).length ≤ _; rw [insert_len _ _ _ hi]; omega⟩

set_option maxHeartbeats 4000000 in
set_option maxRecDepth 100000 in
theorem create11_any (d : Fs) (C B p q r i : Nat) (n : ByteArray) (v : Value) (W : World) (hS : SysV W C B v d) (hi : i ≤ d.files.length) (hl : d.files.length ≤ 1024) (hn : n.size ≤ 281474976710656) (hp : Blk W p 47 #[.pointer (some ⟨B, 0, none⟩)]) (hq : Blk W q 3 #[.int .i64 i]) (hr : Blk W r 9 #[.string n]) :
    Calls Try.prog 36 #[.pointer (some ⟨p, 0, none⟩), .pointer (some ⟨q, 0, none⟩), .pointer (some ⟨r, 0, none⟩)] W fun e W' => e = .returned (.tuple #[]) ∧ Sys W' C B { d with files := d.files.insertIdx i ⟨n, ByteArray.empty, 0⟩ } ∧ Below C W W' := by
  obtain ⟨hCB, hfit, k0, hown, hne⟩ := hS
  have npB := pt_ne hp k0
  have nqB := it_ne hq k0
  have nrB := st_ne hr k0
  have hlt := k0.lt
  have HCL := hide (fun X => clone_any n X hn)
  have HOL := hide (own_lt hown)
  have onp := own_ne hown hp (by decide)
  have onq := own_ne hown hq (by decide)
  have onr := own_ne hown hr (by decide)
  have HIN := hide (fun (X : World) (vb : Nat) (hX : Below W.heap.size W X) (hvb : W.heap.size ≤ vb) (hv : Blk X vb 56 (cellsF ⟨n, ByteArray.empty, 0⟩).toArray) => insertF_own C v d.files i ⟨n, ByteArray.empty, 0⟩ vb X (own_below hown hX) hi hl hv (fun e => by have := (own_lt hown _ e).2; omega) (by have := hX.size; omega))
  have HG : Hid (∀ X w3, Below W.heap.size W X → X.grownBy w3 v.ownBlock → w3.cell? ⟨p, 0, none⟩ = some (.pointer (some ⟨B, 0, none⟩)) ∧ w3.cell? ⟨q, 0, none⟩ = some (.int .i64 i) ∧ w3.cell? ⟨r, 0, none⟩ = some (.string n) ∧ Blk w3 B 52 (sysCells d v) ∧ w3.cell? ⟨B, 1, none⟩ = some v ∧ w3.frozen? ⟨B, 1, none⟩ = false) := hide (fun X w3 hX hg => by
    have a1 := (blk_grownO (hp.below hX) hg onp).cell 0
    have a2 := (blk_grownO (hq.below hX) hg onq).cell 0
    have a3 := (blk_grownO (hr.below hX) hg onr).cell 0
    have a4 := blk_grownO (k0.below hX) hg hne
    have a5 := a4.cell 1
    simp only [sysCells, List.getElem?_toArray, List.getElem?_cons_succ, List.getElem?_cons_zero] at a1 a2 a3 a5
    exact ⟨a1, a2, a3, a4, a5, a4.frozen 1⟩)
  have HX : Hid (∀ X, Below W.heap.size W X → X.cell? ⟨p, 0, none⟩ = some (.pointer (some ⟨B, 0, none⟩)) ∧ X.cell? ⟨q, 0, none⟩ = some (.int .i64 i) ∧ X.cell? ⟨r, 0, none⟩ = some (.string n) ∧ Blk X B 52 (sysCells d v) ∧ X.cell? ⟨B, 1, none⟩ = some v ∧ X.frozen? ⟨B, 1, none⟩ = false) := hide (fun X hX => unhide HG X X hX ⟨rfl, rfl, rfl, Nat.le_refl _, fun _ _ _ => rfl⟩)
  obtain ⟨m, hm⟩ : ∃ m, (d.files.insertIdx i ⟨n, ByteArray.empty, 0⟩).length = m := ⟨_, rfl⟩
  rw [hm] at HIN
  have HM := hide hm
  have HFIT := hide hfit
  obtain ⟨cp, cq, cr, _, c1, _⟩ := unhide HX W (Below.refl _ _)
  obtain ⟨a, cap, rfl⟩ := own_form hown
  clear hm hfit hp hq hr k0 hown hne onp onq onr
  go_enter Try.func36, Try.ntmps36
  go_wp2
  refine wp_region_held_drew (S := fun w' => w'.cell? ⟨p, 0, none⟩ = some (.pointer (some ⟨B, 0, none⟩)) ∧ w'.cell? ⟨q, 0, none⟩ = some (.int .i64 i) ∧ w'.cell? ⟨r, 0, none⟩ = some (.string n)) (by kernel_rfl) ?_ (fun hHeld => ?_)
  · exact ⟨cp, cq, cr⟩
  refine wpAnyH_take (i := 0) (v := .pointer (some ⟨B, 0, none⟩)) rfl (by kernel_rfl) (by kernel_rfl) (by kernel_rfl) (fun _ _ _ h => h) (Or.inl ⟨by rfl, fun wS hSw => ?_⟩) (by assumption) ?_
  · (try dsimp only at hSw); go_simp
  (try simp only [Act.put, List.setIfInBounds_toArray, List.set_cons_zero, List.set_cons_succ])
  refine wpAnyH_take (i := 1) (v := .pointer (some ⟨B, 0, none⟩)) rfl (by kernel_rfl) (by kernel_rfl) (by kernel_rfl) (fun _ _ _ h => h) (Or.inl ⟨by rfl, fun wS hSw => ?_⟩) (by assumption) ?_
  · (try dsimp only at hSw); go_simp
  (try simp only [Act.put, List.setIfInBounds_toArray, List.set_cons_zero, List.set_cons_succ])
  refine wpAnyH_take (i := 2) (v := .pointer (some ⟨B, 0, none⟩)) rfl (by kernel_rfl) (by kernel_rfl) (by kernel_rfl) (fun _ _ _ h => h) (Or.inl ⟨by rfl, fun wS hSw => ?_⟩) (by assumption) ?_
  · (try dsimp only at hSw); go_simp
  (try simp only [Act.put, List.setIfInBounds_toArray, List.set_cons_zero, List.set_cons_succ])
  refine wpAnyH_take (i := 3) (v := .pointer (some ⟨B, 0, none⟩)) rfl (by kernel_rfl) (by kernel_rfl) (by kernel_rfl) (fun _ _ _ h => h) (Or.inl ⟨by rfl, fun wS hSw => ?_⟩) (by assumption) ?_
  · (try dsimp only at hSw); go_simp
  (try simp only [Act.put, List.setIfInBounds_toArray, List.set_cons_zero, List.set_cons_succ])
  refine wpAnyH_take (i := 4) (v := .pointer (some ⟨B, 1, none⟩)) rfl (by kernel_rfl) (by kernel_rfl) (by kernel_rfl) (fun _ _ _ h => h) (Or.inl ⟨by rfl, fun wS hSw => ?_⟩) (by assumption) ?_
  · (try dsimp only at hSw); go_simp
  (try simp only [Act.put, List.setIfInBounds_toArray, List.set_cons_zero, List.set_cons_succ])
  refine wpAnyH_take (i := 6) (v := .int .i64 (i : Int)) rfl (by kernel_rfl) (by kernel_rfl) (by kernel_rfl) (fun _ _ _ h => h) (Or.inl ⟨by rfl, fun wS hSw => ?_⟩) (by assumption) ?_
  · (try dsimp only at hSw); go_simp
  (try simp only [Act.put, List.setIfInBounds_toArray, List.set_cons_zero, List.set_cons_succ])
  refine wpAnyH_take (i := 7) (v := .string n) rfl (by kernel_rfl) (by kernel_rfl) (by kernel_rfl) (fun _ _ _ h => h) (Or.inl ⟨by rfl, fun wS hSw => ?_⟩) (by assumption) ?_
  · (try dsimp only at hSw); go_simp
  (try simp only [Act.put, List.setIfInBounds_toArray, List.set_cons_zero, List.set_cons_succ])
  refine wpAnyH_ready (rs := [5, 8]) (by kernel_rfl) (by simp) ?_
  refine (AllReadyH.cons rfl (fun K hK => ?_) (AllReadyH.cons rfl (fun K hK => ?_) AllReadyH.nil))
  · go_simp
    refine hK.out _ _ ?_ (fun hHeld => ?_)
    · exact hHeld
    clear hK K
    (try simp only [Act.put, List.setIfInBounds_toArray, List.set_cons_zero, List.set_cons_succ])
    refine wpAnyH_ready (rs := [8]) (by kernel_rfl) (by simp) ?_
    refine AllReadyH.cons rfl (fun K hK => ?_) AllReadyH.nil
    go_simp
    refine (unhide HCL _).mono ?_
    rintro e w1 ⟨rfl, b1⟩
    have bw1 : Below W.heap.size W w1 := below_fro b1
    have bA : Below W.heap.size W (w1.alloc (Obj.cells #[.string n, .string { data := #[] }, .int .i64 0] 56)) := bw1.alloc bw1.size _
    have kA := Blk.new w1 56 #[.string n, .string { data := #[] }, .int .i64 0]
    have hsA := bw1.size
    have cw1 := (unhide HX _ bw1).2.2.2.2.1
    have cA := (unhide HX _ bA).2.2.2.2.1
    have BW1 := hide bw1
    have BA := hide bA
    have KA := hide kA
    clear b1 bw1 bA kA
    go_wp2_with fail
    refine hK.out _ _ ?_ (fun hHeld => ?_)
    · exact ⟨(unhide HX _ (unhide BW1)).1, (unhide HX _ (unhide BW1)).2.1, (unhide HX _ (unhide BW1)).2.2.1⟩
    clear hK K
    (try simp only [Act.put, List.setIfInBounds_toArray, List.set_cons_zero, List.set_cons_succ])
    refine wpAnyH_take (i := 9) (v := .agg #[.string n, .string { data := #[] }, .int .i64 0]) rfl (by kernel_rfl) (by kernel_rfl) (by kernel_rfl) (fun _ _ _ h => h) (Or.inl ⟨by rfl, fun wS hSw => ?_⟩) (by assumption) ?_
    · (try dsimp only at hSw); go_simp
    (try simp only [Act.put, List.setIfInBounds_toArray, List.set_cons_zero, List.set_cons_succ])
    refine wpAnyH_ready (rs := [10]) (by kernel_rfl) (by simp) ?_
    refine AllReadyH.cons rfl (fun K hK => ?_) AllReadyH.nil
    go_simp
    refine hK.out _ _ ?_ (fun hHeld => ?_)
    · exact ⟨(unhide HX _ (unhide BA)).1, (unhide HX _ (unhide BA)).2.1, (unhide HX _ (unhide BA)).2.2.1⟩
    clear hK K
    (try simp only [Act.put, List.setIfInBounds_toArray, List.set_cons_zero, List.set_cons_succ])
    refine wpAnyH_ready (rs := [11]) (by kernel_rfl) (by simp) ?_
    refine AllReadyH.cons rfl (fun K hK => ?_) AllReadyH.nil
    go_simp
    refine (unhide HIN _ w1.heap.size (unhide BA) hsA (unhide KA)).mono ?_
    rintro e w3 ⟨v3, rfl, own3, gr3⟩
    have KP3 := hide (unhide HG _ _ (unhide BA) gr3)
    obtain ⟨a3, cap3, rfl⟩ := own_form own3
    have OWN3 := hide own3
    have GR3 := hide gr3
    clear own3 gr3
    go_wp2_with fail
    refine hK.out _ _ ?_ (fun hHeld => ?_)
    · exact ⟨(unhide KP3).1, (unhide KP3).2.1, (unhide KP3).2.2.1⟩
    clear hK K
    (try simp only [Act.put, List.setIfInBounds_toArray, List.set_cons_zero, List.set_cons_succ])
    obtain ⟨x1, x2, x3, x4, x5, x6⟩ := unhide KP3
    refine wpAnyH_take (i := 12) (v := .pointer (some ⟨B, 0, none⟩)) rfl (by kernel_rfl) (by kernel_rfl) (by kernel_rfl) (fun _ _ _ h => h) (Or.inl ⟨by rfl, fun wS hSw => ?_⟩) (by assumption) ?_
    · (try dsimp only at hSw); go_simp
    (try simp only [Act.put, List.setIfInBounds_toArray, List.set_cons_zero, List.set_cons_succ])
    refine wpAnyH_take (i := 13) (v := .pointer (some ⟨B, 0, none⟩)) rfl (by kernel_rfl) (by kernel_rfl) (by kernel_rfl) (fun _ _ _ h => h) (Or.inl ⟨by rfl, fun wS hSw => ?_⟩) (by assumption) ?_
    · (try dsimp only at hSw); go_simp
    (try simp only [Act.put, List.setIfInBounds_toArray, List.set_cons_zero, List.set_cons_succ])
    refine wpAnyH_take (i := 14) (v := .pointer (some ⟨B, 1, none⟩)) rfl (by kernel_rfl) (by kernel_rfl) (by kernel_rfl) (fun _ _ _ h => h) (Or.inl ⟨by rfl, fun wS hSw => ?_⟩) (by assumption) ?_
    · (try dsimp only at hSw); go_simp
    (try simp only [Act.put, List.setIfInBounds_toArray, List.set_cons_zero, List.set_cons_succ])
    refine wpAnyH_ready (rs := [15]) (by kernel_rfl) (by simp) ?_
    refine AllReadyH.cons rfl (fun K hK => ?_) AllReadyH.nil
    go_simp
    refine hK.out _ _ ?_ (fun hHeld => ?_)
    · exact ⟨(World.cell?_setCell_far _ _ _ _ (fun e => npB e.symm)).trans x1, (World.cell?_setCell_far _ _ _ _ (fun e => nqB e.symm)).trans x2, (World.cell?_setCell_far _ _ _ _ (fun e => nrB e.symm)).trans x3⟩
    clear hK K
    (try simp only [Act.put, List.setIfInBounds_toArray, List.set_cons_zero, List.set_cons_succ])
    refine wpAnyH_done (by kernel_rfl) ?_ _
    have hk3 := (unhide KP3).2.2.2.1
    have S3 : Hid (Sys (w3.setCell ⟨B, 1, none⟩ (.slice a3 m cap3)) C B { d with files := d.files.insertIdx i ⟨n, ByteArray.empty, 0⟩ }) := by
      have k3 := hk3
      have own3 := unhide OWN3
      have hne3 := own_ne own3 k3 (by decide)
      rw [← unhide HM] at own3 hne3 ⊢
      exact hide ⟨hCB, fit_ins (unhide HFIT) (fits_new hn) hi hl, _, k3.set 1 _, own_set own3 hne3, hne3⟩
    have B3 : Hid (Below C W (w3.setCell ⟨B, 1, none⟩ (.slice a3 m cap3))) := hide ((((unhide BA).mono (show C ≤ W.heap.size by omega)).grown (unhide GR3) (by have := (unhide BA).size; show C ≤ (w1.alloc _).heap.size; omega) (fun k hk => (unhide HOL k hk).1)).setCell (p := ⟨B, 1, none⟩) hCB _)
    clear hk3 hHeld
    go_wp2
    go_end0
    exact ⟨rfl, unhide S3, unhide B3⟩
  · go_simp
    refine (unhide HCL _).mono ?_
    rintro e w1 ⟨rfl, b1⟩
    have bw1 : Below W.heap.size W w1 := below_fro b1
    have bA : Below W.heap.size W (w1.alloc (Obj.cells #[.string n, .string { data := #[] }, .int .i64 0] 56)) := bw1.alloc bw1.size _
    have kA := Blk.new w1 56 #[.string n, .string { data := #[] }, .int .i64 0]
    have hsA := bw1.size
    have cw1 := (unhide HX _ bw1).2.2.2.2.1
    have cA := (unhide HX _ bA).2.2.2.2.1
    have BW1 := hide bw1
    have BA := hide bA
    have KA := hide kA
    clear b1 bw1 bA kA
    go_wp2_with fail
    refine hK.out _ _ ?_ (fun hHeld => ?_)
    · exact ⟨(unhide HX _ (unhide BW1)).1, (unhide HX _ (unhide BW1)).2.1, (unhide HX _ (unhide BW1)).2.2.1⟩
    clear hK K
    (try simp only [Act.put, List.setIfInBounds_toArray, List.set_cons_zero, List.set_cons_succ])
    refine wpAnyH_take (i := 9) (v := .agg #[.string n, .string { data := #[] }, .int .i64 0]) rfl (by kernel_rfl) (by kernel_rfl) (by kernel_rfl) (fun _ _ _ h => h) (Or.inl ⟨by rfl, fun wS hSw => ?_⟩) (by assumption) ?_
    · (try dsimp only at hSw); go_simp
    (try simp only [Act.put, List.setIfInBounds_toArray, List.set_cons_zero, List.set_cons_succ])
    refine wpAnyH_ready (rs := [5, 10]) (by kernel_rfl) (by simp) ?_
    refine (AllReadyH.cons rfl (fun K hK => ?_) (AllReadyH.cons rfl (fun K hK => ?_) AllReadyH.nil))
    · go_simp
      refine hK.out _ _ ?_ (fun hHeld => ?_)
      · exact hHeld
      clear hK K
      (try simp only [Act.put, List.setIfInBounds_toArray, List.set_cons_zero, List.set_cons_succ])
      refine wpAnyH_ready (rs := [10]) (by kernel_rfl) (by simp) ?_
      refine AllReadyH.cons rfl (fun K hK => ?_) AllReadyH.nil
      go_simp
      refine hK.out _ _ ?_ (fun hHeld => ?_)
      · exact ⟨(unhide HX _ (unhide BA)).1, (unhide HX _ (unhide BA)).2.1, (unhide HX _ (unhide BA)).2.2.1⟩
      clear hK K
      (try simp only [Act.put, List.setIfInBounds_toArray, List.set_cons_zero, List.set_cons_succ])
      refine wpAnyH_ready (rs := [11]) (by kernel_rfl) (by simp) ?_
      refine AllReadyH.cons rfl (fun K hK => ?_) AllReadyH.nil
      go_simp
      refine (unhide HIN _ w1.heap.size (unhide BA) hsA (unhide KA)).mono ?_
      rintro e w3 ⟨v3, rfl, own3, gr3⟩
      have KP3 := hide (unhide HG _ _ (unhide BA) gr3)
      obtain ⟨a3, cap3, rfl⟩ := own_form own3
      have OWN3 := hide own3
      have GR3 := hide gr3
      clear own3 gr3
      go_wp2_with fail
      refine hK.out _ _ ?_ (fun hHeld => ?_)
      · exact ⟨(unhide KP3).1, (unhide KP3).2.1, (unhide KP3).2.2.1⟩
      clear hK K
      (try simp only [Act.put, List.setIfInBounds_toArray, List.set_cons_zero, List.set_cons_succ])
      obtain ⟨x1, x2, x3, x4, x5, x6⟩ := unhide KP3
      refine wpAnyH_take (i := 12) (v := .pointer (some ⟨B, 0, none⟩)) rfl (by kernel_rfl) (by kernel_rfl) (by kernel_rfl) (fun _ _ _ h => h) (Or.inl ⟨by rfl, fun wS hSw => ?_⟩) (by assumption) ?_
      · (try dsimp only at hSw); go_simp
      (try simp only [Act.put, List.setIfInBounds_toArray, List.set_cons_zero, List.set_cons_succ])
      refine wpAnyH_take (i := 13) (v := .pointer (some ⟨B, 0, none⟩)) rfl (by kernel_rfl) (by kernel_rfl) (by kernel_rfl) (fun _ _ _ h => h) (Or.inl ⟨by rfl, fun wS hSw => ?_⟩) (by assumption) ?_
      · (try dsimp only at hSw); go_simp
      (try simp only [Act.put, List.setIfInBounds_toArray, List.set_cons_zero, List.set_cons_succ])
      refine wpAnyH_take (i := 14) (v := .pointer (some ⟨B, 1, none⟩)) rfl (by kernel_rfl) (by kernel_rfl) (by kernel_rfl) (fun _ _ _ h => h) (Or.inl ⟨by rfl, fun wS hSw => ?_⟩) (by assumption) ?_
      · (try dsimp only at hSw); go_simp
      (try simp only [Act.put, List.setIfInBounds_toArray, List.set_cons_zero, List.set_cons_succ])
      refine wpAnyH_ready (rs := [15]) (by kernel_rfl) (by simp) ?_
      refine AllReadyH.cons rfl (fun K hK => ?_) AllReadyH.nil
      go_simp
      refine hK.out _ _ ?_ (fun hHeld => ?_)
      · exact ⟨(World.cell?_setCell_far _ _ _ _ (fun e => npB e.symm)).trans x1, (World.cell?_setCell_far _ _ _ _ (fun e => nqB e.symm)).trans x2, (World.cell?_setCell_far _ _ _ _ (fun e => nrB e.symm)).trans x3⟩
      clear hK K
      (try simp only [Act.put, List.setIfInBounds_toArray, List.set_cons_zero, List.set_cons_succ])
      refine wpAnyH_done (by kernel_rfl) ?_ _
      have hk3 := (unhide KP3).2.2.2.1
      have S3 : Hid (Sys (w3.setCell ⟨B, 1, none⟩ (.slice a3 m cap3)) C B { d with files := d.files.insertIdx i ⟨n, ByteArray.empty, 0⟩ }) := by
        have k3 := hk3
        have own3 := unhide OWN3
        have hne3 := own_ne own3 k3 (by decide)
        rw [← unhide HM] at own3 hne3 ⊢
        exact hide ⟨hCB, fit_ins (unhide HFIT) (fits_new hn) hi hl, _, k3.set 1 _, own_set own3 hne3, hne3⟩
      have B3 : Hid (Below C W (w3.setCell ⟨B, 1, none⟩ (.slice a3 m cap3))) := hide ((((unhide BA).mono (show C ≤ W.heap.size by omega)).grown (unhide GR3) (by have := (unhide BA).size; show C ≤ (w1.alloc _).heap.size; omega) (fun k hk => (unhide HOL k hk).1)).setCell (p := ⟨B, 1, none⟩) hCB _)
      clear hk3 hHeld
      go_wp2
      go_end0
      exact ⟨rfl, unhide S3, unhide B3⟩
    · go_simp
      refine hK.out _ _ ?_ (fun hHeld => ?_)
      · exact ⟨(unhide HX _ (unhide BA)).1, (unhide HX _ (unhide BA)).2.1, (unhide HX _ (unhide BA)).2.2.1⟩
      clear hK K
      (try simp only [Act.put, List.setIfInBounds_toArray, List.set_cons_zero, List.set_cons_succ])
      refine wpAnyH_ready (rs := [5]) (by kernel_rfl) (by simp) ?_
      refine AllReadyH.cons rfl (fun K hK => ?_) AllReadyH.nil
      go_simp
      refine hK.out _ _ ?_ (fun hHeld => ?_)
      · exact hHeld
      clear hK K
      (try simp only [Act.put, List.setIfInBounds_toArray, List.set_cons_zero, List.set_cons_succ])
      refine wpAnyH_ready (rs := [11]) (by kernel_rfl) (by simp) ?_
      refine AllReadyH.cons rfl (fun K hK => ?_) AllReadyH.nil
      go_simp
      refine (unhide HIN _ w1.heap.size (unhide BA) hsA (unhide KA)).mono ?_
      rintro e w3 ⟨v3, rfl, own3, gr3⟩
      have KP3 := hide (unhide HG _ _ (unhide BA) gr3)
      obtain ⟨a3, cap3, rfl⟩ := own_form own3
      have OWN3 := hide own3
      have GR3 := hide gr3
      clear own3 gr3
      go_wp2_with fail
      refine hK.out _ _ ?_ (fun hHeld => ?_)
      · exact ⟨(unhide KP3).1, (unhide KP3).2.1, (unhide KP3).2.2.1⟩
      clear hK K
      (try simp only [Act.put, List.setIfInBounds_toArray, List.set_cons_zero, List.set_cons_succ])
      obtain ⟨x1, x2, x3, x4, x5, x6⟩ := unhide KP3
      refine wpAnyH_take (i := 12) (v := .pointer (some ⟨B, 0, none⟩)) rfl (by kernel_rfl) (by kernel_rfl) (by kernel_rfl) (fun _ _ _ h => h) (Or.inl ⟨by rfl, fun wS hSw => ?_⟩) (by assumption) ?_
      · (try dsimp only at hSw); go_simp
      (try simp only [Act.put, List.setIfInBounds_toArray, List.set_cons_zero, List.set_cons_succ])
      refine wpAnyH_take (i := 13) (v := .pointer (some ⟨B, 0, none⟩)) rfl (by kernel_rfl) (by kernel_rfl) (by kernel_rfl) (fun _ _ _ h => h) (Or.inl ⟨by rfl, fun wS hSw => ?_⟩) (by assumption) ?_
      · (try dsimp only at hSw); go_simp
      (try simp only [Act.put, List.setIfInBounds_toArray, List.set_cons_zero, List.set_cons_succ])
      refine wpAnyH_take (i := 14) (v := .pointer (some ⟨B, 1, none⟩)) rfl (by kernel_rfl) (by kernel_rfl) (by kernel_rfl) (fun _ _ _ h => h) (Or.inl ⟨by rfl, fun wS hSw => ?_⟩) (by assumption) ?_
      · (try dsimp only at hSw); go_simp
      (try simp only [Act.put, List.setIfInBounds_toArray, List.set_cons_zero, List.set_cons_succ])
      refine wpAnyH_ready (rs := [15]) (by kernel_rfl) (by simp) ?_
      refine AllReadyH.cons rfl (fun K hK => ?_) AllReadyH.nil
      go_simp
      refine hK.out _ _ ?_ (fun hHeld => ?_)
      · exact ⟨(World.cell?_setCell_far _ _ _ _ (fun e => npB e.symm)).trans x1, (World.cell?_setCell_far _ _ _ _ (fun e => nqB e.symm)).trans x2, (World.cell?_setCell_far _ _ _ _ (fun e => nrB e.symm)).trans x3⟩
      clear hK K
      (try simp only [Act.put, List.setIfInBounds_toArray, List.set_cons_zero, List.set_cons_succ])
      refine wpAnyH_done (by kernel_rfl) ?_ _
      have hk3 := (unhide KP3).2.2.2.1
      have S3 : Hid (Sys (w3.setCell ⟨B, 1, none⟩ (.slice a3 m cap3)) C B { d with files := d.files.insertIdx i ⟨n, ByteArray.empty, 0⟩ }) := by
        have k3 := hk3
        have own3 := unhide OWN3
        have hne3 := own_ne own3 k3 (by decide)
        rw [← unhide HM] at own3 hne3 ⊢
        exact hide ⟨hCB, fit_ins (unhide HFIT) (fits_new hn) hi hl, _, k3.set 1 _, own_set own3 hne3, hne3⟩
      have B3 : Hid (Below C W (w3.setCell ⟨B, 1, none⟩ (.slice a3 m cap3))) := hide ((((unhide BA).mono (show C ≤ W.heap.size by omega)).grown (unhide GR3) (by have := (unhide BA).size; show C ≤ (w1.alloc _).heap.size; omega) (fun k hk => (unhide HOL k hk).1)).setCell (p := ⟨B, 1, none⟩) hCB _)
      clear hk3 hHeld
      go_wp2
      go_end0
      exact ⟨rfl, unhide S3, unhide B3⟩
end Go.Proofs.Ytmfkhbofmaonkaa
