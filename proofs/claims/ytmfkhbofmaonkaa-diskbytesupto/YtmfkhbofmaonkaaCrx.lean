/-
  What disk.Create does, whole, over this seat's program.
-/
import Derived.Test.YtmfkhbofmaonkaaCrt
import Derived.Deep.RegionHeld3
set_option linter.unusedVariables false
set_option linter.unusedSimpArgs false
namespace Go.Proofs.Ytmfkhbofmaonkaa
open Go.RowKit Go.Proofs.Dsk Go.Lib


/-- What Create does once it has a copy. -/
def createC (n : ByteArray) (d : Fs) : Fs × Nat :=
  if named n = false then (d, 1) else if has d.files n = true then (d, 4) else if d.files.length = 1024 then (d, 8)
  else changeR d fun d => { d with files := d.files.insertIdx (lb d.files n) ⟨n, ByteArray.empty, 0⟩ }

set_option maxHeartbeats 8000000 in
set_option maxRecDepth 100000 in
theorem create1_any (d : Fs) (n : ByteArray) (W : World) (C B r : Nat) (hgood : Good d) (hn : n.size ≤ 281474976710656) (hS : Sys W C B d) (hr : Blk W r 9 #[.string n]) :
    Calls Try.prog 32 (#[.pointer (some ⟨B, 0, none⟩)] ++ #[.pointer (some ⟨r, 0, none⟩)]) W fun e W' => e = .returned (.int .i64 (createC n d).2) ∧ Sys W' C B (createC n d).1 ∧ Below C W W' := by
  have hR := right_parts hgood.1
  obtain ⟨v, hV⟩ := hS.val
  have hlt := hS.lt
  have hCB := hS.1
  have HS0 := hide hS
  have hb0 : Below W.heap.size W (W.alloc (Obj.cells #[.pointer (some ⟨B, 0, none⟩)] 47)) := (Below.refl _ W).alloc (Nat.le_refl _) _
  have HB0 := hide hb0
  have kp := Blk.new W 47 #[.pointer (some ⟨B, 0, none⟩)]
  have hV1 := hV.below hb0
  have hr1 := hr.below hb0
  have HVX := hide (fun (X : World) (hX : Below (W.alloc (Obj.cells #[.pointer (some ⟨B, 0, none⟩)] 47)).heap.size (W.alloc (Obj.cells #[.pointer (some ⟨B, 0, none⟩)] 47)) X) => hV1.below hX)
  have HPX := hide (fun (X : World) (hX : Below (W.alloc (Obj.cells #[.pointer (some ⟨B, 0, none⟩)] 47)).heap.size (W.alloc (Obj.cells #[.pointer (some ⟨B, 0, none⟩)] 47)) X) => kp.below hX)
  have HRX := hide (fun (X : World) (hX : Below (W.alloc (Obj.cells #[.pointer (some ⟨B, 0, none⟩)] 47)).heap.size (W.alloc (Obj.cells #[.pointer (some ⟨B, 0, none⟩)] 47)) X) => hr1.below hX)
  have hrow : RowF (W.alloc (Obj.cells #[.pointer (some ⟨B, 0, none⟩)] 47)) v d.files := rowF_of_own hV1.2.2.2.1 hV.2.1.2.2 hV.2.1.2.1
  have HROW : Hid (∀ {X : World}, Below (W.alloc (Obj.cells #[.pointer (some ⟨B, 0, none⟩)] 47)).heap.size (W.alloc (Obj.cells #[.pointer (some ⟨B, 0, none⟩)] 47)) X → RowF X v d.files) := fun {X} hX => hrow.below hX
  have HF := hide (fun (X : World) (hX : RowF X v d.files) => find_any d v n X hR.2.2.2 hR.1.2.2.1 hX)
  have HNM := hide (fun (X : World) => isName_any n X (by omega))
  have h10 := hR.1.2.2.1
  obtain ⟨a, cap, rfl⟩ := own_form hV.2.2.2.1
  have HX : Hid (∀ X, Below (W.alloc (Obj.cells #[.pointer (some ⟨B, 0, none⟩)] 47)).heap.size (W.alloc (Obj.cells #[.pointer (some ⟨B, 0, none⟩)] 47)) X → (fun w' => w'.cell? ⟨W.heap.size, 0, none⟩ = some (.pointer (some ⟨B, 0, none⟩)) ∧ w'.cell? ⟨r, 0, none⟩ = some (.string n) ∧ w'.cell? ⟨B, 0, none⟩ = some (.int .i64 d.room) ∧ w'.cell? ⟨B, 1, none⟩ = some (.slice a d.files.length cap) ∧ w'.cell? ⟨B, 2, none⟩ = some (.int .i64 d.fuse) ∧ w'.cell? ⟨B, 3, none⟩ = some (.int .i64 d.fault) ∧ w'.cell? ⟨B, 4, none⟩ = some (.bool d.down)) X) := hide (fun X hX => by
    have h1 := unhide HVX X hX
    have c0 := h1.2.2.1.cell 0
    have c1 := h1.2.2.1.cell 1
    have c2 := h1.2.2.1.cell 2
    have c3 := h1.2.2.1.cell 3
    have c4 := h1.2.2.1.cell 4
    have cp := (unhide HPX X hX).cell 0
    have cr := (unhide HRX X hX).cell 0
    simp only [sysCells, List.getElem?_toArray, List.getElem?_cons_succ, List.getElem?_cons_zero] at c0 c1 c2 c3 c4 cp cr
    exact ⟨cp, cr, c0, c1, c2, c3, c4⟩)
  have HCH : Hid (∀ X q, Below (W.alloc (Obj.cells #[.pointer (some ⟨B, 0, none⟩)] 47)).heap.size (W.alloc (Obj.cells #[.pointer (some ⟨B, 0, none⟩)] 47)) X → Blk X q 3 #[.int .i64 (lb d.files n : Nat)] → q ≠ B → Calls Try.prog 35 #[.pointer (some ⟨B, 0, none⟩), .func (.func 36) #[] #[.pointer (some ⟨W.heap.size, 0, none⟩), .pointer (some ⟨q, 0, none⟩), .pointer (some ⟨r, 0, none⟩)]] X fun e w' => e = .returned (.int .i64 (changeR d (fun d : Fs => ({ d with files := d.files.insertIdx (lb d.files n) ⟨n, ByteArray.empty, 0⟩ } : Fs))).2) ∧ Sys w' C B (changeR d (fun d : Fs => ({ d with files := d.files.insertIdx (lb d.files n) ⟨n, ByteArray.empty, 0⟩ } : Fs))).1 ∧ Below C X w') := hide (fun X q hX hq hqB =>
    change_any d C B 36 _ (fun d : Fs => ({ d with files := d.files.insertIdx (lb d.files n) ⟨n, ByteArray.empty, 0⟩ } : Fs)) _ X (unhide HVX X hX) (enters_of Try.func36 (by kernel_rfl) rfl)
      (fun W' hg hS' => create11_any (spent d) C B _ q r (lb d.files n) n _ W' hS' (lb_le _ _) h10 hn (blk_grown (unhide HPX X hX) hg (by omega)) (blk_grown hq hg hqB) (blk_grown (unhide HRX X hX) hg (st_ne (unhide HRX X hX) (unhide HVX X hX).2.2.1))))
  clear hV hV1 hr1 kp hrow hR hgood hr hS hb0 HVX HPX HRX
  simp only [fsV] at HF
  generalize hat : lb d.files n = at_ at HF HCH
  obtain ⟨N, hN⟩ : ∃ N, N = d.files.length := ⟨_, rfl⟩
  rw [← hN] at HF HX h10 HROW
  clear hat
  by_cases hnm : named n = false
  · have hc : createC n d = (d, 1) := by unfold createC; rw [if_pos hnm]
    rw [hc]
    rw [hnm] at HNM
    generalize has d.files n = th at HF
    clear hc hnm hN HCH
    go_enter Try.func32, Try.ntmps32
    go_wp2
    refine wp_region_held_drew (S := fun w' => w'.cell? ⟨W.heap.size, 0, none⟩ = some (.pointer (some ⟨B, 0, none⟩)) ∧ w'.cell? ⟨r, 0, none⟩ = some (.string n) ∧ w'.cell? ⟨B, 0, none⟩ = some (.int .i64 d.room) ∧ w'.cell? ⟨B, 1, none⟩ = some (.slice a N cap) ∧ w'.cell? ⟨B, 2, none⟩ = some (.int .i64 d.fuse) ∧ w'.cell? ⟨B, 3, none⟩ = some (.int .i64 d.fault) ∧ w'.cell? ⟨B, 4, none⟩ = some (.bool d.down)) (by kernel_rfl) ?_ (fun hHeld => ?_)
    · exact unhide HX _ (below_dr1 (Below.refl _ _))
    refine wpAnyH_take (i := 0) (v := .pointer (some ⟨B, 0, none⟩)) rfl (by kernel_rfl) (by kernel_rfl) (by kernel_rfl) (fun _ _ _ h => h) (Or.inl ⟨by rfl, fun wS hSw => ?_⟩) (by assumption) ?_
    · (try dsimp only at hSw); go_simp
    (try simp only [Act.put, List.setIfInBounds_toArray, List.set_cons_zero, List.set_cons_succ])
    refine wpAnyH_take (i := 1) (v := .pointer (some ⟨B, 0, none⟩)) rfl (by kernel_rfl) (by kernel_rfl) (by kernel_rfl) (fun _ _ _ h => h) (Or.inl ⟨by rfl, fun wS hSw => ?_⟩) (by assumption) ?_
    · (try dsimp only at hSw); go_simp
    (try simp only [Act.put, List.setIfInBounds_toArray, List.set_cons_zero, List.set_cons_succ])
    refine wpAnyH_take (i := 2) (v := .agg #[.int .i64 d.room, .slice a N cap, .int .i64 d.fuse, .int .i64 d.fault, .bool d.down]) rfl (by kernel_rfl) (by kernel_rfl) (by kernel_rfl) (fun _ _ _ h => h) (Or.inl ⟨by rfl, fun wS hSw => ?_⟩) (by assumption) ?_
    · (try dsimp only at hSw); go_simp
    (try simp only [Act.put, List.setIfInBounds_toArray, List.set_cons_zero, List.set_cons_succ])
    refine wpAnyH_take (i := 3) (v := .string n) rfl (by kernel_rfl) (by kernel_rfl) (by kernel_rfl) (fun _ _ _ h => h) (Or.inl ⟨by rfl, fun wS hSw => ?_⟩) (by assumption) ?_
    · (try dsimp only at hSw); go_simp
    (try simp only [Act.put, List.setIfInBounds_toArray, List.set_cons_zero, List.set_cons_succ])
    refine wpAnyH_ready (rs := [4, 8]) (by kernel_rfl) (by simp) ?_
    refine (AllReadyH.cons rfl (fun K hK => ?_) (AllReadyH.cons rfl (fun K hK => ?_) AllReadyH.nil))
    · go_simp
      refine (unhide HF _ (unhide HROW (below_dr1 (Below.refl _ _)))).mono ?_
      rintro e w3 ⟨rfl, b3⟩
      have bw3 : Below (W.alloc (Obj.cells #[.pointer (some ⟨B, 0, none⟩)] 47)).heap.size (W.alloc (Obj.cells #[.pointer (some ⟨B, 0, none⟩)] 47)) w3 := ⟨b3.os, b3.tape, b3.output, b3.size, b3.block⟩
      clear b3
      go_wp2_with fail
      refine hK.out _ _ ?_ (fun hHeld => ?_)
      · exact unhide HX _ bw3
      clear hK K
      (try simp only [Act.put, List.setIfInBounds_toArray, List.set_cons_zero, List.set_cons_succ])
      refine wpAnyH_take (i := 5) (v := .tuple #[.int .i64 (at_ : Int), .bool th]) rfl (by kernel_rfl) (by kernel_rfl) (by kernel_rfl) (fun _ _ _ h => h) (Or.inl ⟨by rfl, fun wS hSw => ?_⟩) (by assumption) ?_
      · (try dsimp only at hSw); go_simp
      (try simp only [Act.put, List.setIfInBounds_toArray, List.set_cons_zero, List.set_cons_succ])
      refine wpAnyH_take (i := 6) (v := .int .i64 (at_ : Int)) rfl (by kernel_rfl) (by kernel_rfl) (by kernel_rfl) (fun _ _ _ h => h) (Or.inl ⟨by rfl, fun wS hSw => ?_⟩) (by assumption) ?_
      · (try dsimp only at hSw); go_simp
      (try simp only [Act.put, List.setIfInBounds_toArray, List.set_cons_zero, List.set_cons_succ])
      refine wpAnyH_take (i := 7) (v := .bool th) rfl (by kernel_rfl) (by kernel_rfl) (by kernel_rfl) (fun _ _ _ h => h) (Or.inl ⟨by rfl, fun wS hSw => ?_⟩) (by assumption) ?_
      · (try dsimp only at hSw); go_simp
      (try simp only [Act.put, List.setIfInBounds_toArray, List.set_cons_zero, List.set_cons_succ])
      refine wpAnyH_ready (rs := [8]) (by kernel_rfl) (by simp) ?_
      refine AllReadyH.cons rfl (fun K hK => ?_) AllReadyH.nil
      go_simp
      refine hK.out _ _ ?_ (fun hHeld => ?_)
      · exact unhide HX _ (bw3.alloc bw3.size _)
      clear hK K
      (try simp only [Act.put, List.setIfInBounds_toArray, List.set_cons_zero, List.set_cons_succ])
      refine wpAnyH_ready (rs := [9]) (by kernel_rfl) (by simp) ?_
      refine AllReadyH.cons rfl (fun K hK => ?_) AllReadyH.nil
      have h9 := (Blk.new w3 3 #[.int .i64 0]).cell 0
      simp only [List.getElem?_toArray, List.getElem?_cons_zero] at h9
      have h9f := (Blk.new w3 3 #[.int .i64 0]).frozen 0
      go_simp
      refine hK.out _ _ ?_ (fun hHeld => ?_)
      · exact unhide HX _ (bw3.alloc bw3.size _)
      clear hK K
      (try simp only [Act.put, List.setIfInBounds_toArray, List.set_cons_zero, List.set_cons_succ])
      refine wpAnyH_take (i := 10) (v := .bool th) rfl (by kernel_rfl) (by kernel_rfl) (by kernel_rfl) (fun _ _ _ h => h) (Or.inl ⟨by rfl, fun wS hSw => ?_⟩) (by assumption) ?_
      · (try dsimp only at hSw); go_simp
      (try simp only [Act.put, List.setIfInBounds_toArray, List.set_cons_zero, List.set_cons_succ])
      refine wpAnyH_done (by kernel_rfl) ?_ _
      have bX : Below (W.alloc (Obj.cells #[.pointer (some ⟨B, 0, none⟩)] 47)).heap.size (W.alloc (Obj.cells #[.pointer (some ⟨B, 0, none⟩)] 47)) (w3.alloc (Obj.cells #[.int .i64 (at_ : Int)] 3)) := bw3.alloc bw3.size _
      have kQ : Blk (w3.alloc (Obj.cells #[.int .i64 (at_ : Int)] 3)) (w3.heap.size) 3 #[.int .i64 (at_ : Int)] := Blk.new w3 3 #[.int .i64 (at_ : Int)]
      have nQ : B ≠ w3.heap.size := by have := bw3.size; simp at this; omega
      clear hHeld
      generalize (w3.alloc (Obj.cells #[.int .i64 (at_ : Int)] 3)) = X at bX kQ ⊢
      generalize w3.heap.size = q at kQ nQ ⊢
      have bX0 := hide (belows (unhide HB0) bX)
      obtain ⟨y1, y2, y3, y4, y5, y6, y7⟩ := unhide HX _ bX
      clear y3 y5 y6 y7
      go_wp2_with (go_at_call 34; refine (unhide HNM _).mono ?_; rintro e w4 ⟨rfl, h4⟩; subst h4)
      go_ret
      exact ⟨rfl, (unhide HS0).below (unhide bX0), (unhide bX0).mono (by omega)⟩
    · go_simp
      refine hK.out _ _ ?_ (fun hHeld => ?_)
      · exact unhide HX _ (below_dr1 ((Below.refl _ _).alloc (Nat.le_refl _) _))
      clear hK K
      (try simp only [Act.put, List.setIfInBounds_toArray, List.set_cons_zero, List.set_cons_succ])
      refine wpAnyH_ready (rs := [4]) (by kernel_rfl) (by simp) ?_
      refine AllReadyH.cons rfl (fun K hK => ?_) AllReadyH.nil
      go_simp
      refine (unhide HF _ (unhide HROW (below_dr1 ((Below.refl _ _).alloc (Nat.le_refl _) _)))).mono ?_
      rintro e w3 ⟨rfl, b3⟩
      have b4 : Below ((W.alloc (Obj.cells #[.pointer (some ⟨B, 0, none⟩)] 47)).alloc (Obj.cells #[.int .i64 0] 3)).heap.size ((W.alloc (Obj.cells #[.pointer (some ⟨B, 0, none⟩)] 47)).alloc (Obj.cells #[.int .i64 0] 3)) w3 := ⟨b3.os, b3.tape, b3.output, b3.size, b3.block⟩
      have bw3 : Below (W.alloc (Obj.cells #[.pointer (some ⟨B, 0, none⟩)] 47)).heap.size (W.alloc (Obj.cells #[.pointer (some ⟨B, 0, none⟩)] 47)) w3 := belows ((Below.refl _ _).alloc (Nat.le_refl _) _) b4
      have kq3 := (Blk.new (W.alloc (Obj.cells #[.pointer (some ⟨B, 0, none⟩)] 47)) 3 #[.int .i64 0]).below b4
      simp only [World.size_alloc] at kq3
      clear b3 b4
      go_wp2_with fail
      refine hK.out _ _ ?_ (fun hHeld => ?_)
      · exact unhide HX _ bw3
      clear hK K
      (try simp only [Act.put, List.setIfInBounds_toArray, List.set_cons_zero, List.set_cons_succ])
      refine wpAnyH_take (i := 5) (v := .tuple #[.int .i64 (at_ : Int), .bool th]) rfl (by kernel_rfl) (by kernel_rfl) (by kernel_rfl) (fun _ _ _ h => h) (Or.inl ⟨by rfl, fun wS hSw => ?_⟩) (by assumption) ?_
      · (try dsimp only at hSw); go_simp
      (try simp only [Act.put, List.setIfInBounds_toArray, List.set_cons_zero, List.set_cons_succ])
      refine wpAnyH_take (i := 6) (v := .int .i64 (at_ : Int)) rfl (by kernel_rfl) (by kernel_rfl) (by kernel_rfl) (fun _ _ _ h => h) (Or.inl ⟨by rfl, fun wS hSw => ?_⟩) (by assumption) ?_
      · (try dsimp only at hSw); go_simp
      (try simp only [Act.put, List.setIfInBounds_toArray, List.set_cons_zero, List.set_cons_succ])
      refine wpAnyH_take (i := 7) (v := .bool th) rfl (by kernel_rfl) (by kernel_rfl) (by kernel_rfl) (fun _ _ _ h => h) (Or.inl ⟨by rfl, fun wS hSw => ?_⟩) (by assumption) ?_
      · (try dsimp only at hSw); go_simp
      (try simp only [Act.put, List.setIfInBounds_toArray, List.set_cons_zero, List.set_cons_succ])
      refine wpAnyH_ready (rs := [9]) (by kernel_rfl) (by simp) ?_
      refine AllReadyH.cons rfl (fun K hK => ?_) AllReadyH.nil
      have h9 := kq3.cell 0
      simp only [List.getElem?_toArray, List.getElem?_cons_zero] at h9
      have h9f := kq3.frozen 0
      go_simp
      refine hK.out _ _ ?_ (fun hHeld => ?_)
      · exact unhide HX _ (bw3.setCell (p := ⟨W.heap.size + 1, 0, none⟩) (by simp) _)
      clear hK K
      (try simp only [Act.put, List.setIfInBounds_toArray, List.set_cons_zero, List.set_cons_succ])
      refine wpAnyH_take (i := 10) (v := .bool th) rfl (by kernel_rfl) (by kernel_rfl) (by kernel_rfl) (fun _ _ _ h => h) (Or.inl ⟨by rfl, fun wS hSw => ?_⟩) (by assumption) ?_
      · (try dsimp only at hSw); go_simp
      (try simp only [Act.put, List.setIfInBounds_toArray, List.set_cons_zero, List.set_cons_succ])
      refine wpAnyH_done (by kernel_rfl) ?_ _
      have bX : Below (W.alloc (Obj.cells #[.pointer (some ⟨B, 0, none⟩)] 47)).heap.size (W.alloc (Obj.cells #[.pointer (some ⟨B, 0, none⟩)] 47)) ((w3.setCell ⟨W.heap.size + 1, 0, none⟩ (.int .i64 (at_ : Int)))) := bw3.setCell (p := ⟨W.heap.size + 1, 0, none⟩) (by simp) _
      have kQ : Blk ((w3.setCell ⟨W.heap.size + 1, 0, none⟩ (.int .i64 (at_ : Int)))) (W.heap.size + 1) 3 #[.int .i64 (at_ : Int)] := kq3.set 0 _
      have nQ : B ≠ W.heap.size + 1 := by omega
      clear hHeld
      generalize ((w3.setCell ⟨W.heap.size + 1, 0, none⟩ (.int .i64 (at_ : Int)))) = X at bX kQ ⊢
      generalize W.heap.size + 1 = q at kQ nQ ⊢
      have bX0 := hide (belows (unhide HB0) bX)
      obtain ⟨y1, y2, y3, y4, y5, y6, y7⟩ := unhide HX _ bX
      clear y3 y5 y6 y7
      go_wp2_with (go_at_call 34; refine (unhide HNM _).mono ?_; rintro e w4 ⟨rfl, h4⟩; subst h4)
      go_ret
      exact ⟨rfl, (unhide HS0).below (unhide bX0), (unhide bX0).mono (by omega)⟩
  · have hnm' : named n = true := by simpa using hnm
    rw [hnm'] at HNM
    by_cases hh : has d.files n = true
    · have hc : createC n d = (d, 4) := by unfold createC; rw [if_neg hnm, if_pos hh]
      rw [hc]
      rw [hh] at HF
      clear hc hnm hnm' hN HCH hh
      go_enter Try.func32, Try.ntmps32
      go_wp2
      refine wp_region_held_drew (S := fun w' => w'.cell? ⟨W.heap.size, 0, none⟩ = some (.pointer (some ⟨B, 0, none⟩)) ∧ w'.cell? ⟨r, 0, none⟩ = some (.string n) ∧ w'.cell? ⟨B, 0, none⟩ = some (.int .i64 d.room) ∧ w'.cell? ⟨B, 1, none⟩ = some (.slice a N cap) ∧ w'.cell? ⟨B, 2, none⟩ = some (.int .i64 d.fuse) ∧ w'.cell? ⟨B, 3, none⟩ = some (.int .i64 d.fault) ∧ w'.cell? ⟨B, 4, none⟩ = some (.bool d.down)) (by kernel_rfl) ?_ (fun hHeld => ?_)
      · exact unhide HX _ (below_dr1 (Below.refl _ _))
      refine wpAnyH_take (i := 0) (v := .pointer (some ⟨B, 0, none⟩)) rfl (by kernel_rfl) (by kernel_rfl) (by kernel_rfl) (fun _ _ _ h => h) (Or.inl ⟨by rfl, fun wS hSw => ?_⟩) (by assumption) ?_
      · (try dsimp only at hSw); go_simp
      (try simp only [Act.put, List.setIfInBounds_toArray, List.set_cons_zero, List.set_cons_succ])
      refine wpAnyH_take (i := 1) (v := .pointer (some ⟨B, 0, none⟩)) rfl (by kernel_rfl) (by kernel_rfl) (by kernel_rfl) (fun _ _ _ h => h) (Or.inl ⟨by rfl, fun wS hSw => ?_⟩) (by assumption) ?_
      · (try dsimp only at hSw); go_simp
      (try simp only [Act.put, List.setIfInBounds_toArray, List.set_cons_zero, List.set_cons_succ])
      refine wpAnyH_take (i := 2) (v := .agg #[.int .i64 d.room, .slice a N cap, .int .i64 d.fuse, .int .i64 d.fault, .bool d.down]) rfl (by kernel_rfl) (by kernel_rfl) (by kernel_rfl) (fun _ _ _ h => h) (Or.inl ⟨by rfl, fun wS hSw => ?_⟩) (by assumption) ?_
      · (try dsimp only at hSw); go_simp
      (try simp only [Act.put, List.setIfInBounds_toArray, List.set_cons_zero, List.set_cons_succ])
      refine wpAnyH_take (i := 3) (v := .string n) rfl (by kernel_rfl) (by kernel_rfl) (by kernel_rfl) (fun _ _ _ h => h) (Or.inl ⟨by rfl, fun wS hSw => ?_⟩) (by assumption) ?_
      · (try dsimp only at hSw); go_simp
      (try simp only [Act.put, List.setIfInBounds_toArray, List.set_cons_zero, List.set_cons_succ])
      refine wpAnyH_ready (rs := [4, 8]) (by kernel_rfl) (by simp) ?_
      refine (AllReadyH.cons rfl (fun K hK => ?_) (AllReadyH.cons rfl (fun K hK => ?_) AllReadyH.nil))
      · go_simp
        refine (unhide HF _ (unhide HROW (below_dr1 (Below.refl _ _)))).mono ?_
        rintro e w3 ⟨rfl, b3⟩
        have bw3 : Below (W.alloc (Obj.cells #[.pointer (some ⟨B, 0, none⟩)] 47)).heap.size (W.alloc (Obj.cells #[.pointer (some ⟨B, 0, none⟩)] 47)) w3 := ⟨b3.os, b3.tape, b3.output, b3.size, b3.block⟩
        clear b3
        go_wp2_with fail
        refine hK.out _ _ ?_ (fun hHeld => ?_)
        · exact unhide HX _ bw3
        clear hK K
        (try simp only [Act.put, List.setIfInBounds_toArray, List.set_cons_zero, List.set_cons_succ])
        refine wpAnyH_take (i := 5) (v := .tuple #[.int .i64 (at_ : Int), .bool true]) rfl (by kernel_rfl) (by kernel_rfl) (by kernel_rfl) (fun _ _ _ h => h) (Or.inl ⟨by rfl, fun wS hSw => ?_⟩) (by assumption) ?_
        · (try dsimp only at hSw); go_simp
        (try simp only [Act.put, List.setIfInBounds_toArray, List.set_cons_zero, List.set_cons_succ])
        refine wpAnyH_take (i := 6) (v := .int .i64 (at_ : Int)) rfl (by kernel_rfl) (by kernel_rfl) (by kernel_rfl) (fun _ _ _ h => h) (Or.inl ⟨by rfl, fun wS hSw => ?_⟩) (by assumption) ?_
        · (try dsimp only at hSw); go_simp
        (try simp only [Act.put, List.setIfInBounds_toArray, List.set_cons_zero, List.set_cons_succ])
        refine wpAnyH_take (i := 7) (v := .bool true) rfl (by kernel_rfl) (by kernel_rfl) (by kernel_rfl) (fun _ _ _ h => h) (Or.inl ⟨by rfl, fun wS hSw => ?_⟩) (by assumption) ?_
        · (try dsimp only at hSw); go_simp
        (try simp only [Act.put, List.setIfInBounds_toArray, List.set_cons_zero, List.set_cons_succ])
        refine wpAnyH_ready (rs := [8]) (by kernel_rfl) (by simp) ?_
        refine AllReadyH.cons rfl (fun K hK => ?_) AllReadyH.nil
        go_simp
        refine hK.out _ _ ?_ (fun hHeld => ?_)
        · exact unhide HX _ (bw3.alloc bw3.size _)
        clear hK K
        (try simp only [Act.put, List.setIfInBounds_toArray, List.set_cons_zero, List.set_cons_succ])
        refine wpAnyH_ready (rs := [9]) (by kernel_rfl) (by simp) ?_
        refine AllReadyH.cons rfl (fun K hK => ?_) AllReadyH.nil
        have h9 := (Blk.new w3 3 #[.int .i64 0]).cell 0
        simp only [List.getElem?_toArray, List.getElem?_cons_zero] at h9
        have h9f := (Blk.new w3 3 #[.int .i64 0]).frozen 0
        go_simp
        refine hK.out _ _ ?_ (fun hHeld => ?_)
        · exact unhide HX _ (bw3.alloc bw3.size _)
        clear hK K
        (try simp only [Act.put, List.setIfInBounds_toArray, List.set_cons_zero, List.set_cons_succ])
        refine wpAnyH_take (i := 10) (v := .bool true) rfl (by kernel_rfl) (by kernel_rfl) (by kernel_rfl) (fun _ _ _ h => h) (Or.inl ⟨by rfl, fun wS hSw => ?_⟩) (by assumption) ?_
        · (try dsimp only at hSw); go_simp
        (try simp only [Act.put, List.setIfInBounds_toArray, List.set_cons_zero, List.set_cons_succ])
        refine wpAnyH_done (by kernel_rfl) ?_ _
        have bX : Below (W.alloc (Obj.cells #[.pointer (some ⟨B, 0, none⟩)] 47)).heap.size (W.alloc (Obj.cells #[.pointer (some ⟨B, 0, none⟩)] 47)) (w3.alloc (Obj.cells #[.int .i64 (at_ : Int)] 3)) := bw3.alloc bw3.size _
        have kQ : Blk (w3.alloc (Obj.cells #[.int .i64 (at_ : Int)] 3)) (w3.heap.size) 3 #[.int .i64 (at_ : Int)] := Blk.new w3 3 #[.int .i64 (at_ : Int)]
        have nQ : B ≠ w3.heap.size := by have := bw3.size; simp at this; omega
        clear hHeld
        generalize (w3.alloc (Obj.cells #[.int .i64 (at_ : Int)] 3)) = X at bX kQ ⊢
        generalize w3.heap.size = q at kQ nQ ⊢
        have bX0 := hide (belows (unhide HB0) bX)
        obtain ⟨y1, y2, y3, y4, y5, y6, y7⟩ := unhide HX _ bX
        clear y3 y5 y6 y7
        go_wp2_with (go_at_call 34; refine (unhide HNM _).mono ?_; rintro e w4 ⟨rfl, h4⟩; subst h4)
        go_ret
        exact ⟨rfl, (unhide HS0).below (unhide bX0), (unhide bX0).mono (by omega)⟩
      · go_simp
        refine hK.out _ _ ?_ (fun hHeld => ?_)
        · exact unhide HX _ (below_dr1 ((Below.refl _ _).alloc (Nat.le_refl _) _))
        clear hK K
        (try simp only [Act.put, List.setIfInBounds_toArray, List.set_cons_zero, List.set_cons_succ])
        refine wpAnyH_ready (rs := [4]) (by kernel_rfl) (by simp) ?_
        refine AllReadyH.cons rfl (fun K hK => ?_) AllReadyH.nil
        go_simp
        refine (unhide HF _ (unhide HROW (below_dr1 ((Below.refl _ _).alloc (Nat.le_refl _) _)))).mono ?_
        rintro e w3 ⟨rfl, b3⟩
        have b4 : Below ((W.alloc (Obj.cells #[.pointer (some ⟨B, 0, none⟩)] 47)).alloc (Obj.cells #[.int .i64 0] 3)).heap.size ((W.alloc (Obj.cells #[.pointer (some ⟨B, 0, none⟩)] 47)).alloc (Obj.cells #[.int .i64 0] 3)) w3 := ⟨b3.os, b3.tape, b3.output, b3.size, b3.block⟩
        have bw3 : Below (W.alloc (Obj.cells #[.pointer (some ⟨B, 0, none⟩)] 47)).heap.size (W.alloc (Obj.cells #[.pointer (some ⟨B, 0, none⟩)] 47)) w3 := belows ((Below.refl _ _).alloc (Nat.le_refl _) _) b4
        have kq3 := (Blk.new (W.alloc (Obj.cells #[.pointer (some ⟨B, 0, none⟩)] 47)) 3 #[.int .i64 0]).below b4
        simp only [World.size_alloc] at kq3
        clear b3 b4
        go_wp2_with fail
        refine hK.out _ _ ?_ (fun hHeld => ?_)
        · exact unhide HX _ bw3
        clear hK K
        (try simp only [Act.put, List.setIfInBounds_toArray, List.set_cons_zero, List.set_cons_succ])
        refine wpAnyH_take (i := 5) (v := .tuple #[.int .i64 (at_ : Int), .bool true]) rfl (by kernel_rfl) (by kernel_rfl) (by kernel_rfl) (fun _ _ _ h => h) (Or.inl ⟨by rfl, fun wS hSw => ?_⟩) (by assumption) ?_
        · (try dsimp only at hSw); go_simp
        (try simp only [Act.put, List.setIfInBounds_toArray, List.set_cons_zero, List.set_cons_succ])
        refine wpAnyH_take (i := 6) (v := .int .i64 (at_ : Int)) rfl (by kernel_rfl) (by kernel_rfl) (by kernel_rfl) (fun _ _ _ h => h) (Or.inl ⟨by rfl, fun wS hSw => ?_⟩) (by assumption) ?_
        · (try dsimp only at hSw); go_simp
        (try simp only [Act.put, List.setIfInBounds_toArray, List.set_cons_zero, List.set_cons_succ])
        refine wpAnyH_take (i := 7) (v := .bool true) rfl (by kernel_rfl) (by kernel_rfl) (by kernel_rfl) (fun _ _ _ h => h) (Or.inl ⟨by rfl, fun wS hSw => ?_⟩) (by assumption) ?_
        · (try dsimp only at hSw); go_simp
        (try simp only [Act.put, List.setIfInBounds_toArray, List.set_cons_zero, List.set_cons_succ])
        refine wpAnyH_ready (rs := [9]) (by kernel_rfl) (by simp) ?_
        refine AllReadyH.cons rfl (fun K hK => ?_) AllReadyH.nil
        have h9 := kq3.cell 0
        simp only [List.getElem?_toArray, List.getElem?_cons_zero] at h9
        have h9f := kq3.frozen 0
        go_simp
        refine hK.out _ _ ?_ (fun hHeld => ?_)
        · exact unhide HX _ (bw3.setCell (p := ⟨W.heap.size + 1, 0, none⟩) (by simp) _)
        clear hK K
        (try simp only [Act.put, List.setIfInBounds_toArray, List.set_cons_zero, List.set_cons_succ])
        refine wpAnyH_take (i := 10) (v := .bool true) rfl (by kernel_rfl) (by kernel_rfl) (by kernel_rfl) (fun _ _ _ h => h) (Or.inl ⟨by rfl, fun wS hSw => ?_⟩) (by assumption) ?_
        · (try dsimp only at hSw); go_simp
        (try simp only [Act.put, List.setIfInBounds_toArray, List.set_cons_zero, List.set_cons_succ])
        refine wpAnyH_done (by kernel_rfl) ?_ _
        have bX : Below (W.alloc (Obj.cells #[.pointer (some ⟨B, 0, none⟩)] 47)).heap.size (W.alloc (Obj.cells #[.pointer (some ⟨B, 0, none⟩)] 47)) ((w3.setCell ⟨W.heap.size + 1, 0, none⟩ (.int .i64 (at_ : Int)))) := bw3.setCell (p := ⟨W.heap.size + 1, 0, none⟩) (by simp) _
        have kQ : Blk ((w3.setCell ⟨W.heap.size + 1, 0, none⟩ (.int .i64 (at_ : Int)))) (W.heap.size + 1) 3 #[.int .i64 (at_ : Int)] := kq3.set 0 _
        have nQ : B ≠ W.heap.size + 1 := by omega
        clear hHeld
        generalize ((w3.setCell ⟨W.heap.size + 1, 0, none⟩ (.int .i64 (at_ : Int)))) = X at bX kQ ⊢
        generalize W.heap.size + 1 = q at kQ nQ ⊢
        have bX0 := hide (belows (unhide HB0) bX)
        obtain ⟨y1, y2, y3, y4, y5, y6, y7⟩ := unhide HX _ bX
        clear y3 y5 y6 y7
        go_wp2_with (go_at_call 34; refine (unhide HNM _).mono ?_; rintro e w4 ⟨rfl, h4⟩; subst h4)
        go_ret
        exact ⟨rfl, (unhide HS0).below (unhide bX0), (unhide bX0).mono (by omega)⟩
    · have hh' : has d.files n = false := by simpa using hh
      rw [hh'] at HF
      by_cases hf : d.files.length = 1024
      · have hc : createC n d = (d, 8) := by unfold createC; rw [if_neg hnm, if_neg hh, if_pos hf]
        rw [hc]
        rw [hf] at hN
        subst hN
        clear hc hnm hnm' HCH hh hh' hf h10
        go_enter Try.func32, Try.ntmps32
        go_wp2
        refine wp_region_held_drew (S := fun w' => w'.cell? ⟨W.heap.size, 0, none⟩ = some (.pointer (some ⟨B, 0, none⟩)) ∧ w'.cell? ⟨r, 0, none⟩ = some (.string n) ∧ w'.cell? ⟨B, 0, none⟩ = some (.int .i64 d.room) ∧ w'.cell? ⟨B, 1, none⟩ = some (.slice a 1024 cap) ∧ w'.cell? ⟨B, 2, none⟩ = some (.int .i64 d.fuse) ∧ w'.cell? ⟨B, 3, none⟩ = some (.int .i64 d.fault) ∧ w'.cell? ⟨B, 4, none⟩ = some (.bool d.down)) (by kernel_rfl) ?_ (fun hHeld => ?_)
        · exact unhide HX _ (below_dr1 (Below.refl _ _))
        refine wpAnyH_take (i := 0) (v := .pointer (some ⟨B, 0, none⟩)) rfl (by kernel_rfl) (by kernel_rfl) (by kernel_rfl) (fun _ _ _ h => h) (Or.inl ⟨by rfl, fun wS hSw => ?_⟩) (by assumption) ?_
        · (try dsimp only at hSw); go_simp
        (try simp only [Act.put, List.setIfInBounds_toArray, List.set_cons_zero, List.set_cons_succ])
        refine wpAnyH_take (i := 1) (v := .pointer (some ⟨B, 0, none⟩)) rfl (by kernel_rfl) (by kernel_rfl) (by kernel_rfl) (fun _ _ _ h => h) (Or.inl ⟨by rfl, fun wS hSw => ?_⟩) (by assumption) ?_
        · (try dsimp only at hSw); go_simp
        (try simp only [Act.put, List.setIfInBounds_toArray, List.set_cons_zero, List.set_cons_succ])
        refine wpAnyH_take (i := 2) (v := .agg #[.int .i64 d.room, .slice a 1024 cap, .int .i64 d.fuse, .int .i64 d.fault, .bool d.down]) rfl (by kernel_rfl) (by kernel_rfl) (by kernel_rfl) (fun _ _ _ h => h) (Or.inl ⟨by rfl, fun wS hSw => ?_⟩) (by assumption) ?_
        · (try dsimp only at hSw); go_simp
        (try simp only [Act.put, List.setIfInBounds_toArray, List.set_cons_zero, List.set_cons_succ])
        refine wpAnyH_take (i := 3) (v := .string n) rfl (by kernel_rfl) (by kernel_rfl) (by kernel_rfl) (fun _ _ _ h => h) (Or.inl ⟨by rfl, fun wS hSw => ?_⟩) (by assumption) ?_
        · (try dsimp only at hSw); go_simp
        (try simp only [Act.put, List.setIfInBounds_toArray, List.set_cons_zero, List.set_cons_succ])
        refine wpAnyH_ready (rs := [4, 8]) (by kernel_rfl) (by simp) ?_
        refine (AllReadyH.cons rfl (fun K hK => ?_) (AllReadyH.cons rfl (fun K hK => ?_) AllReadyH.nil))
        · go_simp
          refine (unhide HF _ (unhide HROW (below_dr1 (Below.refl _ _)))).mono ?_
          rintro e w3 ⟨rfl, b3⟩
          have bw3 : Below (W.alloc (Obj.cells #[.pointer (some ⟨B, 0, none⟩)] 47)).heap.size (W.alloc (Obj.cells #[.pointer (some ⟨B, 0, none⟩)] 47)) w3 := ⟨b3.os, b3.tape, b3.output, b3.size, b3.block⟩
          clear b3
          go_wp2_with fail
          refine hK.out _ _ ?_ (fun hHeld => ?_)
          · exact unhide HX _ bw3
          clear hK K
          (try simp only [Act.put, List.setIfInBounds_toArray, List.set_cons_zero, List.set_cons_succ])
          refine wpAnyH_take (i := 5) (v := .tuple #[.int .i64 (at_ : Int), .bool false]) rfl (by kernel_rfl) (by kernel_rfl) (by kernel_rfl) (fun _ _ _ h => h) (Or.inl ⟨by rfl, fun wS hSw => ?_⟩) (by assumption) ?_
          · (try dsimp only at hSw); go_simp
          (try simp only [Act.put, List.setIfInBounds_toArray, List.set_cons_zero, List.set_cons_succ])
          refine wpAnyH_take (i := 6) (v := .int .i64 (at_ : Int)) rfl (by kernel_rfl) (by kernel_rfl) (by kernel_rfl) (fun _ _ _ h => h) (Or.inl ⟨by rfl, fun wS hSw => ?_⟩) (by assumption) ?_
          · (try dsimp only at hSw); go_simp
          (try simp only [Act.put, List.setIfInBounds_toArray, List.set_cons_zero, List.set_cons_succ])
          refine wpAnyH_take (i := 7) (v := .bool false) rfl (by kernel_rfl) (by kernel_rfl) (by kernel_rfl) (fun _ _ _ h => h) (Or.inl ⟨by rfl, fun wS hSw => ?_⟩) (by assumption) ?_
          · (try dsimp only at hSw); go_simp
          (try simp only [Act.put, List.setIfInBounds_toArray, List.set_cons_zero, List.set_cons_succ])
          refine wpAnyH_ready (rs := [8]) (by kernel_rfl) (by simp) ?_
          refine AllReadyH.cons rfl (fun K hK => ?_) AllReadyH.nil
          go_simp
          refine hK.out _ _ ?_ (fun hHeld => ?_)
          · exact unhide HX _ (bw3.alloc bw3.size _)
          clear hK K
          (try simp only [Act.put, List.setIfInBounds_toArray, List.set_cons_zero, List.set_cons_succ])
          refine wpAnyH_ready (rs := [9]) (by kernel_rfl) (by simp) ?_
          refine AllReadyH.cons rfl (fun K hK => ?_) AllReadyH.nil
          have h9 := (Blk.new w3 3 #[.int .i64 0]).cell 0
          simp only [List.getElem?_toArray, List.getElem?_cons_zero] at h9
          have h9f := (Blk.new w3 3 #[.int .i64 0]).frozen 0
          go_simp
          refine hK.out _ _ ?_ (fun hHeld => ?_)
          · exact unhide HX _ (bw3.alloc bw3.size _)
          clear hK K
          (try simp only [Act.put, List.setIfInBounds_toArray, List.set_cons_zero, List.set_cons_succ])
          refine wpAnyH_take (i := 10) (v := .bool false) rfl (by kernel_rfl) (by kernel_rfl) (by kernel_rfl) (fun _ _ _ h => h) (Or.inl ⟨by rfl, fun wS hSw => ?_⟩) (by assumption) ?_
          · (try dsimp only at hSw); go_simp
          (try simp only [Act.put, List.setIfInBounds_toArray, List.set_cons_zero, List.set_cons_succ])
          refine wpAnyH_done (by kernel_rfl) ?_ _
          have bX : Below (W.alloc (Obj.cells #[.pointer (some ⟨B, 0, none⟩)] 47)).heap.size (W.alloc (Obj.cells #[.pointer (some ⟨B, 0, none⟩)] 47)) (w3.alloc (Obj.cells #[.int .i64 (at_ : Int)] 3)) := bw3.alloc bw3.size _
          have kQ : Blk (w3.alloc (Obj.cells #[.int .i64 (at_ : Int)] 3)) (w3.heap.size) 3 #[.int .i64 (at_ : Int)] := Blk.new w3 3 #[.int .i64 (at_ : Int)]
          have nQ : B ≠ w3.heap.size := by have := bw3.size; simp at this; omega
          clear hHeld
          generalize (w3.alloc (Obj.cells #[.int .i64 (at_ : Int)] 3)) = X at bX kQ ⊢
          generalize w3.heap.size = q at kQ nQ ⊢
          have bX0 := hide (belows (unhide HB0) bX)
          obtain ⟨y1, y2, y3, y4, y5, y6, y7⟩ := unhide HX _ bX
          clear y3 y5 y6 y7
          go_wp2_with (go_at_call 34; refine (unhide HNM _).mono ?_; rintro e w4 ⟨rfl, h4⟩; subst h4)
          go_ret
          exact ⟨rfl, (unhide HS0).below (unhide bX0), (unhide bX0).mono (by omega)⟩
        · go_simp
          refine hK.out _ _ ?_ (fun hHeld => ?_)
          · exact unhide HX _ (below_dr1 ((Below.refl _ _).alloc (Nat.le_refl _) _))
          clear hK K
          (try simp only [Act.put, List.setIfInBounds_toArray, List.set_cons_zero, List.set_cons_succ])
          refine wpAnyH_ready (rs := [4]) (by kernel_rfl) (by simp) ?_
          refine AllReadyH.cons rfl (fun K hK => ?_) AllReadyH.nil
          go_simp
          refine (unhide HF _ (unhide HROW (below_dr1 ((Below.refl _ _).alloc (Nat.le_refl _) _)))).mono ?_
          rintro e w3 ⟨rfl, b3⟩
          have b4 : Below ((W.alloc (Obj.cells #[.pointer (some ⟨B, 0, none⟩)] 47)).alloc (Obj.cells #[.int .i64 0] 3)).heap.size ((W.alloc (Obj.cells #[.pointer (some ⟨B, 0, none⟩)] 47)).alloc (Obj.cells #[.int .i64 0] 3)) w3 := ⟨b3.os, b3.tape, b3.output, b3.size, b3.block⟩
          have bw3 : Below (W.alloc (Obj.cells #[.pointer (some ⟨B, 0, none⟩)] 47)).heap.size (W.alloc (Obj.cells #[.pointer (some ⟨B, 0, none⟩)] 47)) w3 := belows ((Below.refl _ _).alloc (Nat.le_refl _) _) b4
          have kq3 := (Blk.new (W.alloc (Obj.cells #[.pointer (some ⟨B, 0, none⟩)] 47)) 3 #[.int .i64 0]).below b4
          simp only [World.size_alloc] at kq3
          clear b3 b4
          go_wp2_with fail
          refine hK.out _ _ ?_ (fun hHeld => ?_)
          · exact unhide HX _ bw3
          clear hK K
          (try simp only [Act.put, List.setIfInBounds_toArray, List.set_cons_zero, List.set_cons_succ])
          refine wpAnyH_take (i := 5) (v := .tuple #[.int .i64 (at_ : Int), .bool false]) rfl (by kernel_rfl) (by kernel_rfl) (by kernel_rfl) (fun _ _ _ h => h) (Or.inl ⟨by rfl, fun wS hSw => ?_⟩) (by assumption) ?_
          · (try dsimp only at hSw); go_simp
          (try simp only [Act.put, List.setIfInBounds_toArray, List.set_cons_zero, List.set_cons_succ])
          refine wpAnyH_take (i := 6) (v := .int .i64 (at_ : Int)) rfl (by kernel_rfl) (by kernel_rfl) (by kernel_rfl) (fun _ _ _ h => h) (Or.inl ⟨by rfl, fun wS hSw => ?_⟩) (by assumption) ?_
          · (try dsimp only at hSw); go_simp
          (try simp only [Act.put, List.setIfInBounds_toArray, List.set_cons_zero, List.set_cons_succ])
          refine wpAnyH_take (i := 7) (v := .bool false) rfl (by kernel_rfl) (by kernel_rfl) (by kernel_rfl) (fun _ _ _ h => h) (Or.inl ⟨by rfl, fun wS hSw => ?_⟩) (by assumption) ?_
          · (try dsimp only at hSw); go_simp
          (try simp only [Act.put, List.setIfInBounds_toArray, List.set_cons_zero, List.set_cons_succ])
          refine wpAnyH_ready (rs := [9]) (by kernel_rfl) (by simp) ?_
          refine AllReadyH.cons rfl (fun K hK => ?_) AllReadyH.nil
          have h9 := kq3.cell 0
          simp only [List.getElem?_toArray, List.getElem?_cons_zero] at h9
          have h9f := kq3.frozen 0
          go_simp
          refine hK.out _ _ ?_ (fun hHeld => ?_)
          · exact unhide HX _ (bw3.setCell (p := ⟨W.heap.size + 1, 0, none⟩) (by simp) _)
          clear hK K
          (try simp only [Act.put, List.setIfInBounds_toArray, List.set_cons_zero, List.set_cons_succ])
          refine wpAnyH_take (i := 10) (v := .bool false) rfl (by kernel_rfl) (by kernel_rfl) (by kernel_rfl) (fun _ _ _ h => h) (Or.inl ⟨by rfl, fun wS hSw => ?_⟩) (by assumption) ?_
          · (try dsimp only at hSw); go_simp
          (try simp only [Act.put, List.setIfInBounds_toArray, List.set_cons_zero, List.set_cons_succ])
          refine wpAnyH_done (by kernel_rfl) ?_ _
          have bX : Below (W.alloc (Obj.cells #[.pointer (some ⟨B, 0, none⟩)] 47)).heap.size (W.alloc (Obj.cells #[.pointer (some ⟨B, 0, none⟩)] 47)) ((w3.setCell ⟨W.heap.size + 1, 0, none⟩ (.int .i64 (at_ : Int)))) := bw3.setCell (p := ⟨W.heap.size + 1, 0, none⟩) (by simp) _
          have kQ : Blk ((w3.setCell ⟨W.heap.size + 1, 0, none⟩ (.int .i64 (at_ : Int)))) (W.heap.size + 1) 3 #[.int .i64 (at_ : Int)] := kq3.set 0 _
          have nQ : B ≠ W.heap.size + 1 := by omega
          clear hHeld
          generalize ((w3.setCell ⟨W.heap.size + 1, 0, none⟩ (.int .i64 (at_ : Int)))) = X at bX kQ ⊢
          generalize W.heap.size + 1 = q at kQ nQ ⊢
          have bX0 := hide (belows (unhide HB0) bX)
          obtain ⟨y1, y2, y3, y4, y5, y6, y7⟩ := unhide HX _ bX
          clear y3 y5 y6 y7
          go_wp2_with (go_at_call 34; refine (unhide HNM _).mono ?_; rintro e w4 ⟨rfl, h4⟩; subst h4)
          go_ret
          exact ⟨rfl, (unhide HS0).below (unhide bX0), (unhide bX0).mono (by omega)⟩
      · have hc : createC n d = changeR d (fun d : Fs => ({ d with files := d.files.insertIdx (lb d.files n) ⟨n, ByteArray.empty, 0⟩ } : Fs)) := by unfold createC; rw [if_neg hnm, if_neg hh, if_neg hf]
        rw [hc]
        generalize changeR d (fun d : Fs => ({ d with files := d.files.insertIdx (lb d.files n) ⟨n, ByteArray.empty, 0⟩ } : Fs)) = res at HCH ⊢
        obtain ⟨d5, n5⟩ := res
        simp only at HCH ⊢
        have hNe : ((N : Int) == 1024) = false := by simp; omega
        clear hc hnm hnm' hh hh' hN hf
        go_enter Try.func32, Try.ntmps32
        go_wp2
        refine wp_region_held_drew (S := fun w' => w'.cell? ⟨W.heap.size, 0, none⟩ = some (.pointer (some ⟨B, 0, none⟩)) ∧ w'.cell? ⟨r, 0, none⟩ = some (.string n) ∧ w'.cell? ⟨B, 0, none⟩ = some (.int .i64 d.room) ∧ w'.cell? ⟨B, 1, none⟩ = some (.slice a N cap) ∧ w'.cell? ⟨B, 2, none⟩ = some (.int .i64 d.fuse) ∧ w'.cell? ⟨B, 3, none⟩ = some (.int .i64 d.fault) ∧ w'.cell? ⟨B, 4, none⟩ = some (.bool d.down)) (by kernel_rfl) ?_ (fun hHeld => ?_)
        · exact unhide HX _ (below_dr1 (Below.refl _ _))
        refine wpAnyH_take (i := 0) (v := .pointer (some ⟨B, 0, none⟩)) rfl (by kernel_rfl) (by kernel_rfl) (by kernel_rfl) (fun _ _ _ h => h) (Or.inl ⟨by rfl, fun wS hSw => ?_⟩) (by assumption) ?_
        · (try dsimp only at hSw); go_simp
        (try simp only [Act.put, List.setIfInBounds_toArray, List.set_cons_zero, List.set_cons_succ])
        refine wpAnyH_take (i := 1) (v := .pointer (some ⟨B, 0, none⟩)) rfl (by kernel_rfl) (by kernel_rfl) (by kernel_rfl) (fun _ _ _ h => h) (Or.inl ⟨by rfl, fun wS hSw => ?_⟩) (by assumption) ?_
        · (try dsimp only at hSw); go_simp
        (try simp only [Act.put, List.setIfInBounds_toArray, List.set_cons_zero, List.set_cons_succ])
        refine wpAnyH_take (i := 2) (v := .agg #[.int .i64 d.room, .slice a N cap, .int .i64 d.fuse, .int .i64 d.fault, .bool d.down]) rfl (by kernel_rfl) (by kernel_rfl) (by kernel_rfl) (fun _ _ _ h => h) (Or.inl ⟨by rfl, fun wS hSw => ?_⟩) (by assumption) ?_
        · (try dsimp only at hSw); go_simp
        (try simp only [Act.put, List.setIfInBounds_toArray, List.set_cons_zero, List.set_cons_succ])
        refine wpAnyH_take (i := 3) (v := .string n) rfl (by kernel_rfl) (by kernel_rfl) (by kernel_rfl) (fun _ _ _ h => h) (Or.inl ⟨by rfl, fun wS hSw => ?_⟩) (by assumption) ?_
        · (try dsimp only at hSw); go_simp
        (try simp only [Act.put, List.setIfInBounds_toArray, List.set_cons_zero, List.set_cons_succ])
        refine wpAnyH_ready (rs := [4, 8]) (by kernel_rfl) (by simp) ?_
        refine (AllReadyH.cons rfl (fun K hK => ?_) (AllReadyH.cons rfl (fun K hK => ?_) AllReadyH.nil))
        · go_simp
          refine (unhide HF _ (unhide HROW (below_dr1 (Below.refl _ _)))).mono ?_
          rintro e w3 ⟨rfl, b3⟩
          have bw3 : Below (W.alloc (Obj.cells #[.pointer (some ⟨B, 0, none⟩)] 47)).heap.size (W.alloc (Obj.cells #[.pointer (some ⟨B, 0, none⟩)] 47)) w3 := ⟨b3.os, b3.tape, b3.output, b3.size, b3.block⟩
          clear b3
          go_wp2_with fail
          refine hK.out _ _ ?_ (fun hHeld => ?_)
          · exact unhide HX _ bw3
          clear hK K
          (try simp only [Act.put, List.setIfInBounds_toArray, List.set_cons_zero, List.set_cons_succ])
          refine wpAnyH_take (i := 5) (v := .tuple #[.int .i64 (at_ : Int), .bool false]) rfl (by kernel_rfl) (by kernel_rfl) (by kernel_rfl) (fun _ _ _ h => h) (Or.inl ⟨by rfl, fun wS hSw => ?_⟩) (by assumption) ?_
          · (try dsimp only at hSw); go_simp
          (try simp only [Act.put, List.setIfInBounds_toArray, List.set_cons_zero, List.set_cons_succ])
          refine wpAnyH_take (i := 6) (v := .int .i64 (at_ : Int)) rfl (by kernel_rfl) (by kernel_rfl) (by kernel_rfl) (fun _ _ _ h => h) (Or.inl ⟨by rfl, fun wS hSw => ?_⟩) (by assumption) ?_
          · (try dsimp only at hSw); go_simp
          (try simp only [Act.put, List.setIfInBounds_toArray, List.set_cons_zero, List.set_cons_succ])
          refine wpAnyH_take (i := 7) (v := .bool false) rfl (by kernel_rfl) (by kernel_rfl) (by kernel_rfl) (fun _ _ _ h => h) (Or.inl ⟨by rfl, fun wS hSw => ?_⟩) (by assumption) ?_
          · (try dsimp only at hSw); go_simp
          (try simp only [Act.put, List.setIfInBounds_toArray, List.set_cons_zero, List.set_cons_succ])
          refine wpAnyH_ready (rs := [8]) (by kernel_rfl) (by simp) ?_
          refine AllReadyH.cons rfl (fun K hK => ?_) AllReadyH.nil
          go_simp
          refine hK.out _ _ ?_ (fun hHeld => ?_)
          · exact unhide HX _ (bw3.alloc bw3.size _)
          clear hK K
          (try simp only [Act.put, List.setIfInBounds_toArray, List.set_cons_zero, List.set_cons_succ])
          refine wpAnyH_ready (rs := [9]) (by kernel_rfl) (by simp) ?_
          refine AllReadyH.cons rfl (fun K hK => ?_) AllReadyH.nil
          have h9 := (Blk.new w3 3 #[.int .i64 0]).cell 0
          simp only [List.getElem?_toArray, List.getElem?_cons_zero] at h9
          have h9f := (Blk.new w3 3 #[.int .i64 0]).frozen 0
          go_simp
          refine hK.out _ _ ?_ (fun hHeld => ?_)
          · exact unhide HX _ (bw3.alloc bw3.size _)
          clear hK K
          (try simp only [Act.put, List.setIfInBounds_toArray, List.set_cons_zero, List.set_cons_succ])
          refine wpAnyH_take (i := 10) (v := .bool false) rfl (by kernel_rfl) (by kernel_rfl) (by kernel_rfl) (fun _ _ _ h => h) (Or.inl ⟨by rfl, fun wS hSw => ?_⟩) (by assumption) ?_
          · (try dsimp only at hSw); go_simp
          (try simp only [Act.put, List.setIfInBounds_toArray, List.set_cons_zero, List.set_cons_succ])
          refine wpAnyH_done (by kernel_rfl) ?_ _
          have bX : Below (W.alloc (Obj.cells #[.pointer (some ⟨B, 0, none⟩)] 47)).heap.size (W.alloc (Obj.cells #[.pointer (some ⟨B, 0, none⟩)] 47)) (w3.alloc (Obj.cells #[.int .i64 (at_ : Int)] 3)) := bw3.alloc bw3.size _
          have kQ : Blk (w3.alloc (Obj.cells #[.int .i64 (at_ : Int)] 3)) (w3.heap.size) 3 #[.int .i64 (at_ : Int)] := Blk.new w3 3 #[.int .i64 (at_ : Int)]
          have nQ : B ≠ w3.heap.size := by have := bw3.size; simp at this; omega
          clear hHeld
          generalize (w3.alloc (Obj.cells #[.int .i64 (at_ : Int)] 3)) = X at bX kQ ⊢
          generalize w3.heap.size = q at kQ nQ ⊢
          have bX0 := hide (belows (unhide HB0) bX)
          obtain ⟨y1, y2, y3, y4, y5, y6, y7⟩ := unhide HX _ bX
          clear y3 y5 y6 y7
          have HCC := hide (unhide HCH _ q bX kQ (fun e => nQ e.symm))
          have hCX : C ≤ X.heap.size := by have := (unhide bX0).size; omega
          clear bX kQ nQ
          go_wp2_with (first | (go_at_call 34; refine (unhide HNM _).mono ?_; rintro e w4 ⟨rfl, h4⟩; subst h4) | (go_at_call 35; refine (unhide HCC).mono ?_; rintro e w5 ⟨rfl, s5, b5⟩; have S5 := hide s5; have B5 := hide (((unhide bX0).mono (show C ≤ W.heap.size by omega)).trans b5); clear s5 b5))
          go_ret
          exact ⟨rfl, unhide S5, unhide B5⟩
        · go_simp
          refine hK.out _ _ ?_ (fun hHeld => ?_)
          · exact unhide HX _ (below_dr1 ((Below.refl _ _).alloc (Nat.le_refl _) _))
          clear hK K
          (try simp only [Act.put, List.setIfInBounds_toArray, List.set_cons_zero, List.set_cons_succ])
          refine wpAnyH_ready (rs := [4]) (by kernel_rfl) (by simp) ?_
          refine AllReadyH.cons rfl (fun K hK => ?_) AllReadyH.nil
          go_simp
          refine (unhide HF _ (unhide HROW (below_dr1 ((Below.refl _ _).alloc (Nat.le_refl _) _)))).mono ?_
          rintro e w3 ⟨rfl, b3⟩
          have b4 : Below ((W.alloc (Obj.cells #[.pointer (some ⟨B, 0, none⟩)] 47)).alloc (Obj.cells #[.int .i64 0] 3)).heap.size ((W.alloc (Obj.cells #[.pointer (some ⟨B, 0, none⟩)] 47)).alloc (Obj.cells #[.int .i64 0] 3)) w3 := ⟨b3.os, b3.tape, b3.output, b3.size, b3.block⟩
          have bw3 : Below (W.alloc (Obj.cells #[.pointer (some ⟨B, 0, none⟩)] 47)).heap.size (W.alloc (Obj.cells #[.pointer (some ⟨B, 0, none⟩)] 47)) w3 := belows ((Below.refl _ _).alloc (Nat.le_refl _) _) b4
          have kq3 := (Blk.new (W.alloc (Obj.cells #[.pointer (some ⟨B, 0, none⟩)] 47)) 3 #[.int .i64 0]).below b4
          simp only [World.size_alloc] at kq3
          clear b3 b4
          go_wp2_with fail
          refine hK.out _ _ ?_ (fun hHeld => ?_)
          · exact unhide HX _ bw3
          clear hK K
          (try simp only [Act.put, List.setIfInBounds_toArray, List.set_cons_zero, List.set_cons_succ])
          refine wpAnyH_take (i := 5) (v := .tuple #[.int .i64 (at_ : Int), .bool false]) rfl (by kernel_rfl) (by kernel_rfl) (by kernel_rfl) (fun _ _ _ h => h) (Or.inl ⟨by rfl, fun wS hSw => ?_⟩) (by assumption) ?_
          · (try dsimp only at hSw); go_simp
          (try simp only [Act.put, List.setIfInBounds_toArray, List.set_cons_zero, List.set_cons_succ])
          refine wpAnyH_take (i := 6) (v := .int .i64 (at_ : Int)) rfl (by kernel_rfl) (by kernel_rfl) (by kernel_rfl) (fun _ _ _ h => h) (Or.inl ⟨by rfl, fun wS hSw => ?_⟩) (by assumption) ?_
          · (try dsimp only at hSw); go_simp
          (try simp only [Act.put, List.setIfInBounds_toArray, List.set_cons_zero, List.set_cons_succ])
          refine wpAnyH_take (i := 7) (v := .bool false) rfl (by kernel_rfl) (by kernel_rfl) (by kernel_rfl) (fun _ _ _ h => h) (Or.inl ⟨by rfl, fun wS hSw => ?_⟩) (by assumption) ?_
          · (try dsimp only at hSw); go_simp
          (try simp only [Act.put, List.setIfInBounds_toArray, List.set_cons_zero, List.set_cons_succ])
          refine wpAnyH_ready (rs := [9]) (by kernel_rfl) (by simp) ?_
          refine AllReadyH.cons rfl (fun K hK => ?_) AllReadyH.nil
          have h9 := kq3.cell 0
          simp only [List.getElem?_toArray, List.getElem?_cons_zero] at h9
          have h9f := kq3.frozen 0
          go_simp
          refine hK.out _ _ ?_ (fun hHeld => ?_)
          · exact unhide HX _ (bw3.setCell (p := ⟨W.heap.size + 1, 0, none⟩) (by simp) _)
          clear hK K
          (try simp only [Act.put, List.setIfInBounds_toArray, List.set_cons_zero, List.set_cons_succ])
          refine wpAnyH_take (i := 10) (v := .bool false) rfl (by kernel_rfl) (by kernel_rfl) (by kernel_rfl) (fun _ _ _ h => h) (Or.inl ⟨by rfl, fun wS hSw => ?_⟩) (by assumption) ?_
          · (try dsimp only at hSw); go_simp
          (try simp only [Act.put, List.setIfInBounds_toArray, List.set_cons_zero, List.set_cons_succ])
          refine wpAnyH_done (by kernel_rfl) ?_ _
          have bX : Below (W.alloc (Obj.cells #[.pointer (some ⟨B, 0, none⟩)] 47)).heap.size (W.alloc (Obj.cells #[.pointer (some ⟨B, 0, none⟩)] 47)) ((w3.setCell ⟨W.heap.size + 1, 0, none⟩ (.int .i64 (at_ : Int)))) := bw3.setCell (p := ⟨W.heap.size + 1, 0, none⟩) (by simp) _
          have kQ : Blk ((w3.setCell ⟨W.heap.size + 1, 0, none⟩ (.int .i64 (at_ : Int)))) (W.heap.size + 1) 3 #[.int .i64 (at_ : Int)] := kq3.set 0 _
          have nQ : B ≠ W.heap.size + 1 := by omega
          clear hHeld
          generalize ((w3.setCell ⟨W.heap.size + 1, 0, none⟩ (.int .i64 (at_ : Int)))) = X at bX kQ ⊢
          generalize W.heap.size + 1 = q at kQ nQ ⊢
          have bX0 := hide (belows (unhide HB0) bX)
          obtain ⟨y1, y2, y3, y4, y5, y6, y7⟩ := unhide HX _ bX
          clear y3 y5 y6 y7
          have HCC := hide (unhide HCH _ q bX kQ (fun e => nQ e.symm))
          have hCX : C ≤ X.heap.size := by have := (unhide bX0).size; omega
          clear bX kQ nQ
          go_wp2_with (first | (go_at_call 34; refine (unhide HNM _).mono ?_; rintro e w4 ⟨rfl, h4⟩; subst h4) | (go_at_call 35; refine (unhide HCC).mono ?_; rintro e w5 ⟨rfl, s5, b5⟩; have S5 := hide s5; have B5 := hide (((unhide bX0).mono (show C ≤ W.heap.size by omega)).trans b5); clear s5 b5))
          go_ret
          exact ⟨rfl, unhide S5, unhide B5⟩
set_option maxHeartbeats 2000000 in
set_option maxRecDepth 100000 in
theorem create_any (d : Fs) (v : Value) (n : ByteArray) (w : World) (hfit : FitAll d) (h : RowF w v d.files) (hn : n.size ≤ 281474976710656) :
    Calls Try.prog 6 #[fsV d v, .string n] w fun e w' => ∃ v', e = .returned (.tuple #[fsV (createR d n).1 v', .int .i64 (createR d n).2]) ∧ RowF w' v' (createR d n).1.files ∧ FitAll (createR d n).1 ∧ Below w.heap.size w w' := by
  have hb : Below w.heap.size w (((w.alloc (Obj.cells #[.int .i64 d.room, v, .int .i64 d.fuse, .int .i64 d.fault, .bool d.down] 24)).alloc (Obj.cells #[.string n] 9)).alloc (Obj.cells #[.int .i64 0, .slice none 0 0, .int .i64 0, .int .i64 0, .bool false] 24)) := ((((Below.refl _ w).alloc (by first | omega | (simp only [World.size_alloc]; omega)) (Obj.cells #[.int .i64 d.room, v, .int .i64 d.fuse, .int .i64 d.fault, .bool d.down] 24)).alloc (by first | omega | (simp only [World.size_alloc]; omega)) (Obj.cells #[.string n] 9)).alloc (by first | omega | (simp only [World.size_alloc]; omega)) (Obj.cells #[.int .i64 0, .slice none 0 0, .int .i64 0, .int .i64 0, .bool false] 24))
  have q1 := ((Blk.new (w.alloc (Obj.cells #[.int .i64 d.room, v, .int .i64 d.fuse, .int .i64 d.fault, .bool d.down] 24)) 9 #[.string n]).below ((Below.refl _ _).alloc (Nat.le_refl _) (Obj.cells #[.int .i64 0, .slice none 0 0, .int .i64 0, .int .i64 0, .bool false] 24)))
  simp only [World.size_alloc] at q1
  have hsz : (((w.alloc (Obj.cells #[.int .i64 d.room, v, .int .i64 d.fuse, .int .i64 d.fault, .bool d.down] 24)).alloc (Obj.cells #[.string n] 9)).alloc (Obj.cells #[.int .i64 0, .slice none 0 0, .int .i64 0, .int .i64 0, .bool false] 24)).heap.size = w.heap.size + 1 + 1 + 1 := by simp only [World.size_alloc]
  have HW := hide (work_any d v 32 #[.pointer (some ⟨w.heap.size + 1, 0, none⟩)] (createC n) (((w.alloc (Obj.cells #[.int .i64 d.room, v, .int .i64 d.fuse, .int .i64 d.fault, .bool d.down] 24)).alloc (Obj.cells #[.string n] 9)).alloc (Obj.cells #[.int .i64 0, .slice none 0 0, .int .i64 0, .int .i64 0, .bool false] 24)) hfit (h.below hb) (enters_of Try.func32 (by kernel_rfl) rfl) (fun hg W C B hC hB hS => create1_any d n W C B _ hg hn hS (q1.below hB)))
  have z := Blk.new ((w.alloc (Obj.cells #[.int .i64 d.room, v, .int .i64 d.fuse, .int .i64 d.fault, .bool d.down] 24)).alloc (Obj.cells #[.string n] 9)) 24 #[.int .i64 0, .slice none 0 0, .int .i64 0, .int .i64 0, .bool false]
  simp only [World.size_alloc] at z
  have HZ := hide z
  have HB := hide hb
  obtain ⟨a, cap, rfl, _, _, _⟩ := h
  clear z hb hsz q1
  have hres : createR d n = workR d (createC n) := rfl
  rw [hres]
  clear hres
  generalize workR d (createC n) = res at HW ⊢
  obtain ⟨d5, n5⟩ := res
  simp only [fsV] at HW ⊢
  go_enter Try.func6, Try.ntmps6
  go_wp2_with fail
  refine (unhide HW).mono ?_
  rintro e w5 ⟨v5, rfl, hrow5, hfit5, b5⟩
  have k := (unhide HZ).below b5
  have RB := hide (below5 (s := w.heap.size + 1 + 1) ((unhide HB).trans (b5.mono (unhide HB).size)) (by omega))
  have RR := hide (rowF5 hrow5 k (by intro i x; match i with | 0 | 1 | 2 | 3 | 4 => simp | i + 5 => simp))
  have HF5 := hide hfit5
  have e0 := k.cell 0
  have e1 := k.cell 1
  have e2 := k.cell 2
  have e3 := k.cell 3
  have e4 := k.cell 4
  have f0 := k.frozen 0
  have f1 := k.frozen 1
  have f2 := k.frozen 2
  have f3 := k.frozen 3
  have f4 := k.frozen 4
  simp only [List.getElem?_toArray, List.getElem?_cons_succ, List.getElem?_cons_zero] at e0 e1 e2 e3 e4
  obtain ⟨a5, cap5, rfl, _, _, _⟩ := hrow5
  clear k b5 hfit5 HW
  go_wp2
  (try simp only [Exit.inBlock, Exit.then])
  refine bodyPost_ret (v := .tuple #[.agg #[.int .i64 d5.room, .slice a5 d5.files.length cap5, .int .i64 d5.fuse, .int .i64 d5.fault, .bool d5.down], .int .i64 n5]) ?_ rfl ⟨_, rfl, unhide RR _ _ _ _ _, unhide HF5, unhide RB _ _ _ _ _⟩
  rw [results_cell_tmp rfl]
  go_simp
end Go.Proofs.Ytmfkhbofmaonkaa
