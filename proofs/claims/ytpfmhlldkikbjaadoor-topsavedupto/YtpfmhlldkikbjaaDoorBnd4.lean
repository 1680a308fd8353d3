/-
  What disk.Create does, whole, over this seat's program.
-/
import Derived.Test.YtpfmhlldkikbjaaDoorBnd3
import Derived.Deep.RegionHeld3
import Derived.Test.YtpfmhlldkikbjaaDoorBnd2
set_option linter.unusedVariables false
set_option linter.unusedSimpArgs false
namespace Go.Proofs.YtpfmhlldkikbjaaDoor
open Go.RowKit Go.Proofs.Dsk Go.Lib


/-- What Create does once it has a copy. -/
def createC (n : ByteArray) (d : Fs) : Fs × Nat :=
  if named n = false then (d, 1) else if has d.files n = true then (d, 4) else if d.files.length = 1024 then (d, 8)
  else changeR d fun d => { d with files := d.files.insertIdx (lb d.files n) ⟨n, ByteArray.empty, 0⟩ }

set_option maxHeartbeats 8000000 in
set_option maxRecDepth 100000 in
theorem create1_any (d : Fs) (n : ByteArray) (W : World) (C B r : Nat) (hgood : Good d) (hn : n.size ≤ 281474976710656) (hS : Sys W C B d) (hr : Blk W r 9 #[.string n]) :
    Calls Tryd.prog 21 (#[.pointer (some ⟨B, 0, none⟩)] ++ #[.pointer (some ⟨r, 0, none⟩)]) W fun e W' => e = .returned (.int .i64 (createC n d).2) ∧ Sys W' C B (createC n d).1 ∧ Below C W W' := by
  have hR := right_parts hgood.1
  obtain ⟨v, hV⟩ := hS.val
  have hlt := hS.lt
  have hCB := hS.1
  have HS0 := hide hS
  have hb0 : Below W.heap.size W (W.alloc (Obj.cells #[.pointer (some ⟨B, 0, none⟩)] 60)) := (Below.refl _ W).alloc (Nat.le_refl _) _
  have HB0 := hide hb0
  have kp := Blk.new W 60 #[.pointer (some ⟨B, 0, none⟩)]
  have hV1 := hV.below hb0
  have hr1 := hr.below hb0
  have HVX := hide (fun (X : World) (hX : Below (W.alloc (Obj.cells #[.pointer (some ⟨B, 0, none⟩)] 60)).heap.size (W.alloc (Obj.cells #[.pointer (some ⟨B, 0, none⟩)] 60)) X) => hV1.below hX)
  have HPX := hide (fun (X : World) (hX : Below (W.alloc (Obj.cells #[.pointer (some ⟨B, 0, none⟩)] 60)).heap.size (W.alloc (Obj.cells #[.pointer (some ⟨B, 0, none⟩)] 60)) X) => kp.below hX)
  have HRX := hide (fun (X : World) (hX : Below (W.alloc (Obj.cells #[.pointer (some ⟨B, 0, none⟩)] 60)).heap.size (W.alloc (Obj.cells #[.pointer (some ⟨B, 0, none⟩)] 60)) X) => hr1.below hX)
  have hrow : RowF (W.alloc (Obj.cells #[.pointer (some ⟨B, 0, none⟩)] 60)) v d.files := rowF_of_own hV1.2.2.2.1 hV.2.1.2.2 hV.2.1.2.1
  have HROW : Hid (∀ {X : World}, Below (W.alloc (Obj.cells #[.pointer (some ⟨B, 0, none⟩)] 60)).heap.size (W.alloc (Obj.cells #[.pointer (some ⟨B, 0, none⟩)] 60)) X → RowF X v d.files) := fun {X} hX => hrow.below hX
  have HF := hide (fun (X : World) (hX : RowF X v d.files) => find_any d v n X hR.2.2.2 hR.1.2.2.1 hX)
  have HNM := hide (fun (X : World) => isName_any n X (by omega))
  have h10 := hR.1.2.2.1
  obtain ⟨a, cap, rfl⟩ := own_form hV.2.2.2.1
  have HX : Hid (∀ X, Below (W.alloc (Obj.cells #[.pointer (some ⟨B, 0, none⟩)] 60)).heap.size (W.alloc (Obj.cells #[.pointer (some ⟨B, 0, none⟩)] 60)) X → (fun w' => w'.cell? ⟨W.heap.size, 0, none⟩ = some (.pointer (some ⟨B, 0, none⟩)) ∧ w'.cell? ⟨r, 0, none⟩ = some (.string n) ∧ w'.cell? ⟨B, 0, none⟩ = some (.int .i64 d.room) ∧ w'.cell? ⟨B, 1, none⟩ = some (.slice a d.files.length cap) ∧ w'.cell? ⟨B, 2, none⟩ = some (.int .i64 d.fuse) ∧ w'.cell? ⟨B, 3, none⟩ = some (.int .i64 d.fault) ∧ w'.cell? ⟨B, 4, none⟩ = some (.bool d.down)) X) := hide (fun X hX => by
    have h1 := unhide HVX X hX
    have c0 := h1.2.2.1.cell 0
    have c1 := h1.2.2.1.cell 1
    have c2 := h1.2.2.1.cell 2
    have c3 := h1.2.2.1.cell 3
    have c4 := h1.2.2.1.cell 4
    have cp := (unhide HPX X hX).cell 0
    have cr := (unhide HRX X hX).cell 0
    simp only [sysCells, List.getElem?_toArray, List.getElem?_cons_succ, List.getElem?_cons_zero] at c0 c1 c2 c3 c4 cp cr
    exact ⟨cp, cr, c0, c1, c2, c3, c4⟩)
  have HCH : Hid (∀ X q, Below (W.alloc (Obj.cells #[.pointer (some ⟨B, 0, none⟩)] 60)).heap.size (W.alloc (Obj.cells #[.pointer (some ⟨B, 0, none⟩)] 60)) X → Blk X q 3 #[.int .i64 (lb d.files n : Nat)] → q ≠ B → Calls Tryd.prog 24 #[.pointer (some ⟨B, 0, none⟩), .func (.func 25) #[] #[.pointer (some ⟨W.heap.size, 0, none⟩), .pointer (some ⟨q, 0, none⟩), .pointer (some ⟨r, 0, none⟩)]] X fun e w' => e = .returned (.int .i64 (changeR d (fun d : Fs => ({ d with files := d.files.insertIdx (lb d.files n) ⟨n, ByteArray.empty, 0⟩ } : Fs))).2) ∧ Sys w' C B (changeR d (fun d : Fs => ({ d with files := d.files.insertIdx (lb d.files n) ⟨n, ByteArray.empty, 0⟩ } : Fs))).1 ∧ Below C X w') := hide (fun X q hX hq hqB =>
    change_any d C B 25 _ (fun d : Fs => ({ d with files := d.files.insertIdx (lb d.files n) ⟨n, ByteArray.empty, 0⟩ } : Fs)) _ X (unhide HVX X hX) (enters_of Tryd.func25 (by kernel_rfl) rfl)
      (fun W' hg hS' => create11_any (spent d) C B _ q r (lb d.files n) n _ W' hS' (lb_le _ _) h10 hn (blk_grown (unhide HPX X hX) hg (by omega)) (blk_grown hq hg hqB) (blk_grown (unhide HRX X hX) hg (st_ne (unhide HRX X hX) (unhide HVX X hX).2.2.1))))
  clear hV hV1 hr1 kp hrow hR hgood hr hS hb0 HVX HPX HRX
  simp only [fsV] at HF
  generalize hat : lb d.files n = at_ at HF HCH
  obtain ⟨N, hN⟩ : ∃ N, N = d.files.length := ⟨_, rfl⟩
  rw [← hN] at HF HX h10 HROW
  clear hat
  by_cases hnm : named n = false
  · have hc : createC n d = (d, 1) := by unfold createC; rw [if_pos hnm]
    rw [hc]
    rw [hnm] at HNM
    generalize has d.files n = th at HF
    clear hc hnm hN HCH
    go_enter Tryd.func21, Tryd.ntmps21
    go_wp2
    refine wp_region_held_drew (S := fun w' => w'.cell? ⟨W.heap.size, 0, none⟩ = some (.pointer (some ⟨B, 0, none⟩)) ∧ w'.cell? ⟨r, 0, none⟩ = some (.string n) ∧ w'.cell? ⟨B, 0, none⟩ = some (.int .i64 d.room) ∧ w'.cell? ⟨B, 1, none⟩ = some (.slice a N cap) ∧ w'.cell? ⟨B, 2, none⟩ = some (.int .i64 d.fuse) ∧ w'.cell? ⟨B, 3, none⟩ = some (.int .i64 d.fault) ∧ w'.cell? ⟨B, 4, none⟩ = some (.bool d.down)) (by kernel_rfl) ?_ (fun hHeld => ?_)
    · exact unhide HX _ (below_dr1 (Below.refl _ _))
    refine wpAnyH_take (i := 0) (v := .pointer (some ⟨B, 0, none⟩)) rfl (by kernel_rfl) (by kernel_rfl) (by kernel_rfl) (fun _ _ _ h => h) (Or.inl ⟨by rfl, fun wS hSw => ?_⟩) (by assumption) ?_
    · (try dsimp only at hSw); go_simp
    (try simp only [Act.put, List.setIfInBounds_toArray, List.set_cons_zero, List.set_cons_succ])
    refine wpAnyH_take (i := 1) (v := .pointer (some ⟨B, 0, none⟩)) rfl (by kernel_rfl) (by kernel_rfl) (by kernel_rfl) (fun _ _ _ h => h) (Or.inl ⟨by rfl, fun wS hSw => ?_⟩) (by assumption) ?_
    · (try dsimp only at hSw); go_simp
    (try simp only [Act.put, List.setIfInBounds_toArray, List.set_cons_zero, List.set_cons_succ])
    refine wpAnyH_take (i := 2) (v := .agg #[.int .i64 d.room, .slice a N cap, .int .i64 d.fuse, .int .i64 d.fault, .bool d.down]) rfl (by kernel_rfl) (by kernel_rfl) (by kernel_rfl) (fun _ _ _ h => h) (Or.inl ⟨by rfl, fun wS hSw => ?_⟩) (by assumption) ?_
    · (try dsimp only at hSw); go_simp
    (try simp only [Act.put, List.setIfInBounds_toArray, List.set_cons_zero, List.set_cons_succ])
    refine wpAnyH_take (i := 3) (v := .string n) rfl (by kernel_rfl) (by kernel_rfl) (by kernel_rfl) (fun _ _ _ h => h) (Or.inl ⟨by rfl, fun wS hSw => ?_⟩) (by assumption) ?_
    · (try dsimp only at hSw); go_simp
    (try simp only [Act.put, List.setIfInBounds_toArray, List.set_cons_zero, List.set_cons_succ])
    refine wpAnyH_ready (rs := [4, 8]) (by kernel_rfl) (by simp) ?_
    refine (AllReadyH.cons rfl (fun K hK => ?_) (AllReadyH.cons rfl (fun K hK => ?_) AllReadyH.nil))
    · go_simp
      refine (unhide HF _ (unhide HROW (below_dr1 (Below.refl _ _)))).mono ?_
      rintro e w3 ⟨rfl, b3⟩
      have bw3 : Below (W.alloc (Obj.cells #[.pointer (some ⟨B, 0, none⟩)] 60)).heap.size (W.alloc (Obj.cells #[.pointer (some ⟨B, 0, none⟩)] 60)) w3 := ⟨b3.os, b3.tape, b3.output, b3.size, b3.block⟩
      clear b3
      go_wp2_with fail
      refine hK.out _ _ ?_ (fun hHeld => ?_)
      · exact unhide HX _ bw3
      clear hK K
      (try simp only [Act.put, List.setIfInBounds_toArray, List.set_cons_zero, List.set_cons_succ])
      refine wpAnyH_take (i := 5) (v := .tuple #[.int .i64 (at_ : Int), .bool th]) rfl (by kernel_rfl) (by kernel_rfl) (by kernel_rfl) (fun _ _ _ h => h) (Or.inl ⟨by rfl, fun wS hSw => ?_⟩) (by assumption) ?_
      · (try dsimp only at hSw); go_simp
      (try simp only [Act.put, List.setIfInBounds_toArray, List.set_cons_zero, List.set_cons_succ])
      refine wpAnyH_take (i := 6) (v := .int .i64 (at_ : Int)) rfl (by kernel_rfl) (by kernel_rfl) (by kernel_rfl) (fun _ _ _ h => h) (Or.inl ⟨by rfl, fun wS hSw => ?_⟩) (by assumption) ?_
      · (try dsimp only at hSw); go_simp
      (try simp only [Act.put, List.setIfInBounds_toArray, List.set_cons_zero, List.set_cons_succ])
      refine wpAnyH_take (i := 7) (v := .bool th) rfl (by kernel_rfl) (by kernel_rfl) (by kernel_rfl) (fun _ _ _ h => h) (Or.inl ⟨by rfl, fun wS hSw => ?_⟩) (by assumption) ?_
      · (try dsimp only at hSw); go_simp
      (try simp only [Act.put, List.setIfInBounds_toArray, List.set_cons_zero, List.set_cons_succ])
      refine wpAnyH_ready (rs := [8]) (by kernel_rfl) (by simp) ?_
      refine AllReadyH.cons rfl (fun K hK => ?_) AllReadyH.nil
      go_simp
      refine hK.out _ _ ?_ (fun hHeld => ?_)
      · exact unhide HX _ (bw3.alloc bw3.size _)
      clear hK K
      (try simp only [Act.put, List.setIfInBounds_toArray, List.set_cons_zero, List.set_cons_succ])
      refine wpAnyH_ready (rs := [9]) (by kernel_rfl) (by simp) ?_
      refine AllReadyH.cons rfl (fun K hK => ?_) AllReadyH.nil
      have h9 := (Blk.new w3 3 #[.int .i64 0]).cell 0
      simp only [List.getElem?_toArray, List.getElem?_cons_zero] at h9
      have h9f := (Blk.new w3 3 #[.int .i64 0]).frozen 0
      go_simp
      refine hK.out _ _ ?_ (fun hHeld => ?_)
      · exact unhide HX _ (bw3.alloc bw3.size _)
      clear hK K
      (try simp only [Act.put, List.setIfInBounds_toArray, List.set_cons_zero, List.set_cons_succ])
      refine wpAnyH_take (i := 10) (v := .bool th) rfl (by kernel_rfl) (by kernel_rfl) (by kernel_rfl) (fun _ _ _ h => h) (Or.inl ⟨by rfl, fun wS hSw => ?_⟩) (by assumption) ?_
      · (try dsimp only at hSw); go_simp
      (try simp only [Act.put, List.setIfInBounds_toArray, List.set_cons_zero, List.set_cons_succ])
      refine wpAnyH_done (by kernel_rfl) ?_ _
      have bX : Below (W.alloc (Obj.cells #[.pointer (some ⟨B, 0, none⟩)] 60)).heap.size (W.alloc (Obj.cells #[.pointer (some ⟨B, 0, none⟩)] 60)) (w3.alloc (Obj.cells #[.int .i64 (at_ : Int)] 3)) := bw3.alloc bw3.size _
      have kQ : Blk (w3.alloc (Obj.cells #[.int .i64 (at_ : Int)] 3)) (w3.heap.size) 3 #[.int .i64 (at_ : Int)] := Blk.new w3 3 #[.int .i64 (at_ : Int)]
      have nQ : B ≠ w3.heap.size := by have := bw3.size; simp at this; omega
      clear hHeld
      generalize (w3.alloc (Obj.cells #[.int .i64 (at_ : Int)] 3)) = X at bX kQ ⊢
      generalize w3.heap.size = q at kQ nQ ⊢
      have bX0 := hide (belows (unhide HB0) bX)
      obtain ⟨y1, y2, y3, y4, y5, y6, y7⟩ := unhide HX _ bX
      clear y3 y5 y6 y7
      go_wp2_with (go_at_call 23; refine (unhide HNM _).mono ?_; rintro e w4 ⟨rfl, h4⟩; subst h4)
      go_ret
      exact ⟨rfl, (unhide HS0).below (unhide bX0), (unhide bX0).mono (by omega)⟩
    · go_simp
      refine hK.out _ _ ?_ (fun hHeld => ?_)
      · exact unhide HX _ (below_dr1 ((Below.refl _ _).alloc (Nat.le_refl _) _))
      clear hK K
      (try simp only [Act.put, List.setIfInBounds_toArray, List.set_cons_zero, List.set_cons_succ])
      refine wpAnyH_ready (rs := [4]) (by kernel_rfl) (by simp) ?_
      refine AllReadyH.cons rfl (fun K hK => ?_) AllReadyH.nil
      go_simp
      refine (unhide HF _ (unhide HROW (below_dr1 ((Below.refl _ _).alloc (Nat.le_refl _) _)))).mono ?_
      rintro e w3 ⟨rfl, b3⟩
      have b4 : Below ((W.alloc (Obj.cells #[.pointer (some ⟨B, 0, none⟩)] 60)).alloc (Obj.cells #[.int .i64 0] 3)).heap.size ((W.alloc (Obj.cells #[.pointer (some ⟨B, 0, none⟩)] 60)).alloc (Obj.cells #[.int .i64 0] 3)) w3 := ⟨b3.os, b3.tape, b3.output, b3.size, b3.block⟩
      have bw3 : Below (W.alloc (Obj.cells #[.pointer (some ⟨B, 0, none⟩)] 60)).heap.size (W.alloc (Obj.cells #[.pointer (some ⟨B, 0, none⟩)] 60)) w3 := belows ((Below.refl _ _).alloc (Nat.le_refl _) _) b4
      have kq3 := (Blk.new (W.alloc (Obj.cells #[.pointer (some ⟨B, 0, none⟩)] 60)) 3 #[.int .i64 0]).below b4
      simp only [World.size_alloc] at kq3
      clear b3 b4
      go_wp2_with fail
      refine hK.out _ _ ?_ (fun hHeld => ?_)
      · exact unhide HX _ bw3
      clear hK K
      (try simp only [Act.put, List.setIfInBounds_toArray, List.set_cons_zero, List.set_cons_succ])
      refine wpAnyH_take (i := 5) (v := .tuple #[.int .i64 (at_ : Int), .bool th]) rfl (by kernel_rfl) (by kernel_rfl) (by kernel_rfl) (fun _ _ _ h => h) (Or.inl ⟨by rfl, fun wS hSw => ?_⟩) (by assumption) ?_
      · (try dsimp only at hSw); go_simp
      (try simp only [Act.put, List.setIfInBounds_toArray, List.set_cons_zero, List.set_cons_succ])
      refine wpAnyH_take (i := 6) (v := .int .i64 (at_ : Int)) rfl (by kernel_rfl) (by kernel_rfl) (by kernel_rfl) (fun _ _ _ h => h) (Or.inl ⟨by rfl, fun wS hSw => ?_⟩) (by assumption) ?_
      · (try dsimp only at hSw); go_simp
      (try simp only [Act.put, List.setIfInBounds_toArray, List.set_cons_zero, List.set_cons_succ])
      refine wpAnyH_take (i := 7) (v := .bool th) rfl (by kernel_rfl) (by kernel_rfl) (by kernel_rfl) (fun _ _ _ h => h) (Or.inl ⟨by rfl, fun wS hSw => ?_⟩) (by assumption) ?_
      · (try dsimp only at hSw); go_simp
      (try simp only [Act.put, List.setIfInBounds_toArray, List.set_cons_zero, List.set_cons_succ])
      refine wpAnyH_ready (rs := [9]) (by kernel_rfl) (by simp) ?_
      refine AllReadyH.cons rfl (fun K hK => ?_) AllReadyH.nil
      have h9 := kq3.cell 0
      simp only [List.getElem?_toArray, List.getElem?_cons_zero] at h9
      have h9f := kq3.frozen 0
      go_simp
      refine hK.out _ _ ?_ (fun hHeld => ?_)
      · exact unhide HX _ (bw3.setCell (p := ⟨W.heap.size + 1, 0, none⟩) (by simp) _)
      clear hK K
      (try simp only [Act.put, List.setIfInBounds_toArray, List.set_cons_zero, List.set_cons_succ])
      refine wpAnyH_take (i := 10) (v := .bool th) rfl (by kernel_rfl) (by kernel_rfl) (by kernel_rfl) (fun _ _ _ h => h) (Or.inl ⟨by rfl, fun wS hSw => ?_⟩) (by assumption) ?_
      · (try dsimp only at hSw); go_simp
      (try simp only [Act.put, List.setIfInBounds_toArray, List.set_cons_zero, List.set_cons_succ])
      refine wpAnyH_done (by kernel_rfl) ?_ _
      have bX : Below (W.alloc (Obj.cells #[.pointer (some ⟨B, 0, none⟩)] 60)).heap.size (W.alloc (Obj.cells #[.pointer (some ⟨B, 0, none⟩)] 60)) ((w3.setCell ⟨W.heap.size + 1, 0, none⟩ (.int .i64 (at_ : Int)))) := bw3.setCell (p := ⟨W.heap.size + 1, 0, none⟩) (by simp) _
      have kQ : Blk ((w3.setCell ⟨W.heap.size + 1, 0, none⟩ (.int .i64 (at_ : Int)))) (W.heap.size + 1) 3 #[.int .i64 (at_ : Int)] := kq3.set 0 _
      have nQ : B ≠ W.heap.size + 1 := by omega
      clear hHeld
      generalize ((w3.setCell ⟨W.heap.size + 1, 0, none⟩ (.int .i64 (at_ : Int)))) = X at bX kQ ⊢
      generalize W.heap.size + 1 = q at kQ nQ ⊢
      have bX0 := hide (belows (unhide HB0) bX)
      obtain ⟨y1, y2, y3, y4, y5, y6, y7⟩ := unhide HX _ bX
      clear y3 y5 y6 y7
      go_wp2_with (go_at_call 23; refine (unhide HNM _).mono ?_; rintro e w4 ⟨rfl, h4⟩; subst h4)
      go_ret
      exact ⟨rfl, (unhide HS0).below (unhide bX0), (unhide bX0).mono (by omega)⟩
  · have hnm' : named n = true := by simpa using hnm
    rw [hnm'] at HNM
    by_cases hh : has d.files n = true
    · have hc : createC n d = (d, 4) := by unfold createC; rw [if_neg hnm, if_pos hh]
      rw [hc]
      rw [hh] at HF
      clear hc hnm hnm' hN HCH hh
      go_enter Tryd.func21, Tryd.ntmps21
      go_wp2
      refine wp_region_held_drew (S := fun w' => w'.cell? ⟨W.heap.size, 0, none⟩ = some (.pointer (some ⟨B, 0, none⟩)) ∧ w'.cell? ⟨r, 0, none⟩ = some (.string n) ∧ w'.cell? ⟨B, 0, none⟩ = some (.int .i64 d.room) ∧ w'.cell? ⟨B, 1, none⟩ = some (.slice a N cap) ∧ w'.cell? ⟨B, 2, none⟩ = some (.int .i64 d.fuse) ∧ w'.cell? ⟨B, 3, none⟩ = some (.int .i64 d.fault) ∧ w'.cell? ⟨B, 4, none⟩ = some (.bool d.down)) (by kernel_rfl) ?_ (fun hHeld => ?_)
      · exact unhide HX _ (below_dr1 (Below.refl _ _))
      refine wpAnyH_take (i := 0) (v := .pointer (some ⟨B, 0, none⟩)) rfl (by kernel_rfl) (by kernel_rfl) (by kernel_rfl) (fun _ _ _ h => h) (Or.inl ⟨by rfl, fun wS hSw => ?_⟩) (by assumption) ?_
      · (try dsimp only at hSw); go_simp
      (try simp only [Act.put, List.setIfInBounds_toArray, List.set_cons_zero, List.set_cons_succ])
      refine wpAnyH_take (i := 1) (v := .pointer (some ⟨B, 0, none⟩)) rfl (by kernel_rfl) (by kernel_rfl) (by kernel_rfl) (fun _ _ _ h => h) (Or.inl ⟨by rfl, fun wS hSw => ?_⟩) (by assumption) ?_
      · (try dsimp only at hSw); go_simp
      (try simp only [Act.put, List.setIfInBounds_toArray, List.set_cons_zero, List.set_cons_succ])
      refine wpAnyH_take (i := 2) (v := .agg #[.int .i64 d.room, .slice a N cap, .int .i64 d.fuse, .int .i64 d.fault, .bool d.down]) rfl (by kernel_rfl) (by kernel_rfl) (by kernel_rfl) (fun _ _ _ h => h) (Or.inl ⟨by rfl, fun wS hSw => ?_⟩) (by assumption) ?_
      · (try dsimp only at hSw); go_simp
      (try simp only [Act.put, List.setIfInBounds_toArray, List.set_cons_zero, List.set_cons_succ])
      refine wpAnyH_take (i := 3) (v := .string n) rfl (by kernel_rfl) (by kernel_rfl) (by kernel_rfl) (fun _ _ _ h => h) (Or.inl ⟨by rfl, fun wS hSw => ?_⟩) (by assumption) ?_
      · (try dsimp only at hSw); go_simp
      (try simp only [Act.put, List.setIfInBounds_toArray, List.set_cons_zero, List.set_cons_succ])
      refine wpAnyH_ready (rs := [4, 8]) (by kernel_rfl) (by simp) ?_
      refine (AllReadyH.cons rfl (fun K hK => ?_) (AllReadyH.cons rfl (fun K hK => ?_) AllReadyH.nil))
      · go_simp
        refine (unhide HF _ (unhide HROW (below_dr1 (Below.refl _ _)))).mono ?_
        rintro e w3 ⟨rfl, b3⟩
        have bw3 : Below (W.alloc (Obj.cells #[.pointer (some ⟨B, 0, none⟩)] 60)).heap.size (W.alloc (Obj.cells #[.pointer (some ⟨B, 0, none⟩)] 60)) w3 := ⟨b3.os, b3.tape, b3.output, b3.size, b3.block⟩
        clear b3
        go_wp2_with fail
        refine hK.out _ _ ?_ (fun hHeld => ?_)
        · exact unhide HX _ bw3
        clear hK K
        (try simp only [Act.put, List.setIfInBounds_toArray, List.set_cons_zero, List.set_cons_succ])
        refine wpAnyH_take (i := 5) (v := .tuple #[.int .i64 (at_ : Int), .bool true]) rfl (by kernel_rfl) (by kernel_rfl) (by kernel_rfl) (fun _ _ _ h => h) (Or.inl ⟨by rfl, fun wS hSw => ?_⟩) (by assumption) ?_
        · (try dsimp only at hSw); go_simp
        (try simp only [Act.put, List.setIfInBounds_toArray, List.set_cons_zero, List.set_cons_succ])
        refine wpAnyH_take (i := 6) (v := .int .i64 (at_ : Int)) rfl (by kernel_rfl) (by kernel_rfl) (by kernel_rfl) (fun _ _ _ h => h) (Or.inl ⟨by rfl, fun wS hSw => ?_⟩) (by assumption) ?_
        · (try dsimp only at hSw); go_simp
        (try simp only [Act.put, List.setIfInBounds_toArray, List.set_cons_zero, List.set_cons_succ])
        refine wpAnyH_take (i := 7) (v := .bool true) rfl (by kernel_rfl) (by kernel_rfl) (by kernel_rfl) (fun _ _ _ h => h) (Or.inl ⟨by rfl, fun wS hSw => ?_⟩) (by assumption) ?_
        · (try dsimp only at hSw); go_simp
        (try simp only [Act.put, List.setIfInBounds_toArray, List.set_cons_zero, List.set_cons_succ])
        refine wpAnyH_ready (rs := [8]) (by kernel_rfl) (by simp) ?_
        refine AllReadyH.cons rfl (fun K hK => ?_) AllReadyH.nil
        go_simp
        refine hK.out _ _ ?_ (fun hHeld => ?_)
        · exact unhide HX _ (bw3.alloc bw3.size _)
        clear hK K
        (try simp only [Act.put, List.setIfInBounds_toArray, List.set_cons_zero, List.set_cons_succ])
        refine wpAnyH_ready (rs := [9]) (by kernel_rfl) (by simp) ?_
        refine AllReadyH.cons rfl (fun K hK => ?_) AllReadyH.nil
        have h9 := (Blk.new w3 3 #[.int .i64 0]).cell 0
        simp only [List.getElem?_toArray, List.getElem?_cons_zero] at h9
        have h9f := (Blk.new w3 3 #[.int .i64 0]).frozen 0
        go_simp
        refine hK.out _ _ ?_ (fun hHeld => ?_)
        · exact unhide HX _ (bw3.alloc bw3.size _)
        clear hK K
        (try simp only [Act.put, List.setIfInBounds_toArray, List.set_cons_zero, List.set_cons_succ])
        refine wpAnyH_take (i := 10) (v := .bool true) rfl (by kernel_rfl) (by kernel_rfl) (by kernel_rfl) (fun _ _ _ h => h) (Or.inl ⟨by rfl, fun wS hSw => ?_⟩) (by assumption) ?_
        · (try dsimp only at hSw); go_simp
        (try simp only [Act.put, List.setIfInBounds_toArray, List.set_cons_zero, List.set_cons_succ])
        refine wpAnyH_done (by kernel_rfl) ?_ _
        have bX : Below (W.alloc (Obj.cells #[.pointer (some ⟨B, 0, none⟩)] 60)).heap.size (W.alloc (Obj.cells #[.pointer (some ⟨B, 0, none⟩)] 60)) (w3.alloc (Obj.cells #[.int .i64 (at_ : Int)] 3)) := bw3.alloc bw3.size _
        have kQ : Blk (w3.alloc (Obj.cells #[.int .i64 (at_ : Int)] 3)) (w3.heap.size) 3 #[.int .i64 (at_ : Int)] := Blk.new w3 3 #[.int .i64 (at_ : Int)]
        have nQ : B ≠ w3.heap.size := by have := bw3.size; simp at this; omega
        clear hHeld
        generalize (w3.alloc (Obj.cells #[.int .i64 (at_ : Int)] 3)) = X at bX kQ ⊢
        generalize w3.heap.size = q at kQ nQ ⊢
        have bX0 := hide (belows (unhide HB0) bX)
        obtain ⟨y1, y2, y3, y4, y5, y6, y7⟩ := unhide HX _ bX
        clear y3 y5 y6 y7
        go_wp2_with (go_at_call 23; refine (unhide HNM _).mono ?_; rintro e w4 ⟨rfl, h4⟩; subst h4)
        go_ret
        exact ⟨rfl, (unhide HS0).below (unhide bX0), (unhide bX0).mono (by omega)⟩
      · go_simp
        refine hK.out _ _ ?_ (fun hHeld => ?_)
        · exact unhide HX _ (below_dr1 ((Below.refl _ _).alloc (Nat.le_refl _) _))
        clear hK K
        (try simp only [Act.put, List.setIfInBounds_toArray, List.set_cons_zero, List.set_cons_succ])
        refine wpAnyH_ready (rs := [4]) (by kernel_rfl) (by simp) ?_
        refine AllReadyH.cons rfl (fun K hK => ?_) AllReadyH.nil
        go_simp
        refine (unhide HF _ (unhide HROW (below_dr1 ((Below.refl _ _).alloc (Nat.le_refl _) _)))).mono ?_
        rintro e w3 ⟨rfl, b3⟩
        have b4 : Below ((W.alloc (Obj.cells #[.pointer (some ⟨B, 0, none⟩)] 60)).alloc (Obj.cells #[.int .i64 0] 3)).heap.size ((W.alloc (Obj.cells #[.pointer (some ⟨B, 0, none⟩)] 60)).alloc (Obj.cells #[.int .i64 0] 3)) w3 := ⟨b3.os, b3.tape, b3.output, b3.size, b3.block⟩
        have bw3 : Below (W.alloc (Obj.cells #[.pointer (some ⟨B, 0, none⟩)] 60)).heap.size (W.alloc (Obj.cells #[.pointer (some ⟨B, 0, none⟩)] 60)) w3 := belows ((Below.refl _ _).alloc (Nat.le_refl _) _) b4
        have kq3 := (Blk.new (W.alloc (Obj.cells #[.pointer (some ⟨B, 0, none⟩)] 60)) 3 #[.int .i64 0]).below b4
        simp only [World.size_alloc] at kq3
        clear b3 b4
        go_wp2_with fail
        refine hK.out _ _ ?_ (fun hHeld => ?_)
        · exact unhide HX _ bw3
        clear hK K
        (try simp only [Act.put, List.setIfInBounds_toArray, List.set_cons_zero, List.set_cons_succ])
        refine wpAnyH_take (i := 5) (v := .tuple #[.int .i64 (at_ : Int), .bool true]) rfl (by kernel_rfl) (by kernel_rfl) (by kernel_rfl) (fun _ _ _ h => h) (Or.inl ⟨by rfl, fun wS hSw => ?_⟩) (by assumption) ?_
        · (try dsimp only at hSw); go_simp
        (try simp only [Act.put, List.setIfInBounds_toArray, List.set_cons_zero, List.set_cons_succ])
        refine wpAnyH_take (i := 6) (v := .int .i64 (at_ : Int)) rfl (by kernel_rfl) (by kernel_rfl) (by kernel_rfl) (fun _ _ _ h => h) (Or.inl ⟨by rfl, fun wS hSw => ?_⟩) (by assumption) ?_
        · (try dsimp only at hSw); go_simp
        (try simp only [Act.put, List.setIfInBounds_toArray, List.set_cons_zero, List.set_cons_succ])
        refine wpAnyH_take (i := 7) (v := .bool true) rfl (by kernel_rfl) (by kernel_rfl) (by kernel_rfl) (fun _ _ _ h => h) (Or.inl ⟨by rfl, fun wS hSw => ?_⟩) (by assumption) ?_
        · (try dsimp only at hSw); go_simp
        (try simp only [Act.put, List.setIfInBounds_toArray, List.set_cons_zero, List.set_cons_succ])
        refine wpAnyH_ready (rs := [9]) (by kernel_rfl) (by simp) ?_
        refine AllReadyH.cons rfl (fun K hK => ?_) AllReadyH.nil
        have h9 := kq3.cell 0
        simp only [List.getElem?_toArray, List.getElem?_cons_zero] at h9
        have h9f := kq3.frozen 0
        go_simp
        refine hK.out _ _ ?_ (fun hHeld => ?_)
        · exact unhide HX _ (bw3.setCell (p := ⟨W.heap.size + 1, 0, none⟩) (by simp) _)
        clear hK K
        (try simp only [Act.put, List.setIfInBounds_toArray, List.set_cons_zero, List.set_cons_succ])
        refine wpAnyH_take (i := 10) (v := .bool true) rfl (by kernel_rfl) (by kernel_rfl) (by kernel_rfl) (fun _ _ _ h => h) (Or.inl ⟨by rfl, fun wS hSw => ?_⟩) (by assumption) ?_
        · (try dsimp only at hSw); go_simp
        (try simp only [Act.put, List.setIfInBounds_toArray, List.set_cons_zero, List.set_cons_succ])
        refine wpAnyH_done (by kernel_rfl) ?_ _
        have bX : Below (W.alloc (Obj.cells #[.pointer (some ⟨B, 0, none⟩)] 60)).heap.size (W.alloc (Obj.cells #[.pointer (some ⟨B, 0, none⟩)] 60)) ((w3.setCell ⟨W.heap.size + 1, 0, none⟩ (.int .i64 (at_ : Int)))) := bw3.setCell (p := ⟨W.heap.size + 1, 0, none⟩) (by simp) _
        have kQ : Blk ((w3.setCell ⟨W.heap.size + 1, 0, none⟩ (.int .i64 (at_ : Int)))) (W.heap.size + 1) 3 #[.int .i64 (at_ : Int)] := kq3.set 0 _
        have nQ : B ≠ W.heap.size + 1 := by omega
        clear hHeld
        generalize ((w3.setCell ⟨W.heap.size + 1, 0, none⟩ (.int .i64 (at_ : Int)))) = X at bX kQ ⊢
        generalize W.heap.size + 1 = q at kQ nQ ⊢
        have bX0 := hide (belows (unhide HB0) bX)
        obtain ⟨y1, y2, y3, y4, y5, y6, y7⟩ := unhide HX _ bX
        clear y3 y5 y6 y7
        go_wp2_with (go_at_call 23; refine (unhide HNM _).mono ?_; rintro e w4 ⟨rfl, h4⟩; subst h4)
        go_ret
        exact ⟨rfl, (unhide HS0).below (unhide bX0), (unhide bX0).mono (by omega)⟩
    · have hh' : has d.files n = false := by simpa using hh
      rw [hh'] at HF
      by_cases hf : d.files.length = 1024
      · have hc : createC n d = (d, 8) := by unfold createC; rw [if_neg hnm, if_neg hh, if_pos hf]
        rw [hc]
        rw [hf] at hN
        subst hN
        clear hc hnm hnm' HCH hh hh' hf h10
        go_enter Tryd.func21, Tryd.ntmps21
        go_wp2
        refine wp_region_held_drew (S := fun w' => w'.cell? ⟨W.heap.size, 0, none⟩ = some (.pointer (some ⟨B, 0, none⟩)) ∧ w'.cell? ⟨r, 0, none⟩ = some (.string n) ∧ w'.cell? ⟨B, 0, none⟩ = some (.int .i64 d.room) ∧ w'.cell? ⟨B, 1, none⟩ = some (.slice a 1024 cap) ∧ w'.cell? ⟨B, 2, none⟩ = some (.int .i64 d.fuse) ∧ w'.cell? ⟨B, 3, none⟩ = some (.int .i64 d.fault) ∧ w'.cell? ⟨B, 4, none⟩ = some (.bool d.down)) (by kernel_rfl) ?_ (fun hHeld => ?_)
        · exact unhide HX _ (below_dr1 (Below.refl _ _))
        refine wpAnyH_take (i := 0) (v := .pointer (some ⟨B, 0, none⟩)) rfl (by kernel_rfl) (by kernel_rfl) (by kernel_rfl) (fun _ _ _ h => h) (Or.inl ⟨by rfl, fun wS hSw => ?_⟩) (by assumption) ?_
        · (try dsimp only at hSw); go_simp
        (try simp only [Act.put, List.setIfInBounds_toArray, List.set_cons_zero, List.set_cons_succ])
        refine wpAnyH_take (i := 1) (v := .pointer (some ⟨B, 0, none⟩)) rfl (by kernel_rfl) (by kernel_rfl) (by kernel_rfl) (fun _ _ _ h => h) (Or.inl ⟨by rfl, fun wS hSw => ?_⟩) (by assumption) ?_
        · (try dsimp only at hSw); go_simp
        (try simp only [Act.put, List.setIfInBounds_toArray, List.set_cons_zero, List.set_cons_succ])
        refine wpAnyH_take (i := 2) (v := .agg #[.int .i64 d.room, .slice a 1024 cap, .int .i64 d.fuse, .int .i64 d.fault, .bool d.down]) rfl (by kernel_rfl) (by kernel_rfl) (by kernel_rfl) (fun _ _ _ h => h) (Or.inl ⟨by rfl, fun wS hSw => ?_⟩) (by assumption) ?_
        · (try dsimp only at hSw); go_simp
        (try simp only [Act.put, List.setIfInBounds_toArray, List.set_cons_zero, List.set_cons_succ])
        refine wpAnyH_take (i := 3) (v := .string n) rfl (by kernel_rfl) (by kernel_rfl) (by kernel_rfl) (fun _ _ _ h => h) (Or.inl ⟨by rfl, fun wS hSw => ?_⟩) (by assumption) ?_
        · (try dsimp only at hSw); go_simp
        (try simp only [Act.put, List.setIfInBounds_toArray, List.set_cons_zero, List.set_cons_succ])
        refine wpAnyH_ready (rs := [4, 8]) (by kernel_rfl) (by simp) ?_
        refine (AllReadyH.cons rfl (fun K hK => ?_) (AllReadyH.cons rfl (fun K hK => ?_) AllReadyH.nil))
        · go_simp
          refine (unhide HF _ (unhide HROW (below_dr1 (Below.refl _ _)))).mono ?_
          rintro e w3 ⟨rfl, b3⟩
          have bw3 : Below (W.alloc (Obj.cells #[.pointer (some ⟨B, 0, none⟩)] 60)).heap.size (W.alloc (Obj.cells #[.pointer (some ⟨B, 0, none⟩)] 60)) w3 := ⟨b3.os, b3.tape, b3.output, b3.size, b3.block⟩
          clear b3
          go_wp2_with fail
          refine hK.out _ _ ?_ (fun hHeld => ?_)
          · exact unhide HX _ bw3
          clear hK K
          (try simp only [Act.put, List.setIfInBounds_toArray, List.set_cons_zero, List.set_cons_succ])
          refine wpAnyH_take (i := 5) (v := .tuple #[.int .i64 (at_ : Int), .bool false]) rfl (by kernel_rfl) (by kernel_rfl) (by kernel_rfl) (fun _ _ _ h => h) (Or.inl ⟨by rfl, fun wS hSw => ?_⟩) (by assumption) ?_
          · (try dsimp only at hSw); go_simp
          (try simp only [Act.put, List.setIfInBounds_toArray, List.set_cons_zero, List.set_cons_succ])
          refine wpAnyH_take (i := 6) (v := .int .i64 (at_ : Int)) rfl (by kernel_rfl) (by kernel_rfl) (by kernel_rfl) (fun _ _ _ h => h) (Or.inl ⟨by rfl, fun wS hSw => ?_⟩) (by assumption) ?_
          · (try dsimp only at hSw); go_simp
          (try simp only [Act.put, List.setIfInBounds_toArray, List.set_cons_zero, List.set_cons_succ])
          refine wpAnyH_take (i := 7) (v := .bool false) rfl (by kernel_rfl) (by kernel_rfl) (by kernel_rfl) (fun _ _ _ h => h) (Or.inl ⟨by rfl, fun wS hSw => ?_⟩) (by assumption) ?_
          · (try dsimp only at hSw); go_simp
          (try simp only [Act.put, List.setIfInBounds_toArray, List.set_cons_zero, List.set_cons_succ])
          refine wpAnyH_ready (rs := [8]) (by kernel_rfl) (by simp) ?_
          refine AllReadyH.cons rfl (fun K hK => ?_) AllReadyH.nil
          go_simp
          refine hK.out _ _ ?_ (fun hHeld => ?_)
          · exact unhide HX _ (bw3.alloc bw3.size _)
          clear hK K
          (try simp only [Act.put, List.setIfInBounds_toArray, List.set_cons_zero, List.set_cons_succ])
          refine wpAnyH_ready (rs := [9]) (by kernel_rfl) (by simp) ?_
          refine AllReadyH.cons rfl (fun K hK => ?_) AllReadyH.nil
          have h9 := (Blk.new w3 3 #[.int .i64 0]).cell 0
          simp only [List.getElem?_toArray, List.getElem?_cons_zero] at h9
          have h9f := (Blk.new w3 3 #[.int .i64 0]).frozen 0
          go_simp
          refine hK.out _ _ ?_ (fun hHeld => ?_)
          · exact unhide HX _ (bw3.alloc bw3.size _)
          clear hK K
          (try simp only [Act.put, List.setIfInBounds_toArray, List.set_cons_zero, List.set_cons_succ])
          refine wpAnyH_take (i := 10) (v := .bool false) rfl (by kernel_rfl) (by kernel_rfl) (by kernel_rfl) (fun _ _ _ h => h) (Or.inl ⟨by rfl, fun wS hSw => ?_⟩) (by assumption) ?_
          · (try dsimp only at hSw); go_simp
          (try simp only [Act.put, List.setIfInBounds_toArray, List.set_cons_zero, List.set_cons_succ])
          refine wpAnyH_done (by kernel_rfl) ?_ _
          have bX : Below (W.alloc (Obj.cells #[.pointer (some ⟨B, 0, none⟩)] 60)).heap.size (W.alloc (Obj.cells #[.pointer (some ⟨B, 0, none⟩)] 60)) (w3.alloc (Obj.cells #[.int .i64 (at_ : Int)] 3)) := bw3.alloc bw3.size _
          have kQ : Blk (w3.alloc (Obj.cells #[.int .i64 (at_ : Int)] 3)) (w3.heap.size) 3 #[.int .i64 (at_ : Int)] := Blk.new w3 3 #[.int .i64 (at_ : Int)]
          have nQ : B ≠ w3.heap.size := by have := bw3.size; simp at this; omega
          clear hHeld
          generalize (w3.alloc (Obj.cells #[.int .i64 (at_ : Int)] 3)) = X at bX kQ ⊢
          generalize w3.heap.size = q at kQ nQ ⊢
          have bX0 := hide (belows (unhide HB0) bX)
          obtain ⟨y1, y2, y3, y4, y5, y6, y7⟩ := unhide HX _ bX
          clear y3 y5 y6 y7
          go_wp2_with (go_at_call 23; refine (unhide HNM _).mono ?_; rintro e w4 ⟨rfl, h4⟩; subst h4)
          go_ret
          exact ⟨rfl, (unhide HS0).below (unhide bX0), (unhide bX0).mono (by omega)⟩
        · go_simp
          refine hK.out _ _ ?_ (fun hHeld => ?_)
          · exact unhide HX _ (below_dr1 ((Below.refl _ _).alloc (Nat.le_refl _) _))
          clear hK K
          (try simp only [Act.put, List.setIfInBounds_toArray, List.set_cons_zero, List.set_cons_succ])
          refine wpAnyH_ready (rs := [4]) (by kernel_rfl) (by simp) ?_
          refine AllReadyH.cons rfl (fun K hK => ?_) AllReadyH.nil
          go_simp
          refine (unhide HF _ (unhide HROW (below_dr1 ((Below.refl _ _).alloc (Nat.le_refl _) _)))).mono ?_
          rintro e w3 ⟨rfl, b3⟩
          have b4 : Below ((W.alloc (Obj.cells #[.pointer (some ⟨B, 0, none⟩)] 60)).alloc (Obj.cells #[.int .i64 0] 3)).heap.size ((W.alloc (Obj.cells #[.pointer (some ⟨B, 0, none⟩)] 60)).alloc (Obj.cells #[.int .i64 0] 3)) w3 := ⟨b3.os, b3.tape, b3.output, b3.size, b3.block⟩
          have bw3 : Below (W.alloc (Obj.cells #[.pointer (some ⟨B, 0, none⟩)] 60)).heap.size (W.alloc (Obj.cells #[.pointer (some ⟨B, 0, none⟩)] 60)) w3 := belows ((Below.refl _ _).alloc (Nat.le_refl _) _) b4
          have kq3 := (Blk.new (W.alloc (Obj.cells #[.pointer (some ⟨B, 0, none⟩)] 60)) 3 #[.int .i64 0]).below b4
          simp only [World.size_alloc] at kq3
          clear b3 b4
          go_wp2_with fail
          refine hK.out _ _ ?_ (fun hHeld => ?_)
          · exact unhide HX _ bw3
          clear hK K
          (try simp only [Act.put, List.setIfInBounds_toArray, List.set_cons_zero, List.set_cons_succ])
          refine wpAnyH_take (i := 5) (v := .tuple #[.int .i64 (at_ : Int), .bool false]) rfl (by kernel_rfl) (by kernel_rfl) (by kernel_rfl) (fun _ _ _ h => h) (Or.inl ⟨by rfl, fun wS hSw => ?_⟩) (by assumption) ?_
          · (try dsimp only at hSw); go_simp
          (try simp only [Act.put, List.setIfInBounds_toArray, List.set_cons_zero, List.set_cons_succ])
          refine wpAnyH_take (i := 6) (v := .int .i64 (at_ : Int)) rfl (by kernel_rfl) (by kernel_rfl) (by kernel_rfl) (fun _ _ _ h => h) (Or.inl ⟨by rfl, fun wS hSw => ?_⟩) (by assumption) ?_
          · (try dsimp only at hSw); go_simp
          (try simp only [Act.put, List.setIfInBounds_toArray, List.set_cons_zero, List.set_cons_succ])
          refine wpAnyH_take (i := 7) (v := .bool false) rfl (by kernel_rfl) (by kernel_rfl) (by kernel_rfl) (fun _ _ _ h => h) (Or.inl ⟨by rfl, fun wS hSw => ?_⟩) (by assumption) ?_
          · (try dsimp only at hSw); go_simp
          (try simp only [Act.put, List.setIfInBounds_toArray, List.set_cons_zero, List.set_cons_succ])
          refine wpAnyH_ready (rs := [9]) (by kernel_rfl) (by simp) ?_
          refine AllReadyH.cons rfl (fun K hK => ?_) AllReadyH.nil
          have h9 := kq3.cell 0
          simp only [List.getElem?_toArray, List.getElem?_cons_zero] at h9
          have h9f := kq3.frozen 0
          go_simp
          refine hK.out _ _ ?_ (fun hHeld => ?_)
          · exact unhide HX _ (bw3.setCell (p := ⟨W.heap.size + 1, 0, none⟩) (by simp) _)
          clear hK K
          (try simp only [Act.put, List.setIfInBounds_toArray, List.set_cons_zero, List.set_cons_succ])
          refine wpAnyH_take (i := 10) (v := .bool false) rfl (by kernel_rfl) (by kernel_rfl) (by kernel_rfl) (fun _ _ _ h => h) (Or.inl ⟨by rfl, fun wS hSw => ?_⟩) (by assumption) ?_
          · (try dsimp only at hSw); go_simp
          (try simp only [Act.put, List.setIfInBounds_toArray, List.set_cons_zero, List.set_cons_succ])
          refine wpAnyH_done (by kernel_rfl) ?_ _
          have bX : Below (W.alloc (Obj.cells #[.pointer (some ⟨B, 0, none⟩)] 60)).heap.size (W.alloc (Obj.cells #[.pointer (some ⟨B, 0, none⟩)] 60)) ((w3.setCell ⟨W.heap.size + 1, 0, none⟩ (.int .i64 (at_ : Int)))) := bw3.setCell (p := ⟨W.heap.size + 1, 0, none⟩) (by simp) _
          have kQ : Blk ((w3.setCell ⟨W.heap.size + 1, 0, none⟩ (.int .i64 (at_ : Int)))) (W.heap.size + 1) 3 #[.int .i64 (at_ : Int)] := kq3.set 0 _
          have nQ : B ≠ W.heap.size + 1 := by omega
          clear hHeld
          generalize ((w3.setCell ⟨W.heap.size + 1, 0, none⟩ (.int .i64 (at_ : Int)))) = X at bX kQ ⊢
          generalize W.heap.size + 1 = q at kQ nQ ⊢
          have bX0 := hide (belows (unhide HB0) bX)
          obtain ⟨y1, y2, y3, y4, y5, y6, y7⟩ := unhide HX _ bX
          clear y3 y5 y6 y7
          go_wp2_with (go_at_call 23; refine (unhide HNM _).mono ?_; rintro e w4 ⟨rfl, h4⟩; subst h4)
          go_ret
          exact ⟨rfl, (unhide HS0).below (unhide bX0), (unhide bX0).mono (by omega)⟩
      · have hc : createC n d = changeR d (fun d : Fs => ({ d with files := d.files.insertIdx (lb d.files n) ⟨n, ByteArray.empty, 0⟩ } : Fs)) := by unfold createC; rw [if_neg hnm, if_neg hh, if_neg hf]
        rw [hc]
        generalize changeR d (fun d : Fs => ({ d with files := d.files.insertIdx (lb d.files n) ⟨n, ByteArray.empty, 0⟩ } : Fs)) = res at HCH ⊢
        obtain ⟨d5, n5⟩ := res
        simp only at HCH ⊢
        have hNe : ((N : Int) == 1024) = false := by simp; omega
        clear hc hnm hnm' hh hh' hN hf
        go_enter Tryd.func21, Tryd.ntmps21
        go_wp2
        refine wp_region_held_drew (S := fun w' => w'.cell? ⟨W.heap.size, 0, none⟩ = some (.pointer (some ⟨B, 0, none⟩)) ∧ w'.cell? ⟨r, 0, none⟩ = some (.string n) ∧ w'.cell? ⟨B, 0, none⟩ = some (.int .i64 d.room) ∧ w'.cell? ⟨B, 1, none⟩ = some (.slice a N cap) ∧ w'.cell? ⟨B, 2, none⟩ = some (.int .i64 d.fuse) ∧ w'.cell? ⟨B, 3, none⟩ = some (.int .i64 d.fault) ∧ w'.cell? ⟨B, 4, none⟩ = some (.bool d.down)) (by kernel_rfl) ?_ (fun hHeld => ?_)
        · exact unhide HX _ (below_dr1 (Below.refl _ _))
        refine wpAnyH_take (i := 0) (v := .pointer (some ⟨B, 0, none⟩)) rfl (by kernel_rfl) (by kernel_rfl) (by kernel_rfl) (fun _ _ _ h => h) (Or.inl ⟨by rfl, fun wS hSw => ?_⟩) (by assumption) ?_
        · (try dsimp only at hSw); go_simp
        (try simp only [Act.put, List.setIfInBounds_toArray, List.set_cons_zero, List.set_cons_succ])
        refine wpAnyH_take (i := 1) (v := .pointer (some ⟨B, 0, none⟩)) rfl (by kernel_rfl) (by kernel_rfl) (by kernel_rfl) (fun _ _ _ h => h) (Or.inl ⟨by rfl, fun wS hSw => ?_⟩) (by assumption) ?_
        · (try dsimp only at hSw); go_simp
        (try simp only [Act.put, List.setIfInBounds_toArray, List.set_cons_zero, List.set_cons_succ])
        refine wpAnyH_take (i := 2) (v := .agg #[.int .i64 d.room, .slice a N cap, .int .i64 d.fuse, .int .i64 d.fault, .bool d.down]) rfl (by kernel_rfl) (by kernel_rfl) (by kernel_rfl) (fun _ _ _ h => h) (Or.inl ⟨by rfl, fun wS hSw => ?_⟩) (by assumption) ?_
        · (try dsimp only at hSw); go_simp
        (try simp only [Act.put, List.setIfInBounds_toArray, List.set_cons_zero, List.set_cons_succ])
        refine wpAnyH_take (i := 3) (v := .string n) rfl (by kernel_rfl) (by kernel_rfl) (by kernel_rfl) (fun _ _ _ h => h) (Or.inl ⟨by rfl, fun wS hSw => ?_⟩) (by assumption) ?_
        · (try dsimp only at hSw); go_simp
        (try simp only [Act.put, List.setIfInBounds_toArray, List.set_cons_zero, List.set_cons_succ])
        refine wpAnyH_ready (rs := [4, 8]) (by kernel_rfl) (by simp) ?_
        refine (AllReadyH.cons rfl (fun K hK => ?_) (AllReadyH.cons rfl (fun K hK => ?_) AllReadyH.nil))
        · go_simp
          refine (unhide HF _ (unhide HROW (below_dr1 (Below.refl _ _)))).mono ?_
          rintro e w3 ⟨rfl, b3⟩
          have bw3 : Below (W.alloc (Obj.cells #[.pointer (some ⟨B, 0, none⟩)] 60)).heap.size (W.alloc (Obj.cells #[.pointer (some ⟨B, 0, none⟩)] 60)) w3 := ⟨b3.os, b3.tape, b3.output, b3.size, b3.block⟩
          clear b3
          go_wp2_with fail
          refine hK.out _ _ ?_ (fun hHeld => ?_)
          · exact unhide HX _ bw3
          clear hK K
          (try simp only [Act.put, List.setIfInBounds_toArray, List.set_cons_zero, List.set_cons_succ])
          refine wpAnyH_take (i := 5) (v := .tuple #[.int .i64 (at_ : Int), .bool false]) rfl (by kernel_rfl) (by kernel_rfl) (by kernel_rfl) (fun _ _ _ h => h) (Or.inl ⟨by rfl, fun wS hSw => ?_⟩) (by assumption) ?_
          · (try dsimp only at hSw); go_simp
          (try simp only [Act.put, List.setIfInBounds_toArray, List.set_cons_zero, List.set_cons_succ])
          refine wpAnyH_take (i := 6) (v := .int .i64 (at_ : Int)) rfl (by kernel_rfl) (by kernel_rfl) (by kernel_rfl) (fun _ _ _ h => h) (Or.inl ⟨by rfl, fun wS hSw => ?_⟩) (by assumption) ?_
          · (try dsimp only at hSw); go_simp
          (try simp only [Act.put, List.setIfInBounds_toArray, List.set_cons_zero, List.set_cons_succ])
          refine wpAnyH_take (i := 7) (v := .bool false) rfl (by kernel_rfl) (by kernel_rfl) (by kernel_rfl) (fun _ _ _ h => h) (Or.inl ⟨by rfl, fun wS hSw => ?_⟩) (by assumption) ?_
          · (try dsimp only at hSw); go_simp
          (try simp only [Act.put, List.setIfInBounds_toArray, List.set_cons_zero, List.set_cons_succ])
          refine wpAnyH_ready (rs := [8]) (by kernel_rfl) (by simp) ?_
          refine AllReadyH.cons rfl (fun K hK => ?_) AllReadyH.nil
          go_simp
          refine hK.out _ _ ?_ (fun hHeld => ?_)
          · exact unhide HX _ (bw3.alloc bw3.size _)
          clear hK K
          (try simp only [Act.put, List.setIfInBounds_toArray, List.set_cons_zero, List.set_cons_succ])
          refine wpAnyH_ready (rs := [9]) (by kernel_rfl) (by simp) ?_
          refine AllReadyH.cons rfl (fun K hK => ?_) AllReadyH.nil
          have h9 := (Blk.new w3 3 #[.int .i64 0]).cell 0
          simp only [List.getElem?_toArray, List.getElem?_cons_zero] at h9
          have h9f := (Blk.new w3 3 #[.int .i64 0]).frozen 0
          go_simp
          refine hK.out _ _ ?_ (fun hHeld => ?_)
          · exact unhide HX _ (bw3.alloc bw3.size _)
          clear hK K
          (try simp only [Act.put, List.setIfInBounds_toArray, List.set_cons_zero, List.set_cons_succ])
          refine wpAnyH_take (i := 10) (v := .bool false) rfl (by kernel_rfl) (by kernel_rfl) (by kernel_rfl) (fun _ _ _ h => h) (Or.inl ⟨by rfl, fun wS hSw => ?_⟩) (by assumption) ?_
          · (try dsimp only at hSw); go_simp
          (try simp only [Act.put, List.setIfInBounds_toArray, List.set_cons_zero, List.set_cons_succ])
          refine wpAnyH_done (by kernel_rfl) ?_ _
          have bX : Below (W.alloc (Obj.cells #[.pointer (some ⟨B, 0, none⟩)] 60)).heap.size (W.alloc (Obj.cells #[.pointer (some ⟨B, 0, none⟩)] 60)) (w3.alloc (Obj.cells #[.int .i64 (at_ : Int)] 3)) := bw3.alloc bw3.size _
          have kQ : Blk (w3.alloc (Obj.cells #[.int .i64 (at_ : Int)] 3)) (w3.heap.size) 3 #[.int .i64 (at_ : Int)] := Blk.new w3 3 #[.int .i64 (at_ : Int)]
          have nQ : B ≠ w3.heap.size := by have := bw3.size; simp at this; omega
          clear hHeld
          generalize (w3.alloc (Obj.cells #[.int .i64 (at_ : Int)] 3)) = X at bX kQ ⊢
          generalize w3.heap.size = q at kQ nQ ⊢
          have bX0 := hide (belows (unhide HB0) bX)
          obtain ⟨y1, y2, y3, y4, y5, y6, y7⟩ := unhide HX _ bX
          clear y3 y5 y6 y7
          have HCC := hide (unhide HCH _ q bX kQ (fun e => nQ e.symm))
          have hCX : C ≤ X.heap.size := by have := (unhide bX0).size; omega
          clear bX kQ nQ
          go_wp2_with (first | (go_at_call 23; refine (unhide HNM _).mono ?_; rintro e w4 ⟨rfl, h4⟩; subst h4) | (go_at_call 24; refine (unhide HCC).mono ?_; rintro e w5 ⟨rfl, s5, b5⟩; have S5 := hide s5; have B5 := hide (((unhide bX0).mono (show C ≤ W.heap.size by omega)).trans b5); clear s5 b5))
          go_ret
          exact ⟨rfl, unhide S5, unhide B5⟩
        · go_simp
          refine hK.out _ _ ?_ (fun hHeld => ?_)
          · exact unhide HX _ (below_dr1 ((Below.refl _ _).alloc (Nat.le_refl _) _))
          clear hK K
          (try simp only [Act.put, List.setIfInBounds_toArray, List.set_cons_zero, List.set_cons_succ])
          refine wpAnyH_ready (rs := [4]) (by kernel_rfl) (by simp) ?_
          refine AllReadyH.cons rfl (fun K hK => ?_) AllReadyH.nil
          go_simp
          refine (unhide HF _ (unhide HROW (below_dr1 ((Below.refl _ _).alloc (Nat.le_refl _) _)))).mono ?_
          rintro e w3 ⟨rfl, b3⟩
          have b4 : Below ((W.alloc (Obj.cells #[.pointer (some ⟨B, 0, none⟩)] 60)).alloc (Obj.cells #[.int .i64 0] 3)).heap.size ((W.alloc (Obj.cells #[.pointer (some ⟨B, 0, none⟩)] 60)).alloc (Obj.cells #[.int .i64 0] 3)) w3 := ⟨b3.os, b3.tape, b3.output, b3.size, b3.block⟩
          have bw3 : Below (W.alloc (Obj.cells #[.pointer (some ⟨B, 0, none⟩)] 60)).heap.size (W.alloc (Obj.cells #[.pointer (some ⟨B, 0, none⟩)] 60)) w3 := belows ((Below.refl _ _).alloc (Nat.le_refl _) _) b4
          have kq3 := (Blk.new (W.alloc (Obj.cells #[.pointer (some ⟨B, 0, none⟩)] 60)) 3 #[.int .i64 0]).below b4
          simp only [World.size_alloc] at kq3
          clear b3 b4
          go_wp2_with fail
          refine hK.out _ _ ?_ (fun hHeld => ?_)
          · exact unhide HX _ bw3
          clear hK K
          (try simp only [Act.put, List.setIfInBounds_toArray, List.set_cons_zero, List.set_cons_succ])
          refine wpAnyH_take (i := 5) (v := .tuple #[.int .i64 (at_ : Int), .bool false]) rfl (by kernel_rfl) (by kernel_rfl) (by kernel_rfl) (fun _ _ _ h => h) (Or.inl ⟨by rfl, fun wS hSw => ?_⟩) (by assumption) ?_
          · (try dsimp only at hSw); go_simp
          (try simp only [Act.put, List.setIfInBounds_toArray, List.set_cons_zero, List.set_cons_succ])
          refine wpAnyH_take (i := 6) (v := .int .i64 (at_ : Int)) rfl (by kernel_rfl) (by kernel_rfl) (by kernel_rfl) (fun _ _ _ h => h) (Or.inl ⟨by rfl, fun wS hSw => ?_⟩) (by assumption) ?_
          · (try dsimp only at hSw); go_simp
          (try simp only [Act.put, List.setIfInBounds_toArray, List.set_cons_zero, List.set_cons_succ])
          refine wpAnyH_take (i := 7) (v := .bool false) rfl (by kernel_rfl) (by kernel_rfl) (by kernel_rfl) (fun _ _ _ h => h) (Or.inl ⟨by rfl, fun wS hSw => ?_⟩) (by assumption) ?_
          · (try dsimp only at hSw); go_simp
          (try simp only [Act.put, List.setIfInBounds_toArray, List.set_cons_zero, List.set_cons_succ])
          refine wpAnyH_ready (rs := [9]) (by kernel_rfl) (by simp) ?_
          refine AllReadyH.cons rfl (fun K hK => ?_) AllReadyH.nil
          have h9 := kq3.cell 0
          simp only [List.getElem?_toArray, List.getElem?_cons_zero] at h9
          have h9f := kq3.frozen 0
          go_simp
          refine hK.out _ _ ?_ (fun hHeld => ?_)
          · exact unhide HX _ (bw3.setCell (p := ⟨W.heap.size + 1, 0, none⟩) (by simp) _)
          clear hK K
          (try simp only [Act.put, List.setIfInBounds_toArray, List.set_cons_zero, List.set_cons_succ])
          refine wpAnyH_take (i := 10) (v := .bool false) rfl (by kernel_rfl) (by kernel_rfl) (by kernel_rfl) (fun _ _ _ h => h) (Or.inl ⟨by rfl, fun wS hSw => ?_⟩) (by assumption) ?_
          · (try dsimp only at hSw); go_simp
          (try simp only [Act.put, List.setIfInBounds_toArray, List.set_cons_zero, List.set_cons_succ])
          refine wpAnyH_done (by kernel_rfl) ?_ _
          have bX : Below (W.alloc (Obj.cells #[.pointer (some ⟨B, 0, none⟩)] 60)).heap.size (W.alloc (Obj.cells #[.pointer (some ⟨B, 0, none⟩)] 60)) ((w3.setCell ⟨W.heap.size + 1, 0, none⟩ (.int .i64 (at_ : Int)))) := bw3.setCell (p := ⟨W.heap.size + 1, 0, none⟩) (by simp) _
          have kQ : Blk ((w3.setCell ⟨W.heap.size + 1, 0, none⟩ (.int .i64 (at_ : Int)))) (W.heap.size + 1) 3 #[.int .i64 (at_ : Int)] := kq3.set 0 _
          have nQ : B ≠ W.heap.size + 1 := by omega
          clear hHeld
          generalize ((w3.setCell ⟨W.heap.size + 1, 0, none⟩ (.int .i64 (at_ : Int)))) = X at bX kQ ⊢
          generalize W.heap.size + 1 = q at kQ nQ ⊢
          have bX0 := hide (belows (unhide HB0) bX)
          obtain ⟨y1, y2, y3, y4, y5, y6, y7⟩ := unhide HX _ bX
          clear y3 y5 y6 y7
          have HCC := hide (unhide HCH _ q bX kQ (fun e => nQ e.symm))
          have hCX : C ≤ X.heap.size := by have := (unhide bX0).size; omega
          clear bX kQ nQ
          go_wp2_with (first | (go_at_call 23; refine (unhide HNM _).mono ?_; rintro e w4 ⟨rfl, h4⟩; subst h4) | (go_at_call 24; refine (unhide HCC).mono ?_; rintro e w5 ⟨rfl, s5, b5⟩; have S5 := hide s5; have B5 := hide (((unhide bX0).mono (show C ≤ W.heap.size by omega)).trans b5); clear s5 b5))
          go_ret
          exact ⟨rfl, unhide S5, unhide B5⟩
set_option maxHeartbeats 2000000 in
set_option maxRecDepth 100000 in
theorem create_any (d : Fs) (v : Value) (n : ByteArray) (w : World) (hfit : FitAll d) (h : RowF w v d.files) (hn : n.size ≤ 281474976710656) :
    Calls Tryd.prog 7 #[fsV d v, .string n] w fun e w' => ∃ v', e = .returned (.tuple #[fsV (createR d n).1 v', .int .i64 (createR d n).2]) ∧ RowF w' v' (createR d n).1.files ∧ FitAll (createR d n).1 ∧ Below w.heap.size w w' := by
  have hb : Below w.heap.size w (((w.alloc (Obj.cells #[.int .i64 d.room, v, .int .i64 d.fuse, .int .i64 d.fault, .bool d.down] 31)).alloc (Obj.cells #[.string n] 9)).alloc (Obj.cells #[.int .i64 0, .slice none 0 0, .int .i64 0, .int .i64 0, .bool false] 31)) := ((((Below.refl _ w).alloc (by first | omega | (simp only [World.size_alloc]; omega)) (Obj.cells #[.int .i64 d.room, v, .int .i64 d.fuse, .int .i64 d.fault, .bool d.down] 31)).alloc (by first | omega | (simp only [World.size_alloc]; omega)) (Obj.cells #[.string n] 9)).alloc (by first | omega | (simp only [World.size_alloc]; omega)) (Obj.cells #[.int .i64 0, .slice none 0 0, .int .i64 0, .int .i64 0, .bool false] 31))
  have q1 := ((Blk.new (w.alloc (Obj.cells #[.int .i64 d.room, v, .int .i64 d.fuse, .int .i64 d.fault, .bool d.down] 31)) 9 #[.string n]).below ((Below.refl _ _).alloc (Nat.le_refl _) (Obj.cells #[.int .i64 0, .slice none 0 0, .int .i64 0, .int .i64 0, .bool false] 31)))
  simp only [World.size_alloc] at q1
  have hsz : (((w.alloc (Obj.cells #[.int .i64 d.room, v, .int .i64 d.fuse, .int .i64 d.fault, .bool d.down] 31)).alloc (Obj.cells #[.string n] 9)).alloc (Obj.cells #[.int .i64 0, .slice none 0 0, .int .i64 0, .int .i64 0, .bool false] 31)).heap.size = w.heap.size + 1 + 1 + 1 := by simp only [World.size_alloc]
  have HW := hide (work_any d v 21 #[.pointer (some ⟨w.heap.size + 1, 0, none⟩)] (createC n) (((w.alloc (Obj.cells #[.int .i64 d.room, v, .int .i64 d.fuse, .int .i64 d.fault, .bool d.down] 31)).alloc (Obj.cells #[.string n] 9)).alloc (Obj.cells #[.int .i64 0, .slice none 0 0, .int .i64 0, .int .i64 0, .bool false] 31)) hfit (h.below hb) (enters_of Tryd.func21 (by kernel_rfl) rfl) (fun hg W C B hC hB hS => create1_any d n W C B _ hg hn hS (q1.below hB)))
  have z := Blk.new ((w.alloc (Obj.cells #[.int .i64 d.room, v, .int .i64 d.fuse, .int .i64 d.fault, .bool d.down] 31)).alloc (Obj.cells #[.string n] 9)) 31 #[.int .i64 0, .slice none 0 0, .int .i64 0, .int .i64 0, .bool false]
  simp only [World.size_alloc] at z
  have HZ := hide z
  have HB := hide hb
  obtain ⟨a, cap, rfl, _, _, _⟩ := h
  clear z hb hsz q1
  have hres : createR d n = workR d (createC n) := rfl
  rw [hres]
  clear hres
  generalize workR d (createC n) = res at HW ⊢
  obtain ⟨d5, n5⟩ := res
  simp only [fsV] at HW ⊢
  go_enter Tryd.func7, Tryd.ntmps7
  go_wp2_with fail
  refine (unhide HW).mono ?_
  rintro e w5 ⟨v5, rfl, hrow5, hfit5, b5⟩
  have k := (unhide HZ).below b5
  have RB := hide (below5 (s := w.heap.size + 1 + 1) ((unhide HB).trans (b5.mono (unhide HB).size)) (by omega))
  have RR := hide (rowF5 hrow5 k (by intro i x; match i with | 0 | 1 | 2 | 3 | 4 => simp | i + 5 => simp))
  have HF5 := hide hfit5
  have e0 := k.cell 0
  have e1 := k.cell 1
  have e2 := k.cell 2
  have e3 := k.cell 3
  have e4 := k.cell 4
  have f0 := k.frozen 0
  have f1 := k.frozen 1
  have f2 := k.frozen 2
  have f3 := k.frozen 3
  have f4 := k.frozen 4
  simp only [List.getElem?_toArray, List.getElem?_cons_succ, List.getElem?_cons_zero] at e0 e1 e2 e3 e4
  obtain ⟨a5, cap5, rfl, _, _, _⟩ := hrow5
  clear k b5 hfit5 HW
  go_wp2
  (try simp only [Exit.inBlock, Exit.then])
  refine bodyPost_ret (v := .tuple #[.agg #[.int .i64 d5.room, .slice a5 d5.files.length cap5, .int .i64 d5.fuse, .int .i64 d5.fault, .bool d5.down], .int .i64 n5]) ?_ rfl ⟨_, rfl, unhide RR _ _ _ _ _, unhide HF5, unhide RB _ _ _ _ _⟩
  rw [results_cell_tmp rfl]
  go_simp
end Go.Proofs.YtpfmhlldkikbjaaDoor

/-
  What disk.Append does, over this seat's program.
-/
set_option linter.unusedVariables false
set_option linter.unusedSimpArgs false
namespace Go.Proofs.YtpfmhlldkikbjaaDoor
open Go.RowKit Go.Proofs.Dsk

theorem SysV.fileM {w : World} {C B g m cap i k : Nat} {d : Fs} {f : File} {u : Value} (h : SysV w C B (.slice (some ⟨g, 0, none⟩) m cap) d) (hm : d.files.length = m) (hi : i < d.files.length) (hk : k < 3) (hx : cellsF f = (cellsF d.files[i]).set k u) (hf : Fits f) :
    SysV (w.setCell ⟨g, i * 3 + k, none⟩ u) C B (.slice (some ⟨g, 0, none⟩) m cap) { d with files := d.files.set i f } := by
  subst hm
  have h1 := h.file hi hk hx hf
  rw [List.length_set] at h1
  exact h1
def putF (data : List ByteArray) (f : File) : File := { f with data := joinB f.data data }
theorem fits_put {data : List ByteArray} {f : File} (h : Fits f) (hs : f.data.size + total data ≤ 1099511627776) : Fits (putF data f) := ⟨h.1, by show (joinB f.data data).size ≤ _; rw [joinB_size]; omega, h.2.2⟩
theorem putAt_set {d : Fs} {i : Nat} (h : i < d.files.length) (data : List ByteArray) : putAt i data d = { d with files := d.files.set i (putF data d.files[i]) } := by
  unfold putAt
  rw [show (fun f : File => ({ f with data := joinB f.data data } : File)) = putF data from rfl, modify_set h]

set_option maxHeartbeats 4000000 in
set_option maxRecDepth 100000 in
theorem append11_any (d : Fs) (C B p r g m cap i : Nat) (sa : Option Addr) (sn sc : Nat) (data : List ByteArray) (W : World) (hS : SysV W C B (.slice (some ⟨g, 0, none⟩) m cap) d) (hm : d.files.length = m) (hi : i < d.files.length) (hsz : d.files[i].data.size + total data ≤ 1099511627776) (hrow : RowS W (.slice sa sn sc) data) (hp : Blk W p 75 #[.pointer (some ⟨g, i * 3, none⟩)]) (hr : Blk W r 72 #[.slice sa sn sc]) :
    Calls Tryd.prog 31 #[.pointer (some ⟨p, 0, none⟩), .pointer (some ⟨r, 0, none⟩)] W fun e W' => e = .returned (.tuple #[]) ∧ SysV W' C B (.slice (some ⟨g, 0, none⟩) m cap) (putAt i data d) ∧ Below C W W' := by
  rw [putAt_set hi]
  obtain ⟨g', cap', hv', hgC, hgw, nBg, x0, x1, x2, hfz, cur, hg⟩ := hS.at hi
  injection hv' with e1 e2 e3
  injection e1 with e1
  injection e1 with e1
  subst e1
  have hlt := hS.2.2.1.lt
  have hCB := hS.1
  have npg := blk_ne hp hg (by decide)
  have nrg := blk_ne hr hg (by decide)
  have HSV := hide hS
  have HFI := hide (fits_put (hS.2.1.2.1 _ (List.getElem_mem hi)) hsz)
  have HJ := hide (fun n => joined_any d.files[i].data (.slice sa sn sc) data (W.drewN n) hrow hsz)
  have HCF : Hid (cellsF (putF data d.files[i]) = (cellsF d.files[i]).set 1 (.string (joinB d.files[i].data data))) := hide rfl
  have hfd := hfz (i * 3 + 1)
  have HK : Hid (∀ X, Below W.heap.size W X → X.cell? ⟨p, 0, none⟩ = some (.pointer (some ⟨g, i * 3, none⟩)) ∧ X.cell? ⟨r, 0, none⟩ = some (.slice sa sn sc) ∧ X.cell? ⟨g, i * 3 + 1, none⟩ = some (.string d.files[i].data) ∧ X.frozen? ⟨g, i * 3 + 1, none⟩ = false) := hide (fun X hX => by
    have a1 := (hp.below hX).cell 0
    have a2 := (hr.below hX).cell 0
    simp only [List.getElem?_toArray, List.getElem?_cons_zero] at a1 a2
    exact ⟨a1, a2, (hX.cell (p := ⟨g, i * 3 + 1, none⟩) hgw).trans x1, (hX.frozen (p := ⟨g, i * 3 + 1, none⟩) hgw).trans hfd⟩)
  generalize hdt : d.files[i].data = dt at x1 HJ HCF HK
  obtain ⟨cp, cr, _, _⟩ := unhide HK W (Below.refl _ _)
  clear hS hrow hp hr hfz hg e2 e3 x0 x2 hdt hsz
  go_enter Tryd.func31, Tryd.ntmps31
  go_wp2
  refine wp_region_held_drew (S := fun w' => w'.cell? ⟨p, 0, none⟩ = some (.pointer (some ⟨g, i * 3, none⟩)) ∧ w'.cell? ⟨r, 0, none⟩ = some (.slice sa sn sc)) (by kernel_rfl) ?_ (fun hHeld => ?_)
  · exact ⟨cp, cr⟩
  refine wpAnyH_take (i := 0) (v := .pointer (some ⟨g, i * 3, none⟩)) rfl (by kernel_rfl) (by kernel_rfl) (by kernel_rfl) (fun _ _ _ h => h) (Or.inl ⟨by rfl, fun wS hSw => ?_⟩) (by assumption) ?_
  · (try dsimp only at hSw); go_simp
  (try simp only [Act.put, List.setIfInBounds_toArray, List.set_cons_zero, List.set_cons_succ])
  refine wpAnyH_take (i := 1) (v := .pointer (some ⟨g, i * 3, none⟩)) rfl (by kernel_rfl) (by kernel_rfl) (by kernel_rfl) (fun _ _ _ h => h) (Or.inl ⟨by rfl, fun wS hSw => ?_⟩) (by assumption) ?_
  · (try dsimp only at hSw); go_simp
  (try simp only [Act.put, List.setIfInBounds_toArray, List.set_cons_zero, List.set_cons_succ])
  refine wpAnyH_take (i := 2) (v := .pointer (some ⟨g, i * 3, none⟩)) rfl (by kernel_rfl) (by kernel_rfl) (by kernel_rfl) (fun _ _ _ h => h) (Or.inl ⟨by rfl, fun wS hSw => ?_⟩) (by assumption) ?_
  · (try dsimp only at hSw); go_simp
  (try simp only [Act.put, List.setIfInBounds_toArray, List.set_cons_zero, List.set_cons_succ])
  refine wpAnyH_take (i := 3) (v := .pointer (some ⟨g, i * 3 + 1, none⟩)) rfl (by kernel_rfl) (by kernel_rfl) (by kernel_rfl) (fun _ _ _ h => h) (Or.inl ⟨by rfl, fun wS hSw => ?_⟩) (by assumption) ?_
  · (try dsimp only at hSw); go_simp
  (try simp only [Act.put, List.setIfInBounds_toArray, List.set_cons_zero, List.set_cons_succ])
  refine wpAnyH_take (i := 5) (v := .slice sa sn sc) rfl (by kernel_rfl) (by kernel_rfl) (by kernel_rfl) (fun _ _ _ h => h) (Or.inl ⟨by rfl, fun wS hSw => ?_⟩) (by assumption) ?_
  · (try dsimp only at hSw); go_simp
  (try simp only [Act.put, List.setIfInBounds_toArray, List.set_cons_zero, List.set_cons_succ])
  refine wpAnyH_ready (rs := [4]) (by kernel_rfl) (by simp) ?_
  refine AllReadyH.cons rfl (fun K hK => ?_) AllReadyH.nil
  go_simp
  refine hK.out _ _ ?_ (fun hHeld => ?_)
  · exact hHeld
  clear hK K
  (try simp only [Act.put, List.setIfInBounds_toArray, List.set_cons_zero, List.set_cons_succ])
  refine wpAnyH_ready (rs := [6]) (by kernel_rfl) (by simp) ?_
  refine AllReadyH.cons rfl (fun K hK => ?_) AllReadyH.nil
  go_simp
  refine (unhide HJ _).mono ?_
  rintro e w1 ⟨rfl, b1⟩
  have bw1 : Below W.heap.size W w1 := below_fro b1
  have hk1 := unhide HK _ bw1
  have BW1 := hide bw1
  clear b1 bw1
  go_wp2_with fail
  refine hK.out _ _ ?_ (fun hHeld => ?_)
  · exact ⟨hk1.1, hk1.2.1⟩
  clear hK K
  (try simp only [Act.put, List.setIfInBounds_toArray, List.set_cons_zero, List.set_cons_succ])
  refine wpAnyH_take (i := 7) (v := .pointer (some ⟨g, i * 3, none⟩)) rfl (by kernel_rfl) (by kernel_rfl) (by kernel_rfl) (fun _ _ _ h => h) (Or.inl ⟨by rfl, fun wS hSw => ?_⟩) (by assumption) ?_
  · (try dsimp only at hSw); go_simp
  (try simp only [Act.put, List.setIfInBounds_toArray, List.set_cons_zero, List.set_cons_succ])
  refine wpAnyH_take (i := 8) (v := .pointer (some ⟨g, i * 3 + 1, none⟩)) rfl (by kernel_rfl) (by kernel_rfl) (by kernel_rfl) (fun _ _ _ h => h) (Or.inl ⟨by rfl, fun wS hSw => ?_⟩) (by assumption) ?_
  · (try dsimp only at hSw); go_simp
  (try simp only [Act.put, List.setIfInBounds_toArray, List.set_cons_zero, List.set_cons_succ])
  refine wpAnyH_ready (rs := [9]) (by kernel_rfl) (by simp) ?_
  refine AllReadyH.cons rfl (fun K hK => ?_) AllReadyH.nil
  obtain ⟨z1, z2, z3, z4⟩ := hk1
  go_simp
  refine hK.out _ _ ?_ (fun hHeld => ?_)
  · exact ⟨(World.cell?_setCell_far _ _ _ _ (fun e => npg e.symm)).trans z1, (World.cell?_setCell_far _ _ _ _ (fun e => nrg e.symm)).trans z2⟩
  clear hK K
  (try simp only [Act.put, List.setIfInBounds_toArray, List.set_cons_zero, List.set_cons_succ])
  refine wpAnyH_done (by kernel_rfl) ?_ _
  have S1 := hide (((unhide HSV).below (unhide BW1)).fileM (f := putF data d.files[i]) (u := .string (joinB dt data)) hm hi (show 1 < 3 by omega) (unhide HCF) (unhide HFI))
  have B1 := hide (((unhide BW1).mono (show C ≤ W.heap.size by omega)).setCell (p := ⟨g, i * 3 + 1, none⟩) hgC (.string (joinB dt data)))
  clear hHeld z1 z2 z3 z4
  go_wp2
  go_end0
  exact ⟨rfl, unhide S1, unhide B1⟩

set_option maxHeartbeats 2000000 in
set_option maxRecDepth 100000 in
/-- A change where the power goes. -/
theorem change_dead (d : Fs) (C B g : Nat) (lb : Array Value) (v : Value) (w : World) (h : SysV w C B v d) (e0 : d.fuse = 0) :
    Calls Tryd.prog 24 #[.pointer (some ⟨B, 0, none⟩), .func (.func g) #[] lb] w fun e w' => e = .returned (.int .i64 9) ∧ Sys w' C B { d with down := true } ∧ Below C w w' := by
  have HS := hide h
  obtain ⟨hCB, hfit, k0, hown, hne⟩ := h
  have c2 := k0.cell 2
  have c4 := k0.cell 4
  have f4 := k0.frozen 4
  simp only [sysCells, List.getElem?_toArray, List.getElem?_cons_succ, List.getElem?_cons_zero] at c2 c4
  have HN := hide ((unhide HS).put (d' := { d with down := true }) 4 (.bool true) rfl hfit (fun v => rfl))
  have HB := hide hCB
  rw [e0] at c2
  clear e0 hfit k0 hown hne
  go_enter Tryd.func24, Tryd.ntmps24
  go_wp2
  go_ret
  exact ⟨rfl, (unhide HN).sys, (Below.refl C w).setCell (p := ⟨B, 4, none⟩) (unhide HB) _⟩

/-- What Append does with the file at a place of its copy. -/
def appendC (data : List ByteArray) (i : Nat) (d : Fs) : Fs × Nat :=
  if (used d.files + total data : Int) ≤ d.room then changeR (if d.fuse = 0 then putAt i data d else d) (putAt i data) else (d, 8)
theorem putAt_len (i : Nat) (data : List ByteArray) (d : Fs) : (putAt i data d).files.length = d.files.length := by simp [putAt]
theorem changeR_zero {d : Fs} (f h : Fs → Fs) (h0 : d.fuse = 0) : changeR d f = changeR d h := by unfold changeR; rw [if_pos h0, if_pos h0]
theorem rowS_grown {w W : World} {v : Value} {l : List ByteArray} {B : Nat} {t : TypeId} {cs : Array Value} (h : RowS w v l) (hb : Blk w B t cs) (hs : ∀ (i : Nat) (x : ByteArray), cs[i]? ≠ some (.string x)) (hg : w.grownBy W (some B)) : RowS W v l := by
  obtain ⟨a, cap, hv, h6, hf, hc⟩ := h
  refine ⟨a, cap, hv, h6, hf, ?_⟩
  rcases hc with hc | ⟨b, off, ha, hlt, hc⟩
  · exact Or.inl hc
  · refine Or.inr ⟨b, off, ha, Nat.lt_of_lt_of_le hlt hg.size, fun j hj => ?_⟩
    have hne : some b ≠ some B := by
      intro e
      simp only [Option.some.injEq] at e
      subst e
      have := hc j hj
      rw [hb.cell] at this
      exact hs _ _ this
    exact hg.cell (a := ⟨b, off + j, none⟩) (hc j hj) hne
theorem sys_notext (d : Fs) (a : Option Addr) (n c : Nat) : ∀ (i : Nat) (x : ByteArray), (sysCells d (.slice a n c))[i]? ≠ some (.string x) := by
  intro i x
  match i with
  | 0 | 1 | 2 | 3 | 4 => simp [sysCells]
  | i + 5 => simp [sysCells]

set_option maxHeartbeats 4000000 in
set_option maxRecDepth 100000 in
theorem append1_any (d : Fs) (i C B r : Nat) (sa : Option Addr) (sn sc : Nat) (data : List ByteArray) (W : World) (hgood : Good d) (hS : Sys W C B d) (hi : i < d.files.length) (hrow : RowS W (.slice sa sn sc) data) (hr : Blk W r 72 #[.slice sa sn sc]) :
    Calls Tryd.prog 29 (#[.pointer (some ⟨B, 0, none⟩), .int .i64 (i : Nat)] ++ #[.pointer (some ⟨r, 0, none⟩)]) W fun e W' => e = .returned (.int .i64 (appendC data i d).2) ∧ Sys W' C B (appendC data i d).1 ∧ Below C W W' := by
  have hR := right_parts hgood.1
  obtain ⟨v, hV⟩ := hS.val
  have hlt := hS.lt
  have hCB := hS.1
  obtain ⟨g, cap, hv, hgC, hgw, nBg, x0, x1, x2, hfz, cur, hg⟩ := hV.at hi
  subst hv
  have nrg := blk_ne hr hg (by decide)
  have nrB : r ≠ B := blk_ne hr hV.2.2.1 (by decide)
  have hrl := hr.lt
  have HS0 := hide hS
  obtain ⟨m, hm⟩ : ∃ m, d.files.length = m := ⟨_, rfl⟩
  have h63 : m ≤ 1024 := by have := hR.1.2.2.1; omega
  rw [hm] at hV
  have hrf : RowF W (.slice (some ⟨g, 0, none⟩) m cap) d.files := rowF_of_own hV.2.2.2.1 hV.2.1.2.2 hV.2.1.2.1
  have HF := hide (fun n => fits_any d _ (.slice sa sn sc) data (W.drewN n) hgood.1 hrf hrow)
  have HK : Hid (∀ X, Below W.heap.size W X → (fun w' : World => w'.cell? ⟨r, 0, none⟩ = some (.slice sa sn sc) ∧ w'.cell? ⟨B, 0, none⟩ = some (.int .i64 d.room) ∧ w'.cell? ⟨B, 1, none⟩ = some (.slice (some ⟨g, 0, none⟩) m cap) ∧ w'.cell? ⟨B, 2, none⟩ = some (.int .i64 d.fuse) ∧ w'.cell? ⟨B, 3, none⟩ = some (.int .i64 d.fault) ∧ w'.cell? ⟨B, 4, none⟩ = some (.bool d.down)) X) := hide (fun X hX => by
    have a2 := (hr.below hX).cell 0
    have b := (hV.below hX).2.2.1
    have c0 := b.cell 0
    have c1 := b.cell 1
    have c2 := b.cell 2
    have c3 := b.cell 3
    have c4 := b.cell 4
    simp only [sysCells, List.getElem?_toArray, List.getElem?_cons_succ, List.getElem?_cons_zero] at a2 c0 c1 c2 c3 c4
    exact ⟨a2, c0, c1, c2, c3, c4⟩)
  obtain ⟨cr, q0, q1, q2, q3, q4⟩ := unhide HK W (Below.refl _ _)
  have hiN : (i : Int) < (m : Int) := by omega
  have hii : i < m := by omega
  have hd1 : d.files[i].data.size ≤ used d.files := size_le_used (List.getElem_mem hi)
  simp only [fsV] at HF
  by_cases hfit : (used d.files + total data : Int) ≤ d.room
  · rw [decide_eq_true hfit] at HF
    have hroom := hR.1.2.1
    have hc : appendC data i d = changeR (if d.fuse = 0 then putAt i data d else d) (putAt i data) := by unfold appendC; rw [if_pos hfit]
    rw [hc]
    have hsz : d.files[i].data.size + total data + total data ≤ 1099511627776 := by omega
    have hi2 : i < (putAt i data d).files.length := by rw [putAt_len]; exact hi
    have hsz2 : (putAt i data d).files[i].data.size + total data ≤ 1099511627776 := by
      have : (putAt i data d).files[i].data = joinB d.files[i].data data := by simp [putAt]
      rw [this, joinB_size]
      omega
    have HA := hide (fun (X : World) (pb : Nat) (hX : Below W.heap.size W X) (hpb : Blk X pb 75 #[.pointer (some ⟨g, i * 3, none⟩)]) => append11_any d C B pb r g m cap i sa sn sc data X (hV.below hX) hm hi (by omega) (hrow.below hX) hpb (hr.below hX))
    by_cases h0 : d.fuse = 0
    · rw [if_pos h0]
      have hp0 : (putAt i data d).fuse = 0 := h0
      rw [changeR_zero (putAt i data) (fun d => d) hp0]
      have HCH : Hid (∀ X lbs, SysV X C B (.slice (some ⟨g, 0, none⟩) m cap) (putAt i data d) → Calls Tryd.prog 24 #[.pointer (some ⟨B, 0, none⟩), .func (.func 31) #[] lbs] X fun e w' => e = .returned (.int .i64 9) ∧ Sys w' C B { putAt i data d with down := true } ∧ Below C X w') := hide (fun X lbs hX => change_dead (putAt i data d) C B 31 lbs _ X hX hp0)
      have hres : changeR (putAt i data d) (fun d => d) = ({ putAt i data d with down := true }, 9) := by unfold changeR; rw [if_pos hp0]
      rw [hres]
      rw [h0] at HF HK q2
      clear hV hm hrf hS hgood hR hr hrow hfz hg x0 x1 x2 hc hfit hres hp0 h0 hsz hsz2 hi2 hd1 hi
      go_enter Tryd.func29, Tryd.ntmps29
      go_wp2
      refine wp_region_held_drew (S := fun w' => w'.cell? ⟨r, 0, none⟩ = some (.slice sa sn sc) ∧ w'.cell? ⟨B, 0, none⟩ = some (.int .i64 d.room) ∧ w'.cell? ⟨B, 1, none⟩ = some (.slice (some ⟨g, 0, none⟩) m cap) ∧ w'.cell? ⟨B, 2, none⟩ = some (.int .i64 0) ∧ w'.cell? ⟨B, 3, none⟩ = some (.int .i64 d.fault) ∧ w'.cell? ⟨B, 4, none⟩ = some (.bool d.down)) (by kernel_rfl) ?_ (fun hHeld => ?_)
      · exact ⟨cr, q0, q1, q2, q3, q4⟩
      refine wpAnyH_take (i := 0) (v := .pointer (some ⟨B, 0, none⟩)) rfl (by kernel_rfl) (by kernel_rfl) (by kernel_rfl) (fun _ _ _ h => h) (Or.inl ⟨by rfl, fun wS hSw => ?_⟩) (by assumption) ?_
      · (try dsimp only at hSw); go_simp
      (try simp only [Act.put, List.setIfInBounds_toArray, List.set_cons_zero, List.set_cons_succ])
      refine wpAnyH_take (i := 1) (v := .pointer (some ⟨B, 0, none⟩)) rfl (by kernel_rfl) (by kernel_rfl) (by kernel_rfl) (fun _ _ _ h => h) (Or.inl ⟨by rfl, fun wS hSw => ?_⟩) (by assumption) ?_
      · (try dsimp only at hSw); go_simp
      (try simp only [Act.put, List.setIfInBounds_toArray, List.set_cons_zero, List.set_cons_succ])
      refine wpAnyH_take (i := 2) (v := .agg #[.int .i64 d.room, .slice (some ⟨g, 0, none⟩) m cap, .int .i64 0, .int .i64 d.fault, .bool d.down]) rfl (by kernel_rfl) (by kernel_rfl) (by kernel_rfl) (fun _ _ _ h => h) (Or.inl ⟨by rfl, fun wS hSw => ?_⟩) (by assumption) ?_
      · (try dsimp only at hSw); go_simp
      (try simp only [Act.put, List.setIfInBounds_toArray, List.set_cons_zero, List.set_cons_succ])
      refine wpAnyH_take (i := 3) (v := .slice sa sn sc) rfl (by kernel_rfl) (by kernel_rfl) (by kernel_rfl) (fun _ _ _ h => h) (Or.inl ⟨by rfl, fun wS hSw => ?_⟩) (by assumption) ?_
      · (try dsimp only at hSw); go_simp
      (try simp only [Act.put, List.setIfInBounds_toArray, List.set_cons_zero, List.set_cons_succ])
      refine wpAnyH_ready (rs := [4]) (by kernel_rfl) (by simp) ?_
      refine AllReadyH.cons rfl (fun K hK => ?_) AllReadyH.nil
      go_simp
      refine (unhide HF _).mono ?_
      rintro e w1 ⟨rfl, b1⟩
      have bw1 : Below W.heap.size W w1 := below_fro b1
      have hk1 := unhide HK _ bw1
      have BW1 := hide bw1
      clear b1 bw1
      go_wp2_with fail
      refine hK.out _ _ ?_ (fun hHeld => ?_)
      · exact hk1
      clear hK K
      (try simp only [Act.put, List.setIfInBounds_toArray, List.set_cons_zero, List.set_cons_succ])
      refine wpAnyH_take (i := 5) (v := .bool false) rfl (by kernel_rfl) (by kernel_rfl) (by kernel_rfl) (fun _ _ _ h => h) (Or.inl ⟨by rfl, fun wS hSw => ?_⟩) (by assumption) ?_
      · (try dsimp only at hSw); go_simp
      (try simp only [Act.put, List.setIfInBounds_toArray, List.set_cons_zero, List.set_cons_succ])
      refine wpAnyH_done (by kernel_rfl) ?_ _
      clear hHeld
      obtain ⟨y1, y2, y3, y4, y5, y6⟩ := hk1
      have bA : Below w1.heap.size w1 (w1.alloc (Obj.cells #[.pointer (some ⟨g, i * 3, none⟩)] 75)) := (Below.refl _ _).alloc (Nat.le_refl _) _
      have kA := Blk.new w1 75 #[.pointer (some ⟨g, i * 3, none⟩)]
      have hs1 := (unhide BW1).size
      have bWA := belows (unhide BW1) bA
      have HPUT := hide (unhide HA _ w1.heap.size bWA kA)
      have BWA := hide bWA
      have y4a : (w1.alloc (Obj.cells #[.pointer (some ⟨g, i * 3, none⟩)] 75)).cell? ⟨B, 2, none⟩ = some (.int .i64 0) := (unhide HK _ bWA).2.2.2.1
      clear bA kA bWA
      go_wp2_with fail
      refine (unhide HPUT).mono ?_
      rintro e w2 ⟨rfl, v2, b2⟩
      have HC2 := hide (unhide HCH w2 #[.pointer (some ⟨w1.heap.size, 0, none⟩), .pointer (some ⟨r, 0, none⟩)] v2)
      have B2 := hide (((unhide BWA).mono (show C ≤ W.heap.size by omega)).trans b2)
      clear v2 b2
      go_wp2_with fail
      refine (unhide HC2).mono ?_
      rintro e w3 ⟨rfl, s3, b3⟩
      have S3 := hide s3
      have B3 := hide ((unhide B2).trans b3)
      clear s3 b3
      go_wp2
      go_ret
      exact ⟨rfl, unhide S3, unhide B3⟩
    · rw [if_neg h0]
      have HCH : Hid (∀ X pb, Below W.heap.size W X → pb ≠ B → Blk X pb 75 #[.pointer (some ⟨g, i * 3, none⟩)] → Calls Tryd.prog 24 #[.pointer (some ⟨B, 0, none⟩), .func (.func 31) #[] #[.pointer (some ⟨pb, 0, none⟩), .pointer (some ⟨r, 0, none⟩)]] X fun e w' => e = .returned (.int .i64 (changeR d (putAt i data)).2) ∧ Sys w' C B (changeR d (putAt i data)).1 ∧ Below C X w') := hide (fun X pb hX hne hpb =>
        change_any d C B 31 _ (putAt i data) _ X (hV.below hX) (enters_of Tryd.func31 (by kernel_rfl) rfl)
          (fun W' hgr hS' => (append11_any (spent d) C B pb r g m cap i sa sn sc data W' hS' hm hi (by show d.files[i].data.size + total data ≤ _; omega) (rowS_grown (hrow.below hX) (hV.below hX).2.2.1 (sys_notext _ _ _ _) hgr) (blk_grown hpb hgr hne) (blk_grown (hr.below hX) hgr nrB)).mono (by rintro e w' ⟨rfl, h1, h2⟩; exact ⟨rfl, h1.sys, h2⟩)))
      generalize changeR d (putAt i data) = res at HCH ⊢
      obtain ⟨d5, n5⟩ := res
      simp only at HCH ⊢
      have hfu : (d.fuse == 0) = false := by simpa using h0
      clear hV hm hrf hS hgood hR hr hrow hfz hg x0 x1 x2 hc hfit hsz hsz2 hi2 hd1 hi HA
      go_enter Tryd.func29, Tryd.ntmps29
      go_wp2
      refine wp_region_held_drew (S := fun w' => w'.cell? ⟨r, 0, none⟩ = some (.slice sa sn sc) ∧ w'.cell? ⟨B, 0, none⟩ = some (.int .i64 d.room) ∧ w'.cell? ⟨B, 1, none⟩ = some (.slice (some ⟨g, 0, none⟩) m cap) ∧ w'.cell? ⟨B, 2, none⟩ = some (.int .i64 d.fuse) ∧ w'.cell? ⟨B, 3, none⟩ = some (.int .i64 d.fault) ∧ w'.cell? ⟨B, 4, none⟩ = some (.bool d.down)) (by kernel_rfl) ?_ (fun hHeld => ?_)
      · exact ⟨cr, q0, q1, q2, q3, q4⟩
      refine wpAnyH_take (i := 0) (v := .pointer (some ⟨B, 0, none⟩)) rfl (by kernel_rfl) (by kernel_rfl) (by kernel_rfl) (fun _ _ _ h => h) (Or.inl ⟨by rfl, fun wS hSw => ?_⟩) (by assumption) ?_
      · (try dsimp only at hSw); go_simp
      (try simp only [Act.put, List.setIfInBounds_toArray, List.set_cons_zero, List.set_cons_succ])
      refine wpAnyH_take (i := 1) (v := .pointer (some ⟨B, 0, none⟩)) rfl (by kernel_rfl) (by kernel_rfl) (by kernel_rfl) (fun _ _ _ h => h) (Or.inl ⟨by rfl, fun wS hSw => ?_⟩) (by assumption) ?_
      · (try dsimp only at hSw); go_simp
      (try simp only [Act.put, List.setIfInBounds_toArray, List.set_cons_zero, List.set_cons_succ])
      refine wpAnyH_take (i := 2) (v := .agg #[.int .i64 d.room, .slice (some ⟨g, 0, none⟩) m cap, .int .i64 d.fuse, .int .i64 d.fault, .bool d.down]) rfl (by kernel_rfl) (by kernel_rfl) (by kernel_rfl) (fun _ _ _ h => h) (Or.inl ⟨by rfl, fun wS hSw => ?_⟩) (by assumption) ?_
      · (try dsimp only at hSw); go_simp
      (try simp only [Act.put, List.setIfInBounds_toArray, List.set_cons_zero, List.set_cons_succ])
      refine wpAnyH_take (i := 3) (v := .slice sa sn sc) rfl (by kernel_rfl) (by kernel_rfl) (by kernel_rfl) (fun _ _ _ h => h) (Or.inl ⟨by rfl, fun wS hSw => ?_⟩) (by assumption) ?_
      · (try dsimp only at hSw); go_simp
      (try simp only [Act.put, List.setIfInBounds_toArray, List.set_cons_zero, List.set_cons_succ])
      refine wpAnyH_ready (rs := [4]) (by kernel_rfl) (by simp) ?_
      refine AllReadyH.cons rfl (fun K hK => ?_) AllReadyH.nil
      go_simp
      refine (unhide HF _).mono ?_
      rintro e w1 ⟨rfl, b1⟩
      have bw1 : Below W.heap.size W w1 := below_fro b1
      have hk1 := unhide HK _ bw1
      have BW1 := hide bw1
      clear b1 bw1
      go_wp2_with fail
      refine hK.out _ _ ?_ (fun hHeld => ?_)
      · exact hk1
      clear hK K
      (try simp only [Act.put, List.setIfInBounds_toArray, List.set_cons_zero, List.set_cons_succ])
      refine wpAnyH_take (i := 5) (v := .bool false) rfl (by kernel_rfl) (by kernel_rfl) (by kernel_rfl) (fun _ _ _ h => h) (Or.inl ⟨by rfl, fun wS hSw => ?_⟩) (by assumption) ?_
      · (try dsimp only at hSw); go_simp
      (try simp only [Act.put, List.setIfInBounds_toArray, List.set_cons_zero, List.set_cons_succ])
      refine wpAnyH_done (by kernel_rfl) ?_ _
      clear hHeld
      obtain ⟨y1, y2, y3, y4, y5, y6⟩ := hk1
      have bA : Below w1.heap.size w1 (w1.alloc (Obj.cells #[.pointer (some ⟨g, i * 3, none⟩)] 75)) := (Below.refl _ _).alloc (Nat.le_refl _) _
      have kA := Blk.new w1 75 #[.pointer (some ⟨g, i * 3, none⟩)]
      have hs1 := (unhide BW1).size
      have bWA := belows (unhide BW1) bA
      have HC2 := hide (unhide HCH _ w1.heap.size bWA (by omega) kA)
      have BWA := hide bWA
      have y4a : (w1.alloc (Obj.cells #[.pointer (some ⟨g, i * 3, none⟩)] 75)).cell? ⟨B, 2, none⟩ = some (.int .i64 d.fuse) := (unhide HK _ bWA).2.2.2.1
      clear bA kA bWA
      go_wp2_with fail
      refine (unhide HC2).mono ?_
      rintro e w3 ⟨rfl, s3, b3⟩
      have S3 := hide s3
      have B3 := hide (((unhide BWA).mono (show C ≤ W.heap.size by omega)).trans b3)
      clear s3 b3
      go_wp2
      go_ret
      exact ⟨rfl, unhide S3, unhide B3⟩
  · rw [decide_eq_false hfit] at HF
    have hc : appendC data i d = (d, 8) := by unfold appendC; rw [if_neg hfit]
    rw [hc]
    clear hV hm hrf hS hgood hR hr hrow hfz hg x0 x1 x2 hc hfit hd1 hi
    go_enter Tryd.func29, Tryd.ntmps29
    go_wp2
    refine wp_region_held_drew (S := fun w' => w'.cell? ⟨r, 0, none⟩ = some (.slice sa sn sc) ∧ w'.cell? ⟨B, 0, none⟩ = some (.int .i64 d.room) ∧ w'.cell? ⟨B, 1, none⟩ = some (.slice (some ⟨g, 0, none⟩) m cap) ∧ w'.cell? ⟨B, 2, none⟩ = some (.int .i64 d.fuse) ∧ w'.cell? ⟨B, 3, none⟩ = some (.int .i64 d.fault) ∧ w'.cell? ⟨B, 4, none⟩ = some (.bool d.down)) (by kernel_rfl) ?_ (fun hHeld => ?_)
    · exact ⟨cr, q0, q1, q2, q3, q4⟩
    refine wpAnyH_take (i := 0) (v := .pointer (some ⟨B, 0, none⟩)) rfl (by kernel_rfl) (by kernel_rfl) (by kernel_rfl) (fun _ _ _ h => h) (Or.inl ⟨by rfl, fun wS hSw => ?_⟩) (by assumption) ?_
    · (try dsimp only at hSw); go_simp
    (try simp only [Act.put, List.setIfInBounds_toArray, List.set_cons_zero, List.set_cons_succ])
    refine wpAnyH_take (i := 1) (v := .pointer (some ⟨B, 0, none⟩)) rfl (by kernel_rfl) (by kernel_rfl) (by kernel_rfl) (fun _ _ _ h => h) (Or.inl ⟨by rfl, fun wS hSw => ?_⟩) (by assumption) ?_
    · (try dsimp only at hSw); go_simp
    (try simp only [Act.put, List.setIfInBounds_toArray, List.set_cons_zero, List.set_cons_succ])
    refine wpAnyH_take (i := 2) (v := .agg #[.int .i64 d.room, .slice (some ⟨g, 0, none⟩) m cap, .int .i64 d.fuse, .int .i64 d.fault, .bool d.down]) rfl (by kernel_rfl) (by kernel_rfl) (by kernel_rfl) (fun _ _ _ h => h) (Or.inl ⟨by rfl, fun wS hSw => ?_⟩) (by assumption) ?_
    · (try dsimp only at hSw); go_simp
    (try simp only [Act.put, List.setIfInBounds_toArray, List.set_cons_zero, List.set_cons_succ])
    refine wpAnyH_take (i := 3) (v := .slice sa sn sc) rfl (by kernel_rfl) (by kernel_rfl) (by kernel_rfl) (fun _ _ _ h => h) (Or.inl ⟨by rfl, fun wS hSw => ?_⟩) (by assumption) ?_
    · (try dsimp only at hSw); go_simp
    (try simp only [Act.put, List.setIfInBounds_toArray, List.set_cons_zero, List.set_cons_succ])
    refine wpAnyH_ready (rs := [4]) (by kernel_rfl) (by simp) ?_
    refine AllReadyH.cons rfl (fun K hK => ?_) AllReadyH.nil
    go_simp
    refine (unhide HF _).mono ?_
    rintro e w1 ⟨rfl, b1⟩
    have bw1 : Below W.heap.size W w1 := below_fro b1
    have hk1 := unhide HK _ bw1
    have BW1 := hide bw1
    clear b1 bw1
    go_wp2_with fail
    refine hK.out _ _ ?_ (fun hHeld => ?_)
    · exact hk1
    clear hK K
    (try simp only [Act.put, List.setIfInBounds_toArray, List.set_cons_zero, List.set_cons_succ])
    refine wpAnyH_take (i := 5) (v := .bool true) rfl (by kernel_rfl) (by kernel_rfl) (by kernel_rfl) (fun _ _ _ h => h) (Or.inl ⟨by rfl, fun wS hSw => ?_⟩) (by assumption) ?_
    · (try dsimp only at hSw); go_simp
    (try simp only [Act.put, List.setIfInBounds_toArray, List.set_cons_zero, List.set_cons_succ])
    refine wpAnyH_done (by kernel_rfl) ?_ _
    clear hHeld
    obtain ⟨y1, y2, y3, y4, y5, y6⟩ := hk1
    go_wp2
    go_ret
    exact ⟨rfl, (unhide HS0).below (unhide BW1), (unhide BW1).mono (by omega)⟩
set_option maxHeartbeats 2000000 in
set_option maxRecDepth 100000 in
theorem append_any (d : Fs) (v : Value) (n : ByteArray) (sa : Option Addr) (sn sc : Nat) (data : List ByteArray) (w : World) (hfit : FitAll d) (h : RowF w v d.files) (hrow : RowS w (.slice sa sn sc) data) :
    Calls Tryd.prog 8 #[fsV d v, .string n, .slice sa sn sc] w fun e w' => ∃ v', e = .returned (.tuple #[fsV (appendR d n data).1 v', .int .i64 (appendR d n data).2]) ∧ RowF w' v' (appendR d n data).1.files ∧ FitAll (appendR d n data).1 ∧ Below w.heap.size w w' := by
  have hb : Below w.heap.size w (((w.alloc (Obj.cells #[.int .i64 d.room, v, .int .i64 d.fuse, .int .i64 d.fault, .bool d.down] 31)).alloc (Obj.cells #[.slice sa sn sc] 72)).alloc (Obj.cells #[.int .i64 0, .slice none 0 0, .int .i64 0, .int .i64 0, .bool false] 31)) := ((((Below.refl _ w).alloc (by first | omega | (simp only [World.size_alloc]; omega)) (Obj.cells #[.int .i64 d.room, v, .int .i64 d.fuse, .int .i64 d.fault, .bool d.down] 31)).alloc (by first | omega | (simp only [World.size_alloc]; omega)) (Obj.cells #[.slice sa sn sc] 72)).alloc (by first | omega | (simp only [World.size_alloc]; omega)) (Obj.cells #[.int .i64 0, .slice none 0 0, .int .i64 0, .int .i64 0, .bool false] 31))
  have q1 := ((Blk.new (w.alloc (Obj.cells #[.int .i64 d.room, v, .int .i64 d.fuse, .int .i64 d.fault, .bool d.down] 31)) 72 #[.slice sa sn sc]).below ((Below.refl _ _).alloc (Nat.le_refl _) (Obj.cells #[.int .i64 0, .slice none 0 0, .int .i64 0, .int .i64 0, .bool false] 31)))
  simp only [World.size_alloc] at q1
  have hsz : (((w.alloc (Obj.cells #[.int .i64 d.room, v, .int .i64 d.fuse, .int .i64 d.fault, .bool d.down] 31)).alloc (Obj.cells #[.slice sa sn sc] 72)).alloc (Obj.cells #[.int .i64 0, .slice none 0 0, .int .i64 0, .int .i64 0, .bool false] 31)).heap.size = w.heap.size + 1 + 1 + 1 := by simp only [World.size_alloc]
  have HW := hide (workOn_any d v n 29 #[.pointer (some ⟨w.heap.size + 1, 0, none⟩)] (appendC data) (((w.alloc (Obj.cells #[.int .i64 d.room, v, .int .i64 d.fuse, .int .i64 d.fault, .bool d.down] 31)).alloc (Obj.cells #[.slice sa sn sc] 72)).alloc (Obj.cells #[.int .i64 0, .slice none 0 0, .int .i64 0, .int .i64 0, .bool false] 31)) hfit (h.below hb) (enters_of Tryd.func29 (by kernel_rfl) rfl) (fun hg hh W C B hC hB hS => append1_any d (lb d.files n) C B _ sa sn sc data W hg hS (has_lb (right_parts hg.1).2.2.2 hh).1 ((hrow.below hb).below hB) (q1.below hB)))
  have z := Blk.new ((w.alloc (Obj.cells #[.int .i64 d.room, v, .int .i64 d.fuse, .int .i64 d.fault, .bool d.down] 31)).alloc (Obj.cells #[.slice sa sn sc] 72)) 31 #[.int .i64 0, .slice none 0 0, .int .i64 0, .int .i64 0, .bool false]
  simp only [World.size_alloc] at z
  have HZ := hide z
  have HB := hide hb
  obtain ⟨a, cap, rfl, _, _, _⟩ := h
  clear z hb hsz q1
  have hres : appendR d n data = workR d (onR n (appendC data)) := rfl
  rw [hres]
  clear hres
  generalize workR d (onR n (appendC data)) = res at HW ⊢
  obtain ⟨d5, n5⟩ := res
  simp only [fsV] at HW ⊢
  go_enter Tryd.func8, Tryd.ntmps8
  go_wp2_with fail
  refine (unhide HW).mono ?_
  rintro e w5 ⟨v5, rfl, hrow5, hfit5, b5⟩
  have k := (unhide HZ).below b5
  have RB := hide (below5 (s := w.heap.size + 1 + 1) ((unhide HB).trans (b5.mono (unhide HB).size)) (by omega))
  have RR := hide (rowF5 hrow5 k (by intro i x; match i with | 0 | 1 | 2 | 3 | 4 => simp | i + 5 => simp))
  have HF5 := hide hfit5
  have e0 := k.cell 0
  have e1 := k.cell 1
  have e2 := k.cell 2
  have e3 := k.cell 3
  have e4 := k.cell 4
  have f0 := k.frozen 0
  have f1 := k.frozen 1
  have f2 := k.frozen 2
  have f3 := k.frozen 3
  have f4 := k.frozen 4
  simp only [List.getElem?_toArray, List.getElem?_cons_succ, List.getElem?_cons_zero] at e0 e1 e2 e3 e4
  obtain ⟨a5, cap5, rfl, _, _, _⟩ := hrow5
  clear k b5 hfit5 HW
  go_wp2
  (try simp only [Exit.inBlock, Exit.then])
  refine bodyPost_ret (v := .tuple #[.agg #[.int .i64 d5.room, .slice a5 d5.files.length cap5, .int .i64 d5.fuse, .int .i64 d5.fault, .bool d5.down], .int .i64 n5]) ?_ rfl ⟨_, rfl, unhide RR _ _ _ _ _, unhide HF5, unhide RB _ _ _ _ _⟩
  rw [results_cell_tmp rfl]
  go_simp
end Go.Proofs.YtpfmhlldkikbjaaDoor

/-
  Blocks beside a file system at work, over this seat's program.
-/
set_option linter.unusedVariables false
set_option linter.unusedSimpArgs false
namespace Go.Proofs.YtpfmhlldkikbjaaDoor
open Go.RowKit Go.Proofs.Dsk Go.Lib

theorem ob_some (g n cap : Nat) : (Value.slice (some ⟨g, 0, none⟩) n cap).ownBlock = some g := rfl
/-- All blocks of other kinds are as they were. -/
def SA (B p q g i N cap : Nat) (nm dt : ByteArray) (sy : Int) (w : World) : Prop :=
  w.cell? ⟨p, 0, none⟩ = some (.pointer (some ⟨B, 0, none⟩)) ∧ w.cell? ⟨q, 0, none⟩ = some (.int .i64 i) ∧ w.cell? ⟨B, 1, none⟩ = some (.slice (some ⟨g, 0, none⟩) N cap) ∧ w.cell? ⟨g, i * 3, none⟩ = some (.string nm) ∧ w.cell? ⟨g, i * 3 + 1, none⟩ = some (.string dt) ∧ w.cell? ⟨g, i * 3 + 2, none⟩ = some (.int .i64 sy)
def SB (B p q i : Nat) (w : World) : Prop := w.cell? ⟨p, 0, none⟩ = some (.pointer (some ⟨B, 0, none⟩)) ∧ w.cell? ⟨q, 0, none⟩ = some (.int .i64 i) ∧ w.frozen? ⟨B, 1, none⟩ = false
def SC (B p r fb : Nat) (d : Fs) (v : Value) (to dt : ByteArray) (sy : Int) (w : World) : Prop :=
  w.cell? ⟨p, 0, none⟩ = some (.pointer (some ⟨B, 0, none⟩)) ∧ w.cell? ⟨r, 0, none⟩ = some (.string to) ∧ w.cell? ⟨B, 0, none⟩ = some (.int .i64 d.room) ∧ w.cell? ⟨B, 1, none⟩ = some v ∧ w.cell? ⟨B, 2, none⟩ = some (.int .i64 d.fuse) ∧ w.cell? ⟨B, 3, none⟩ = some (.int .i64 d.fault) ∧ w.cell? ⟨B, 4, none⟩ = some (.bool d.down) ∧ w.cell? ⟨fb, 0, none⟩ = some (.string to) ∧ w.cell? ⟨fb, 1, none⟩ = some (.string dt) ∧ w.cell? ⟨fb, 2, none⟩ = some (.int .i64 sy)
theorem blk_far {w : World} {p b i : Nat} {t : TypeId} {cs : Array Value} (h : Blk w p t cs) (hne : p ≠ b) (u : Value) : Blk (w.setCell ⟨b, i, none⟩ u) p t cs := h.other (a := ⟨b, i, none⟩) hne u

theorem cell3_far {w : World} {p i g o : Nat} (u0 u1 u2 : Value) (j k : Nat) (h : p ≠ g) : (((w.setCell ⟨g, o, none⟩ u0).setCell ⟨g, j, none⟩ u1).setCell ⟨g, k, none⟩ u2).cell? ⟨p, i, none⟩ = w.cell? ⟨p, i, none⟩ := by
  rw [World.cell?_setCell_far _ _ _ _ (fun e => h e.symm), World.cell?_setCell_far _ _ _ _ (fun e => h e.symm), World.cell?_setCell_far _ _ _ _ (fun e => h e.symm)]
/-- A file is written over by another one. -/
theorem SysV.file3 {w : World} {C B g m cap i : Nat} {d : Fs} {f : File} (h : SysV w C B (.slice (some ⟨g, 0, none⟩) m cap) d) (hm : d.files.length = m) (hi : i < d.files.length) (hf : Fits f) :
    Sys (((w.setCell ⟨g, i * 3, none⟩ (.string f.name)).setCell ⟨g, i * 3 + 1, none⟩ (.string f.data)).setCell ⟨g, i * 3 + 2, none⟩ (.int .i64 f.synced)) C B { d with files := d.files.set i f } := by
  subst hm
  have hfi := h.2.1.2.1 _ (List.getElem_mem hi)
  have h1 := h.file (f := { d.files[i] with name := f.name }) (u := .string f.name) hi (show 0 < 3 by omega) rfl ⟨hf.1, hfi.2⟩
  have hi1 : i < (d.files.set i { d.files[i] with name := f.name }).length := by rw [List.length_set]; exact hi
  have h2 := SysV.file (f := { f with synced := d.files[i].synced }) (u := .string f.data) h1 hi1 (show 1 < 3 by omega) (by simp [cellsF]) ⟨hf.1, hf.2.1, hfi.2.2⟩
  simp only [setset] at h2
  have hi2 : i < (d.files.set i { f with synced := d.files[i].synced }).length := by rw [List.length_set]; exact hi
  have h3 := SysV.file (f := f) (u := .int .i64 f.synced) h2 hi2 (show 2 < 3 by omega) (by simp [cellsF]) hf
  simp only [setset] at h3
  exact h3.sys

end Go.Proofs.YtpfmhlldkikbjaaDoor
