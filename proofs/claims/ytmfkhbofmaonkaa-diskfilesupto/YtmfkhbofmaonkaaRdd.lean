/-
  What disk.Read, List and Make do, over this seat's program.
-/
import Derived.Test.YtmfkhbofmaonkaaWof
set_option linter.unusedVariables false
namespace Go.Proofs.Ytmfkhbofmaonkaa
open Go.RowKit Go.Proofs.Dsk

set_option maxHeartbeats 2000000 in
set_option maxRecDepth 100000 in
theorem read_any (d : Fs) (v : Value) (n : ByteArray) (w : World) (hfit : FitAll d) (h : RowF w v d.files) :
    Calls Try.prog 27 #[fsV d v, .string n] w fun e w' => e = .returned (.tuple #[.string (readR d n).1, .int .i64 (readR d n).2]) ∧ Below w.heap.size w w' := by
  have hb := (Below.refl w.heap.size w).alloc (Nat.le_refl _) (Obj.cells #[.int .i64 d.room, v, .int .i64 d.fuse, .int .i64 d.fault, .bool d.down] 24)
  have hrd := ready_any d v _ hfit.1 (h.below hb)
  have z0 := Blk.new w 24 #[.int .i64 d.room, v, .int .i64 d.fuse, .int .i64 d.fault, .bool d.down]
  have HROW := hide (h.below hb)
  have HB := hide hb
  cases hr : right d with
  | false =>
    have hr2 : ready d = 2 := by unfold ready; rw [if_pos hr]
    have hw : readR d n = (ByteArray.empty, 2) := by unfold readR; rw [if_pos hr]
    rw [hr2] at hrd
    rw [hw]
    obtain ⟨a, cap, rfl, _, _, _⟩ := h
    simp only [fsV] at hrd ⊢
    have HRD := hide hrd
    clear hrd hb z0 hr hr2 hw
    go_enter Try.func27, Try.ntmps27
    go_wp2_with fail
    refine (unhide HRD).mono ?_
    rintro e w1 ⟨rfl, b1⟩
    have B1 := hide (below_alloc' b1)
    clear b1
    go_wp2
    go_ret2
    exact ⟨rfl, unhide B1⟩
  | true =>
    obtain ⟨hp1, hp2, hp3, hp4⟩ := right_parts hr
    have hn10 := hp1.2.2.1
    by_cases hdn : d.down = true
    · have hr2 : ready d = 9 := by unfold ready; rw [if_neg (by simp [hr]), if_pos hdn]
      have hw : readR d n = (ByteArray.empty, 9) := by unfold readR; rw [if_neg (by simp [hr]), if_pos hdn]
      rw [hr2] at hrd
      rw [hw]
      obtain ⟨a, cap, rfl, _, _, _⟩ := h
      simp only [fsV] at hrd ⊢
      have HRD := hide hrd
      clear hrd hb z0 hr hr2 hw hdn hp1 hp2 hp3 hp4
      go_enter Try.func27, Try.ntmps27
      go_wp2_with fail
      refine (unhide HRD).mono ?_
      rintro e w1 ⟨rfl, b1⟩
      have B1 := hide (below_alloc' b1)
      clear b1
      go_wp2
      go_ret2
      exact ⟨rfl, unhide B1⟩
    · have hr2 : ready d = 0 := by unfold ready; rw [if_neg (by simp [hr]), if_neg hdn]
      have hw : readR d n = if has d.files n = true then ((d.files[lb d.files n]!).data, 0) else (ByteArray.empty, 3) := by unfold readR; rw [if_neg (by simp [hr]), if_neg hdn]
      rw [hr2] at hrd
      rw [hw]
      have HF := hide (fun (X : World) (hX : RowF X v d.files) => find_any d v n X hp4 hn10 hX)
      have hsm := small_of_right hr
      cases hh : has d.files n with
      | false =>
        rw [hh] at HF
        obtain ⟨a, cap, rfl, _, _, _⟩ := h
        simp only [fsV, Bool.false_eq_true, if_false] at hrd HF ⊢
        have HRD := hide hrd
        have Z := hide z0
        clear hrd hb z0 hr hr2 hw hdn hp1 hp2 hp3 hp4 hh hsm
        generalize lb d.files n = at_ at *
        go_enter Try.func27, Try.ntmps27
        go_wp2_with fail
        refine (unhide HRD).mono ?_
        rintro e w1 ⟨rfl, b1⟩
        have k := (unhide Z).below b1
        have c0 := k.cell 0
        have c1 := k.cell 1
        have c2 := k.cell 2
        have c3 := k.cell 3
        have c4 := k.cell 4
        simp only [List.getElem?_toArray, List.getElem?_cons_succ, List.getElem?_cons_zero] at c0 c1 c2 c3 c4
        have B1 := hide (below_alloc' b1)
        have R1 := hide ((unhide HROW).below b1)
        clear b1 k
        go_wp2_with fail
        refine (unhide HF _ (unhide R1)).mono ?_
        rintro e w2 ⟨rfl, b2⟩
        have B2 := hide (belows (unhide B1) b2)
        clear b2
        go_wp2
        go_ret2
        exact ⟨rfl, unhide B2⟩
      | true =>
        obtain ⟨hl, hnm⟩ := has_lb hp4 hh
        have e1 : d.files[lb d.files n]! = d.files[lb d.files n] := getElem!_pos d.files (lb d.files n) hl
        rw [hh] at HF
        obtain ⟨a, cap, rfl, _, _, hc⟩ := h
        rcases hc with h0 | ⟨b, off, rfl, hbl, hcl⟩
        · rw [h0] at hl; simp at hl
        · obtain ⟨_, x1, _⟩ := row_cells hcl hl
          have hcn := fun w => clone_any d.files[lb d.files n].data w (hsm _ (List.getElem_mem hl)).2
          rw [e1]
          simp only [fsV, if_true] at hrd HF ⊢
          have HRD := hide hrd
          have Z := hide z0
          have hli : ((lb d.files n : Nat) : Int) < (d.files.length : Int) := by omega
          clear hrd hb z0 hr hr2 hw hdn hp1 hp2 hp3 hp4 hh hsm e1 hnm hcl
          generalize d.files[lb d.files n].data = dt at *
          generalize lb d.files n = at_ at *
          go_enter Try.func27, Try.ntmps27
          go_wp2_with fail
          refine (unhide HRD).mono ?_
          rintro e w1 ⟨rfl, b1⟩
          have k := (unhide Z).below b1
          have c0 := k.cell 0
          have c1 := k.cell 1
          have c2 := k.cell 2
          have c3 := k.cell 3
          have c4 := k.cell 4
          simp only [List.getElem?_toArray, List.getElem?_cons_succ, List.getElem?_cons_zero] at c0 c1 c2 c3 c4
          have B1 := hide (below_alloc' b1)
          have R1 := hide ((unhide HROW).below b1)
          have K := hide k
          clear b1 k
          go_wp2_with fail
          refine (unhide HF _ (unhide R1)).mono ?_
          rintro e w2 ⟨rfl, b2⟩
          have d1 := ((unhide K).below b2).cell 1
          simp only [List.getElem?_toArray, List.getElem?_cons_succ, List.getElem?_cons_zero] at d1
          have B2 := hide (belows (unhide B1) b2)
          have x2 : w2.cell? ⟨b, off + at_ * 3 + 1, none⟩ = some (.string dt) := ((unhide B2).cell (p := ⟨b, off + at_ * 3 + 1, none⟩) hbl).trans x1
          clear b2 c0 c1 c2 c3 c4
          go_wp2_with fail
          refine (hcn _).mono ?_
          rintro e w3 ⟨rfl, b3⟩
          have B3 := hide (belows (unhide B2) b3)
          clear b3
          go_wp2
          go_ret2
          exact ⟨rfl, unhide B3⟩

end Go.Proofs.Ytmfkhbofmaonkaa
