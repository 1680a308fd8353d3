/-
  What the document's Read and Make do (missiveref04), over this seat's program.
-/
import Derived.Test.YtmfkhbofmaonkaaDqh
set_option linter.unusedVariables false
set_option linter.unusedSimpArgs false
namespace Go.Proofs.Ytmfkhbofmaonkaa
open Go.RowKit Go.Proofs.Dsk

set_option maxHeartbeats 4000000 in
set_option maxRecDepth 100000 in
theorem refRead_any (d : Fs) (v : Value) (n : ByteArray) (w : World) (hfit : FitAll d) (h : RowF w v d.files) :
    Calls Try.prog 28 #[fsV d v, .string n] w fun e w' => e = .returned (.tuple #[.string (readR d n).1, .int .i64 (readR d n).2]) ∧ Below w.heap.size w w' := by
  have HPW := hide (fun (X : World) (hX : RowF X v d.files) => refPower_any d v X hfit.1 hX)
  have HFD := hide (fun (X : World) (hr : Rise d.files) (hX : RowF X v d.files) => refFind_any d.files v n X hr hX)
  obtain ⟨a, cap, hv, h63, _, hc⟩ := id h
  subst hv
  obtain ⟨N, hN⟩ : ∃ N, d.files.length = N := ⟨_, rfl⟩
  have HN := hide hN
  rw [hN] at h h63 HPW HFD ⊢
  have hb2 := (Below.refl w.heap.size w).alloc (Nat.le_refl _) (Obj.cells #[.int .i64 d.room, .slice a N cap, .int .i64 d.fuse, .int .i64 d.fault, .bool d.down] 24)
  have k0 := Blk.new w 24 #[.int .i64 d.room, .slice a N cap, .int .i64 d.fuse, .int .i64 d.fault, .bool d.down]
  have K := hide k0
  have R0 := hide (h.below hb2)
  have B := hide hb2
  have HC := hide hc
  clear k0 hb2 hN h hfit hc
  simp only [fsV] at HPW ⊢
  by_cases hrdy : ready d = 0
  · obtain ⟨hr, hdn⟩ := ready_zero hrdy
    rw [hrdy] at HPW
    have hri := (right_parts hr).2.2.2
    have hres : readR d n = if has d.files n = true then ((d.files[lb d.files n]!).data, 0) else (ByteArray.empty, 3) := by unfold readR; rw [if_neg (by simp [hr]), if_neg (by simp [hdn])]
    rw [hres]
    have HF2 := hide (fun (X : World) hX => unhide HFD X hri hX)
    clear hres hrdy hdn HFD hr
    cases hh : has d.files n with
    | false =>
      simp only [hh, Bool.false_eq_true, if_false] at HF2 ⊢
      clear hh hri
      go_enter Try.func28, Try.ntmps28
      go_wp2_with fail
      refine (unhide HPW _ (unhide R0)).mono ?_
      rintro e w1 ⟨rfl, b1⟩
      have c1 := ((unhide K).below b1).cell 1
      simp only [List.getElem?_toArray, List.getElem?_cons_succ, List.getElem?_cons_zero] at c1
      have R1 := hide ((unhide R0).below b1)
      have B1 := hide (belows (unhide B) b1)
      clear b1 K R0 B HPW
      go_wp2_with fail
      refine (unhide HF2 _ (unhide R1)).mono ?_
      rintro e w2 ⟨rfl, b2⟩
      have B2 := hide (belows (unhide B1) b2)
      clear b2 B1 R1 HF2 c1
      go_wp2
      go_ret2
      exact ⟨rfl, unhide B2⟩
    | true =>
      simp only [hh, if_true] at HF2 ⊢
      obtain ⟨hi, _⟩ := has_lb hri hh
      rw [getElem!_pos d.files _ hi]
      obtain ⟨b, off, rfl, hb, hcl⟩ : ∃ b off, a = some ⟨b, off, none⟩ ∧ b < w.heap.size ∧ ∀ j u, (flatF d.files)[j]? = some u → w.cell? ⟨b, off + j, none⟩ = some u := by
        rcases unhide HC with h0 | h0
        · rw [h0] at hi; simp at hi
        · exact h0
      obtain ⟨_, p1, _⟩ := row_cells hcl hi
      have hixi : ((lb d.files n : Nat) : Int) < (N : Int) := by have := unhide HN; omega
      clear hh hri hcl HC
      generalize d.files[lb d.files n].data = dt at p1 ⊢
      generalize lb d.files n = ix at *
      have hixn : ix < N := by omega
      have hx0 : ¬ (ix : Int) < 0 := by omega
      have hxb : decide ((ix : Int) < 0) = false := decide_eq_false hx0
      go_enter Try.func28, Try.ntmps28
      go_wp2_with fail
      refine (unhide HPW _ (unhide R0)).mono ?_
      rintro e w1 ⟨rfl, b1⟩
      have K1 := hide ((unhide K).below b1)
      have c1 := (unhide K1).cell 1
      simp only [List.getElem?_toArray, List.getElem?_cons_succ, List.getElem?_cons_zero] at c1
      have R1 := hide ((unhide R0).below b1)
      have B1 := hide (belows (unhide B) b1)
      clear b1 K R0 B HPW
      go_wp2_with fail
      refine (unhide HF2 _ (unhide R1)).mono ?_
      rintro e w2 ⟨rfl, b2⟩
      clear c1
      have c1 := ((unhide K1).below b2).cell 1
      simp only [List.getElem?_toArray, List.getElem?_cons_succ, List.getElem?_cons_zero] at c1
      have B2 := hide (belows (unhide B1) b2)
      have y1 : w2.cell? ⟨b, off + ix * 3 + 1, none⟩ = some (.string dt) := ((unhide B2).cell (p := ⟨b, off + ix * 3 + 1, none⟩) hb).trans p1
      clear b2 B1 R1 HF2 p1
      go_wp2
      go_ret2
      exact ⟨rfl, unhide B2⟩
  · have hw : readR d n = (ByteArray.empty, ready d) := by
      unfold ready at hrdy ⊢
      unfold readR
      by_cases h0 : right d = false
      · rw [if_pos h0, if_pos h0]
      · rw [if_neg h0, if_neg h0]
        rw [if_neg h0] at hrdy
        by_cases h1 : d.down = true
        · rw [if_pos h1, if_pos h1]
        · rw [if_neg h1] at hrdy; omega
    rw [hw]
    have hnb : (((ready d : Nat) : Int) == 0) = false := by simp; omega
    have hne : ¬ ((ready d : Nat) : Int) = 0 := by omega
    generalize ready d = rc at *
    clear hw hrdy HFD
    go_enter Try.func28, Try.ntmps28
    go_wp2_with fail
    refine (unhide HPW _ (unhide R0)).mono ?_
    rintro e w1 ⟨rfl, b1⟩
    have B1 := hide (belows (unhide B) b1)
    clear b1 K R0 B HPW
    go_wp2
    go_ret2
    exact ⟨rfl, unhide B1⟩

set_option maxHeartbeats 2000000 in
set_option maxRecDepth 100000 in
theorem refMake_any (room : Int) (w : World) (h1 : -9223372036854775808 ≤ room) (h2 : room ≤ 9223372036854775807) :
    Calls Try.prog 15 #[.int .i64 room] w fun e w' => ∃ v', e = .returned (.tuple #[fsV (makeR room).1 v', .int .i64 (makeR room).2]) ∧ RowF w' v' (makeR room).1.files ∧ Below w.heap.size w w' := by
  have z0 := Blk.new w 24 #[.int .i64 0, .slice none 0 0, .int .i64 0, .int .i64 0, .bool false]
  have e0 := z0.cell 0
  have e1 := z0.cell 1
  have e2 := z0.cell 2
  have e3 := z0.cell 3
  have e4 := z0.cell 4
  have f0 := z0.frozen 0
  have f1 := z0.frozen 1
  have f2 := z0.frozen 2
  have f3 := z0.frozen 3
  have f4 := z0.frozen 4
  simp only [List.getElem?_toArray, List.getElem?_cons_succ, List.getElem?_cons_zero] at e0 e1 e2 e3 e4
  have BF := hide ((Below.refl w.heap.size w).alloc (Nat.le_refl _) (Obj.cells #[.int .i64 0, .slice none 0 0, .int .i64 0, .int .i64 0, .bool false] 24))
  have BG := hide ((Below.refl w.heap.size w).alloc (Nat.le_refl _) (Obj.cells #[.int .i64 room, .slice none 0 0, .int .i64 (-1), .int .i64 (-1), .bool false] 24))
  clear z0
  by_cases c0 : 0 ≤ room
  · have d0 : decide (room < 0) = false := decide_eq_false (by omega)
    by_cases c1 : room ≤ 16777216
    · have hm : makeR room = (⟨room, [], -1, -1, false⟩, 0) := by unfold makeR; rw [if_pos ⟨c0, c1⟩]
      rw [hm]
      have d1 : decide (room > 16777216) = false := decide_eq_false (by omega)
      clear hm
      go_enter Try.func15, Try.ntmps15
      go_wp2
      (try simp only [Exit.inBlock, Exit.then])
      refine bodyPost_ret (v := .tuple #[.agg #[.int .i64 room, .slice none 0 0, .int .i64 (-1), .int .i64 (-1), .bool false], .int .i64 0]) ?_ rfl ⟨_, rfl, rowF_nil _ _ _, ?_⟩
      · rw [results_cell_tmp rfl]
        go_simp
      · exact unhide BG
    · have hm : makeR room = (zeroFs, 1) := by unfold makeR; rw [if_neg (by omega)]
      rw [hm]
      have d1 : decide (room > 16777216) = true := decide_eq_true (by omega)
      clear hm
      go_enter Try.func15, Try.ntmps15
      go_wp2
      (try simp only [Exit.inBlock, Exit.then])
      refine bodyPost_ret (v := .tuple #[.agg #[.int .i64 0, .slice none 0 0, .int .i64 0, .int .i64 0, .bool false], .int .i64 1]) ?_ rfl ⟨_, rfl, rowF_nil _ _ _, ?_⟩
      · rw [results_cell_tmp rfl]
        go_simp
      · exact unhide BF
  · have hm : makeR room = (zeroFs, 1) := by unfold makeR; rw [if_neg (by omega)]
    rw [hm]
    have d0 : decide (room < 0) = true := decide_eq_true (by omega)
    clear hm
    go_enter Try.func15, Try.ntmps15
    go_wp2
    (try simp only [Exit.inBlock, Exit.then])
    refine bodyPost_ret (v := .tuple #[.agg #[.int .i64 0, .slice none 0 0, .int .i64 0, .int .i64 0, .bool false], .int .i64 1]) ?_ rfl ⟨_, rfl, rowF_nil _ _ _, ?_⟩
    · rw [results_cell_tmp rfl]
      go_simp
    · exact unhide BF
end Go.Proofs.Ytmfkhbofmaonkaa
