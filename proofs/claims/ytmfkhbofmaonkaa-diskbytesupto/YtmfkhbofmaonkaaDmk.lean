/-
  What disk.Make does, over this seat's program.
-/
import Derived.Test.YtmfkhbofmaonkaaWof
set_option linter.unusedVariables false
namespace Go.Proofs.Ytmfkhbofmaonkaa
open Go.RowKit Go.Proofs.Dsk

theorem right_make (room : Int) : right ⟨room, [], -1, -1, false⟩ = (decide (0 ≤ room) && decide (room ≤ 16777216)) := by
  by_cases h1 : 0 ≤ room <;> by_cases h2 : room ≤ 16777216 <;> simp [right, headOk, used, Rise, h1, h2]
theorem fit_empty {room fuse fault : Int} {down : Bool} (h1 : -9223372036854775808 ≤ room) (h2 : room ≤ 9223372036854775807) (h3 : -9223372036854775808 ≤ fuse) (h4 : fuse ≤ 9223372036854775807) (h5 : -9223372036854775808 ≤ fault) (h6 : fault ≤ 9223372036854775807) : FitAll ⟨room, [], fuse, fault, down⟩ :=
  ⟨⟨⟨h1, h2⟩, ⟨h3, h4⟩, ⟨h5, h6⟩⟩, by simp, by simp⟩
theorem rowF_nil (w : World) (a : Option Addr) (cap : Nat) : RowF w (.slice a 0 cap) [] := ⟨a, cap, rfl, by simp, by simp, Or.inl rfl⟩

set_option maxHeartbeats 2000000 in
set_option maxRecDepth 100000 in
theorem make_any (room : Int) (w : World) (h1 : -9223372036854775808 ≤ room) (h2 : room ≤ 9223372036854775807) :
    Calls Try.prog 14 #[.int .i64 room] w fun e w' => ∃ v', e = .returned (.tuple #[fsV (makeR room).1 v', .int .i64 (makeR room).2]) ∧ RowF w' v' (makeR room).1.files ∧ FitAll (makeR room).1 ∧ Below w.heap.size w w' := by
  have hb := ((Below.refl _ w).alloc (Nat.le_refl _) (Obj.cells #[.int .i64 0, .slice none 0 0, .int .i64 0, .int .i64 0, .bool false] 24)).alloc (by simp) (Obj.cells #[.int .i64 room, .slice none 0 0, .int .i64 (-1), .int .i64 (-1), .bool false] 24)
  have hfit : FitAll ⟨room, [], -1, -1, false⟩ := fit_empty h1 h2 (by omega) (by omega) (by omega) (by omega)
  have hck := check_any ⟨room, [], -1, -1, false⟩ (.slice none 0 0) _ hfit.1 (rowF_nil ((w.alloc (Obj.cells #[.int .i64 0, .slice none 0 0, .int .i64 0, .int .i64 0, .bool false] 24)).alloc (Obj.cells #[.int .i64 room, .slice none 0 0, .int .i64 (-1), .int .i64 (-1), .bool false] 24)) none 0)
  rw [right_make] at hck
  simp only [fsV] at hck
  have z0 := (Blk.new w 24 #[.int .i64 0, .slice none 0 0, .int .i64 0, .int .i64 0, .bool false]).below ((Below.refl _ _).alloc (Nat.le_refl _) (Obj.cells #[.int .i64 room, .slice none 0 0, .int .i64 (-1), .int .i64 (-1), .bool false] 24))
  have z1 := Blk.new (w.alloc (Obj.cells #[.int .i64 0, .slice none 0 0, .int .i64 0, .int .i64 0, .bool false] 24)) 24 #[.int .i64 room, .slice none 0 0, .int .i64 (-1), .int .i64 (-1), .bool false]
  simp only [World.size_alloc] at z1
  by_cases hr : 0 ≤ room ∧ room ≤ 16777216
  · have hm : makeR room = (⟨room, [], -1, -1, false⟩, 0) := by unfold makeR; rw [if_pos hr]
    rw [hm]
    rw [decide_eq_true hr.1, decide_eq_true hr.2] at hck
    simp only [Bool.and_self, if_true] at hck
    have HCK := hide hck
    have HFIT := hide hfit
    clear hck hr hm hfit
    go_enter Try.func14, Try.ntmps14
    go_wp2_with fail
    refine (unhide HCK).mono ?_
    rintro e w1 ⟨rfl, b1⟩
    have k0 := z0.below b1
    have k1 := z1.below b1
    have c0 := k1.cell 0
    have c1 := k1.cell 1
    have c2 := k1.cell 2
    have c3 := k1.cell 3
    have c4 := k1.cell 4
    have e0 := k0.cell 0
    have e1 := k0.cell 1
    have e2 := k0.cell 2
    have e3 := k0.cell 3
    have e4 := k0.cell 4
    have f0 := k0.frozen 0
    have f1 := k0.frozen 1
    have f2 := k0.frozen 2
    have f3 := k0.frozen 3
    have f4 := k0.frozen 4
    simp only [List.getElem?_toArray, List.getElem?_cons_succ, List.getElem?_cons_zero] at e0 e1 e2 e3 e4 c0 c1 c2 c3 c4
    have BF := hide (below5 (s := w.heap.size) (hb.trans (b1.mono (by simp; omega))) (Nat.le_refl _))
    clear k0 k1 z0 z1 hb b1 HCK
    go_wp2
    (try simp only [Exit.inBlock, Exit.then])
    refine bodyPost_ret (v := .tuple #[.agg #[.int .i64 room, .slice none 0 0, .int .i64 (-1), .int .i64 (-1), .bool false], .int .i64 0]) ?_ rfl ⟨_, rfl, rowF_nil _ _ _, unhide HFIT, unhide BF _ _ _ _ _⟩
    rw [results_cell_tmp rfl]
    go_simp
  · have hm : makeR room = (zeroFs, 1) := by unfold makeR; rw [if_neg hr]
    rw [hm]
    have hd : (decide (0 ≤ room) && decide (room ≤ 16777216)) = false := by
      rw [Bool.and_eq_false_iff, decide_eq_false_iff_not, decide_eq_false_iff_not]; omega
    rw [hd] at hck
    simp only [Bool.false_eq_true, if_false] at hck
    have HCK := hide hck
    clear hck hr hm hd hfit
    go_enter Try.func14, Try.ntmps14
    go_wp2_with fail
    refine (unhide HCK).mono ?_
    rintro e w1 ⟨rfl, b1⟩
    have k0 := z0.below b1
    have e0 := k0.cell 0
    have e1 := k0.cell 1
    have e2 := k0.cell 2
    have e3 := k0.cell 3
    have e4 := k0.cell 4
    have f0 := k0.frozen 0
    have f1 := k0.frozen 1
    have f2 := k0.frozen 2
    have f3 := k0.frozen 3
    have f4 := k0.frozen 4
    simp only [List.getElem?_toArray, List.getElem?_cons_succ, List.getElem?_cons_zero] at e0 e1 e2 e3 e4
    have BF := hide (below5 (s := w.heap.size) (hb.trans (b1.mono (by simp; omega))) (Nat.le_refl _))
    clear k0 z0 z1 hb b1 HCK
    go_wp2
    (try simp only [Exit.inBlock, Exit.then])
    refine bodyPost_ret (v := .tuple #[.agg #[.int .i64 0, .slice none 0 0, .int .i64 0, .int .i64 0, .bool false], .int .i64 1]) ?_ rfl ⟨_, rfl, rowF_nil _ _ _, fit_empty (by omega) (by omega) (by omega) (by omega) (by omega) (by omega), unhide BF _ _ _ _ _⟩
    rw [results_cell_tmp rfl]
    go_simp
end Go.Proofs.Ytmfkhbofmaonkaa
