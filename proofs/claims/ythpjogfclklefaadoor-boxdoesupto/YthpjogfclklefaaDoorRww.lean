/-
  What the document's Write of layer 10 does, over this seat's program.
-/
import Derived.Test.YthpjogfclklefaaDoorRwd
import Derived.Test.YthpjogfclklefaaDoorDwt
import Derived.Deep.DrawnRows
set_option linter.unusedVariables false
namespace Go.Proofs.YthpjogfclklefaaDoor
open Go.RowKit Go.Proofs.Dcl
attribute [local go_sem ↓] Go.wp_at_zero Go.wp_at_succ

theorem refCivil_no (n : Int) (w : World) (h : dayB n = false) :
    Calls Tryd.prog 63 #[.int .i64 n] w fun e w' => e = .returned (.tuple #[.int .i64 0, .int .i64 0, .int .i64 0, .int .i64 1]) ∧ w' = w :=
  (refCivil_any n w).mono (by rintro e w' ⟨v, rfl, hc, rfl⟩; exact ⟨by rw [hc.no h], rfl⟩)
theorem refCivil_yes (y m d : Int) (n : Int) (w : World) (hv : vldB y m d = true) (hn : num y m d = n) :
    Calls Tryd.prog 63 #[.int .i64 n] w fun e w' => e = .returned (.tuple #[.int .i64 y, .int .i64 m, .int .i64 d, .int .i64 0]) ∧ w' = w :=
  (refCivil_any n w).mono (by rintro e w' ⟨v, rfl, hc, rfl⟩; exact ⟨by rw [civ_known hc hv hn], rfl⟩)

set_option maxHeartbeats 1000000 in
theorem refWriteD_no (n : Int) (w : World) (h : dayB n = false) :
    Calls Tryd.prog 51 #[.int .i64 n] w fun e w' => e = .returned (.tuple #[.string (bts []), .int .i64 1]) ∧ w' = w := by
  have HI := hide (fun W => refCivil_no n W h)
  clear h
  go_enter Tryd.func51, Tryd.ntmps51
  go_wp2_with fail
  refine (unhide HI _).mono ?_
  rintro e w2 ⟨rfl, rfl⟩
  go_wp2
  go_ret2
  exact ⟨rfl, rfl⟩

theorem ret_strE {a b : ByteArray} {v : Value} (h : a = b) : Ending.returned (.tuple #[.string a, v]) = .returned (.tuple #[.string b, v]) := by rw [h]

set_option maxHeartbeats 2000000 in
set_option maxRecDepth 100000 in
theorem refWriteD_yes (y m d : Nat) (n : Int) (w : World) (hv : vldB y m d = true) (hn : num y m d = n) :
    Calls Tryd.prog 51 #[.int .i64 n] w fun e w' => e = .returned (.tuple #[.string (bts (dayT y m d)), .int .i64 0]) ∧ Below w.heap.size w w' := by
  have HI := hide (fun W => refCivil_yes y m d n W hv hn)
  obtain ⟨y1, y2, m1, m2, d1, d2⟩ := vld_iff.1 hv
  have hdm := dim_le (y : Int) (m : Int)
  have HA := hide (fun W => refWide_any d 1 W (by omega) (by omega))
  have HY := hide (fun W => refWide_any y 4 W (by omega) (by omega))
  have HE : Hid (bts (dayT y m d) = ((bts (wideL d 1) ++ ⟨#[45]⟩) ++ bts (nmL (m - 1)) ++ ⟨#[45]⟩) ++ bts (wideL y 4)) := hide (by
    rw [← docW (y := y) (m := m) (d := d) (by omega) (by omega), show (⟨#[45]⟩ : ByteArray) = bts [45] from rfl, bts_app, bts_app, bts_app, bts_app]
    simp)
  obtain ⟨A, hA⟩ : ∃ A, A = bts (wideL d 1) := ⟨_, rfl⟩
  obtain ⟨Y, hY⟩ : ∃ Y, Y = bts (wideL y 4) := ⟨_, rfl⟩
  obtain ⟨M, hM⟩ : ∃ M, M = bts (nmL (m - 1)) := ⟨_, rfl⟩
  have sA : A.size ≤ 8 := by
    rw [hA, size_bts, wide_one (by omega)]
    split <;> simp
  have sY : Y.size ≤ 8 := by rw [hY, size_bts, wide_four (by omega)]; simp [twoL]
  have sM : M.size ≤ 8 := by rw [hM, size_bts, nmL_len (m - 1) (by omega)]; omega
  have hsl : ∀ W : World, (Instr.slice 9 (.string ⟨#[74, 97, 110, 70, 101, 98, 77, 97, 114, 65, 112, 114, 77, 97, 121, 74, 117, 110, 74, 117, 108, 65, 117, 103, 83, 101, 112, 79, 99, 116, 78, 111, 118, 68, 101, 99]⟩) (some (.int .i64 (3 * (m : Int) - 3))) (some (.int .i64 (3 * (m : Int)))) none).run Tryd.prog W = .ok (.string M) W := by
    intro W
    have := slice_km (bts [74, 97, 110, 70, 101, 98, 77, 97, 114, 65, 112, 114, 77, 97, 121, 74, 117, 110, 74, 117, 108, 65, 117, 103, 83, 101, 112, 79, 99, 116, 78, 111, 118, 68, 101, 99]) ((m - 1) * 3) 3 (by rw [size_bts]; simp; omega) W
    rw [name_part (m - 1) (by omega), ← hM] at this
    rwa [show (((m - 1) * 3 : Nat) : Int) = 3 * (m : Int) - 3 by omega, show 3 * (m : Int) - 3 + ((3 : Nat) : Int) = 3 * (m : Int) by omega] at this
  rw [← hA] at HA HE
  rw [← hY] at HY HE
  rw [← hM] at HE
  have u1 : IntKind.i64.wrap (3 * (m : Int)) = 3 * (m : Int) := by rw [IntKind.wrap_i64]; omega
  have u2 : IntKind.i64.wrap (3 * (m : Int) - 3) = 3 * (m : Int) - 3 := by rw [IntKind.wrap_i64]; omega
  clear hv hn hA hY hM y1 y2 d1 d2 hdm
  go_enter Tryd.func51, Tryd.ntmps51
  go_wp2_with fail
  refine (unhide HI _).mono ?_
  rintro e w2 ⟨rfl, rfl⟩
  clear HI
  go_wp2
  go_region_with (first
    | (go_at_call_of 52 (Value.int IntKind.i64 (d : Int)); refine (unhide HA _).mono ?_; rintro e wA ⟨rfl, bA⟩)
    | (go_at_call_of 52 (Value.int IntKind.i64 (y : Int)); refine (unhide HY _).mono ?_; rintro e wY ⟨rfl, bY⟩))
  all_goals
    have HB := hide (belows' (below_drew0 bA) bY)
    clear bA bY
    go_simp
    go_wp2
    go_ret2
    exact ⟨ret_strE (unhide HE).symm, unhide HB⟩
end Go.Proofs.YthpjogfclklefaaDoor
