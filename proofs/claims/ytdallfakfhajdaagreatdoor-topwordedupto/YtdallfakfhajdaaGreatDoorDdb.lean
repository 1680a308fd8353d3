/-
  What date.Day and the document's Day do, over this seat's program.
-/
import Derived.Test.YtdallfakfhajdaaGreatDoorDda
set_option linter.unusedVariables false
namespace Go.Proofs.YtdallfakfhajdaaGreatDoor
open Go.RowKit Go.Proofs.Dcl

/-- What Day tells. -/
def dayV (y m d : Int) : Value := if vldB y m d then .tuple #[.int .i64 (num y m d), .int .i64 0] else .tuple #[.int .i64 0, .int .i64 1]
theorem dayV_t {y m d : Int} (h : vldB y m d = true) : dayV y m d = .tuple #[.int .i64 (num y m d), .int .i64 0] := by simp [dayV, h]
theorem dayV_f {y m d : Int} (h : vldB y m d = false) : dayV y m d = .tuple #[.int .i64 0, .int .i64 1] := by simp [dayV, h]

theorem ret_two {a b : Int} {k : IntKind} {v : Value} (h : a = b) : Ending.returned (.tuple #[.int k a, v]) = .returned (.tuple #[.int k b, v]) := by rw [h]


set_option maxHeartbeats 4000000 in
theorem day_any (y m d : Int) (w : World) (ht : LTab w) :
    Calls Tryz.prog 64 #[.int .i64 y, .int .i64 m, .int .i64 d] w fun e w' => e = .returned (dayV y m d) ∧ w' = w := by
  cases hv : vldB y m d
  · rw [dayV_f hv]
    have hn := vld_not.1 hv
    clear hv
    by_cases a1 : y < 1
    · go_enter Tryz.func64, Tryz.ntmps64
      go_wp2
      go_ret2
      exact ⟨rfl, rfl⟩
    by_cases a2 : 9999 < y
    · go_enter Tryz.func64, Tryz.ntmps64
      go_wp2
      go_ret2
      exact ⟨rfl, rfl⟩
    by_cases a3 : m < 1
    · go_enter Tryz.func64, Tryz.ntmps64
      go_wp2
      go_ret2
      exact ⟨rfl, rfl⟩
    by_cases a4 : 12 < m
    · go_enter Tryz.func64, Tryz.ntmps64
      go_wp2
      go_ret2
      exact ⟨rfl, rfl⟩
    by_cases a5 : d < 1
    · go_enter Tryz.func64, Tryz.ntmps64
      go_wp2
      go_ret2
      exact ⟨rfl, rfl⟩
    have a6 : dim y m < d := by omega
    have HL := length_any y m w ht (by omega) (by omega) (by omega) (by omega)
    clear hn ht
    go_enter Tryz.func64, Tryz.ntmps64
    go_wp2_with (go_at_call 111; refine HL.mono ?_; rintro e w' ⟨rfl, rfl⟩)
    go_ret2
    exact ⟨rfl, rfl⟩
  · rw [dayV_t hv]
    obtain ⟨h1, h2, h3, h4, h5, h6⟩ := vld_iff.1 hv
    have HL := length_any y m w ht (by omega) (by omega) h3 h4
    have HF := firstDay_any y w h1 (by omega)
    have hb := ahd_bd y h1 (by omega)
    have hd := dim_bd y m
    clear hv
    go_enter Tryz.func64, Tryz.ntmps64
    go_wp2_with (first | (go_at_call 111; refine HL.mono ?_; rintro e w' ⟨rfl, rfl⟩) | (go_at_call 112; refine HF.mono ?_; rintro e w' ⟨rfl, rfl⟩))
    clear HL HF
    go_loop [8, 9] (fun n k => ∃ j : Int, 1 ≤ j ∧ j ≤ m ∧ k = .int .i64 j ∧ n = .int .i64 (-719162 + ahd y + d - 1 + cum y j)) (fun _ k => (m - intOf k).toNat)
    case atStart => exact ⟨1, by omega, by omega, rfl, by rw [cum_one]; simp⟩
    case round =>
      obtain ⟨j, j1, j2, rfl, rfl⟩ := hrel
      have cb := cum_bd y j j1 (by omega)
      by_cases hj : j < m
      · have cs := cum_succ y j j1 (by omega)
        have db := dim_bd y j
        have HL := length_any y j _ ht (by omega) (by omega) (by omega) (by omega)
        go_wp2_with (go_at_call 111; refine HL.mono ?_; rintro e w' ⟨rfl, rfl⟩)
        go_round
        case rel => exact ⟨j + 1, by omega, by omega, rfl, by rw [cs]; go_num⟩
        case measure => simp [intOf]; omega
      · obtain rfl : j = m := by omega
        go_wp2
        go_ret2
        exact ⟨ret_two (by unfold num; omega), rfl⟩

end Go.Proofs.YtdallfakfhajdaaGreatDoor
