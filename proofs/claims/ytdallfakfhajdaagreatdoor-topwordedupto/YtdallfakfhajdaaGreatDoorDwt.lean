/-
  What date.Write, isRight and WriteTime do, over this seat's program.
-/
import Derived.Test.YtdallfakfhajdaaGreatDoorDwr
set_option linter.unusedVariables false
namespace Go.Proofs.YtdallfakfhajdaaGreatDoor
open Go.RowKit Go.Proofs.Dcl

theorem find_step (f : Nat → Int) (r : Int) (h1 : f 1 ≤ r) (j : Nat) : (∃ m, 1 ≤ m ∧ m ≤ j ∧ f m ≤ r ∧ r < f (m + 1)) ∨ f (j + 1) ≤ r := by
  induction j with
  | zero => exact .inr h1
  | succ j ih =>
    rcases ih with ⟨m, a, b, c, d⟩ | h
    · exact .inl ⟨m, a, by omega, c, d⟩
    · by_cases hr : f (j + 1 + 1) ≤ r
      · exact .inr hr
      · exact .inl ⟨j + 1, by omega, by omega, h, by omega⟩

/-- A number that is a day's has its day. -/
theorem day_exists {n : Int} (h : dayB n = true) : ∃ y m d : Nat, vldB y m d = true ∧ num y m d = n := by
  obtain ⟨a, b⟩ := dayB_t h
  obtain ⟨c, _, c1, hlo, hup⟩ := year_of n a b
  obtain ⟨Y, hY⟩ : ∃ Y : Nat, (Y : Int) = 1 + (c : Int) := ⟨1 + c, by omega⟩
  rw [← hY] at hlo hup
  have hs := ahd_succ Y
  rcases find_step (fun m => cum Y m) (n + 719162 - ahd Y) (by rw [show ((1 : Nat) : Int) = 1 from rfl, cum_one]; omega) 12 with ⟨m, m1, m2, ha, hb⟩ | hbad
  · have hcs := cum_succ Y m (by omega) (by omega)
    rw [show ((m + 1 : Nat) : Int) = (m : Int) + 1 by omega, hcs] at hb
    refine ⟨Y, m, (n + 719162 - ahd Y - cum Y m + 1).toNat, ?_, ?_⟩
    · rw [show (((n + 719162 - ahd Y - cum Y m + 1).toNat : Nat) : Int) = n + 719162 - ahd Y - cum Y m + 1 by omega]
      exact vld_of n Y m (by omega) (by omega) (by omega) (by omega) (by omega) (by omega)
    · rw [show (((n + 719162 - ahd Y - cum Y m + 1).toNat : Nat) : Int) = n + 719162 - ahd Y - cum Y m + 1 by omega]
      exact num_of n Y m
  · have := cum_13 Y
    have e : cum (Y : Int) ((12 + 1 : Nat) : Int) = cum Y 13 := rfl
    omega

set_option maxHeartbeats 1000000 in
theorem write_no (n : Int) (w : World) (h : dayB n = false) :
    Calls Tryz.prog 21 #[.int .i64 n] w fun e w' => e = .returned (.tuple #[.string (bts []), .int .i64 1]) ∧ w' = w := by
  have HI := fun W => isDay_any n W
  rw [h] at HI
  go_enter Tryz.func21, Tryz.ntmps21
  go_wp2_with (go_at_call 49; refine (HI _).mono ?_; rintro e w' ⟨rfl, rfl⟩)
  go_ret2
  exact ⟨rfl, rfl⟩

set_option maxHeartbeats 1000000 in
theorem write_yes (y m d : Nat) (n : Int) (w : World) (ht : LTab w) (hv : vldB y m d = true) (hn : num y m d = n) :
    Calls Tryz.prog 21 #[.int .i64 n] w fun e w' => e = .returned (.tuple #[.string (bts (dayT y m d)), .int .i64 0]) ∧ Below w.heap.size w w' := by
  have HI := fun W => isDay_any n W
  rw [← hn, day_of_vld hv, hn] at HI
  have HD := hide (wDay (Wr.new w) ht y m d hv n hn (by simp))
  rw [List.nil_append] at HD
  clear hv hn ht
  go_enter Tryz.func21, Tryz.ntmps21
  go_wp2_with (go_at_call 49; refine (HI _).mono ?_; rintro e w' ⟨rfl, rfl⟩)
  refine (unhide HD).mono ?_
  rintro e W1 ⟨rfl, h⟩
  have HS := hide (Tryz.Builder_String_any_f _ _ _ W1 h.isb h.bel.size)
  have HB := hide h.bel
  clear h HD
  go_wp2_with fail
  refine (unhide HS).mono ?_
  rintro e W2 ⟨rfl, _, hb⟩
  have HB2 := hide ((unhide HB).trans hb)
  clear hb HS
  go_wp2
  go_ret2
  exact ⟨rfl, unhide HB2⟩

def rightB (d s z : Int) : Bool := dayB d && decide (0 ≤ s ∧ s ≤ 86399 ∧ -5999 ≤ z ∧ z ≤ 5999)

end Go.Proofs.YtdallfakfhajdaaGreatDoor
