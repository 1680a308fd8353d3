/-
  What the calendar's functions do, over this seat's program: date.isLong, length, firstDay, isDay, Weekday, and the document's leap, long, ahead, Weekday.
-/
import Derived.Test.YthpjogfclklefaaDoorProg
import Derived.Test.YthpjogfclklefaaDoorDcl
import Derived.WalkKit
import Derived.Deep.QuietTactic
import Derived.BigQuiet
set_option linter.unusedVariables false
namespace Go.Proofs.YthpjogfclklefaaDoor
open Go.RowKit Go.Proofs.Dcl

/-- The months' lengths lie in their variable. -/
structure LTab (w : World) : Prop where
  size : 0 < w.heap.size
  cells : ∀ j : Nat, j < 12 → w.cell? ⟨0, j, none⟩ = some (.int .i64 (([31, 28, 31, 30, 31, 30, 31, 31, 30, 31, 30, 31] : List Int).getD j 0))

theorem LTab.below {w w' : World} (h : LTab w) (hb : Below w.heap.size w w') : LTab w' := by
  have hz := hb.size
  have h5 := h.size
  refine ⟨by omega, fun j hj => ?_⟩
  rw [hb.cell (p := ⟨0, j, none⟩) h5]; exact h.cells j hj

theorem ret_int {k : IntKind} {a b : Int} (h : a = b) : Ending.returned (.int k a) = .returned (.int k b) := by rw [h]

theorem leap_t {y : Int} (h : leapB y = true) : (y % 4 = 0 ∧ y % 100 ≠ 0) ∨ y % 400 = 0 := by simpa [leapB] using h
theorem leap_f {y : Int} (h : leapB y = false) : ¬ ((y % 4 = 0 ∧ y % 100 ≠ 0) ∨ y % 400 = 0) := by unfold leapB at h; exact of_decide_eq_false h

set_option maxHeartbeats 1000000 in
theorem isLong_any (y : Int) (w : World) (h1 : 0 ≤ y) (h2 : y ≤ 10000) :
    Calls Tryd.prog 77 #[.int .i64 y] w fun e w' => e = .returned (.bool (leapB y)) ∧ w' = w := by
  by_cases a : y % 4 = 0
  · by_cases b : y % 100 = 0
    · by_cases c : y % 400 = 0
      · have e : leapB y = true := by simp [leapB, c]
        rw [e]
        go_enter Tryd.func77, Tryd.ntmps77
        go_wp2
        go_ret
        exact ⟨rfl, rfl⟩
      · have e : leapB y = false := by simp [leapB, a, b, c]
        have c' : (y % 400 == 0) = false := by simpa using c
        rw [e]
        go_enter Tryd.func77, Tryd.ntmps77
        go_wp2
        go_ret
        exact ⟨rfl, rfl⟩
    · have e : leapB y = true := by simp [leapB, a, b]
      rw [e]
      go_enter Tryd.func77, Tryd.ntmps77
      go_wp2
      go_ret
      exact ⟨rfl, rfl⟩
  · have c : ¬ y % 400 = 0 := by omega
    have e : leapB y = false := by simp [leapB, a, c]
    have c' : (y % 400 == 0) = false := by simpa using c
    rw [e]
    go_enter Tryd.func77, Tryd.ntmps77
    go_wp2
    go_ret
    exact ⟨rfl, rfl⟩

set_option maxHeartbeats 1000000 in
theorem refLeap_any (y : Int) (w : World) (h1 : 0 ≤ y) (h2 : y ≤ 10000) :
    Calls Tryd.prog 78 #[.int .i64 y] w fun e w' => e = .returned (.bool (leapB y)) ∧ w' = w := by
  by_cases a : y % 4 = 0
  · by_cases b : y % 100 = 0
    · by_cases c : y % 400 = 0
      · have e : leapB y = true := by simp [leapB, c]
        rw [e]
        go_enter Tryd.func78, Tryd.ntmps78
        go_wp2
        go_ret
        exact ⟨rfl, rfl⟩
      · have e : leapB y = false := by simp [leapB, a, b, c]
        have c' : (y % 400 == 0) = false := by simpa using c
        rw [e]
        go_enter Tryd.func78, Tryd.ntmps78
        go_wp2
        go_ret
        exact ⟨rfl, rfl⟩
    · have e : leapB y = true := by simp [leapB, a, b]
      rw [e]
      go_enter Tryd.func78, Tryd.ntmps78
      go_wp2
      go_ret
      exact ⟨rfl, rfl⟩
  · have c : ¬ y % 400 = 0 := by omega
    have e : leapB y = false := by simp [leapB, a, c]
    have c' : (y % 400 == 0) = false := by simpa using c
    rw [e]
    go_enter Tryd.func78, Tryd.ntmps78
    go_wp2
    go_ret
    exact ⟨rfl, rfl⟩

set_option maxHeartbeats 2000000 in
theorem length_any (y m : Int) (w : World) (ht : LTab w) (h1 : 0 ≤ y) (h2 : y ≤ 10000) (h3 : 1 ≤ m) (h4 : m ≤ 12) :
    Calls Tryd.prog 71 #[.int .i64 y, .int .i64 m] w fun e w' => e = .returned (.int .i64 (dim y m)) ∧ w' = w := by
  have HI := fun W => isLong_any y W h1 h2
  by_cases e2 : m = 2
  · subst e2
    have c1 := ht.cells 1 (by omega)
    simp only [List.getD_cons_succ, List.getD_cons_zero] at c1
    cases hl : leapB y
    · rw [hl] at HI
      have ed : dim y 2 = 28 := by simp [dim, lp, hl]
      rw [ed]
      clear ht
      go_enter Tryd.func71, Tryd.ntmps71
      go_wp2_with (go_at_call 77; refine (HI _).mono ?_; rintro e w' ⟨rfl, rfl⟩)
      go_ret
      exact ⟨rfl, rfl⟩
    · rw [hl] at HI
      have ed : dim y 2 = 29 := by simp [dim, lp, hl]
      rw [ed]
      clear ht
      go_enter Tryd.func71, Tryd.ntmps71
      go_wp2_with (go_at_call 77; refine (HI _).mono ?_; rintro e w' ⟨rfl, rfl⟩)
      go_ret
      exact ⟨rfl, rfl⟩
  · have hm : m = 1 ∨ m = 3 ∨ m = 4 ∨ m = 5 ∨ m = 6 ∨ m = 7 ∨ m = 8 ∨ m = 9 ∨ m = 10 ∨ m = 11 ∨ m = 12 := by omega
    have c0 := ht.cells (m - 1).toNat (by omega)
    clear ht HI
    rcases hm with rfl | rfl | rfl | rfl | rfl | rfl | rfl | rfl | rfl | rfl | rfl
    all_goals
      simp at c0
      rw [show ∀ z, dim y z = if z = 2 then 28 + lp y else if z = 4 ∨ z = 6 ∨ z = 9 ∨ z = 11 then 30 else 31 from fun _ => rfl]
      simp
      go_enter Tryd.func71, Tryd.ntmps71
      go_wp2
      go_ret
      exact ⟨rfl, rfl⟩

set_option maxHeartbeats 2000000 in
theorem refLong_any (y m : Int) (w : World) (h1 : 0 ≤ y) (h2 : y ≤ 10000) (h3 : 1 ≤ m) (h4 : m ≤ 12) :
    Calls Tryd.prog 75 #[.int .i64 y, .int .i64 m] w fun e w' => e = .returned (.int .i64 (dim y m)) ∧ w' = w := by
  have HI := fun W => refLeap_any y W h1 h2
  by_cases e2 : m = 2
  · subst e2
    cases hl : leapB y
    · rw [hl] at HI
      have ed : dim y 2 = 28 := by simp [dim, lp, hl]
      rw [ed]
      go_enter Tryd.func75, Tryd.ntmps75
      go_wp2_with (go_at_call 78; refine (HI _).mono ?_; rintro e w' ⟨rfl, rfl⟩)
      go_ret
      exact ⟨rfl, rfl⟩
    · rw [hl] at HI
      have ed : dim y 2 = 29 := by simp [dim, lp, hl]
      rw [ed]
      go_enter Tryd.func75, Tryd.ntmps75
      go_wp2_with (go_at_call 78; refine (HI _).mono ?_; rintro e w' ⟨rfl, rfl⟩)
      go_ret
      exact ⟨rfl, rfl⟩
  · have hm : m = 1 ∨ m = 3 ∨ m = 4 ∨ m = 5 ∨ m = 6 ∨ m = 7 ∨ m = 8 ∨ m = 9 ∨ m = 10 ∨ m = 11 ∨ m = 12 := by omega
    clear HI
    rcases hm with rfl | rfl | rfl | rfl | rfl | rfl | rfl | rfl | rfl | rfl | rfl
    all_goals
      rw [show ∀ z, dim y z = if z = 2 then 28 + lp y else if z = 4 ∨ z = 6 ∨ z = 9 ∨ z = 11 then 30 else 31 from fun _ => rfl]
      simp
      go_enter Tryd.func75, Tryd.ntmps75
      go_wp2
      go_ret
      exact ⟨rfl, rfl⟩

set_option maxHeartbeats 1000000 in
theorem firstDay_any (y : Int) (w : World) (h1 : 1 ≤ y) (h2 : y ≤ 10000) :
    Calls Tryd.prog 70 #[.int .i64 y] w fun e w' => e = .returned (.int .i64 (-719162 + ahd y)) ∧ w' = w := by
  obtain ⟨z, hz⟩ : ∃ z, z = y - 1 := ⟨_, rfl⟩
  obtain rfl : y = z + 1 := by omega
  have g1 : 0 ≤ z := by omega
  have g2 : z ≤ 9999 := by omega
  clear hz h1 h2
  go_enter Tryd.func70, Tryd.ntmps70
  go_wp2
  go_ret
  exact ⟨ret_int (by unfold ahd; omega), rfl⟩

set_option maxHeartbeats 1000000 in
theorem refAhead_any (y : Int) (w : World) (h1 : 1 ≤ y) (h2 : y ≤ 10000) :
    Calls Tryd.prog 74 #[.int .i64 y] w fun e w' => e = .returned (.int .i64 (ahd y)) ∧ w' = w := by
  obtain ⟨z, hz⟩ : ∃ z, z = y - 1 := ⟨_, rfl⟩
  obtain rfl : y = z + 1 := by omega
  have g1 : 0 ≤ z := by omega
  have g2 : z ≤ 9999 := by omega
  clear hz h1 h2
  go_enter Tryd.func74, Tryd.ntmps74
  go_wp2
  go_ret
  exact ⟨ret_int (by unfold ahd; omega), rfl⟩

def dayB (n : Int) : Bool := decide (-719162 ≤ n ∧ n ≤ 2932896)
theorem dayB_t {n : Int} (h : dayB n = true) : -719162 ≤ n ∧ n ≤ 2932896 := by simpa [dayB] using h
theorem dayB_f {n : Int} (h : dayB n = false) : n < -719162 ∨ 2932896 < n := by
  unfold dayB at h
  have := of_decide_eq_false h
  omega

set_option maxHeartbeats 1000000 in
theorem isDay_any (n : Int) (w : World) :
    Calls Tryd.prog 65 #[.int .i64 n] w fun e w' => e = .returned (.bool (dayB n)) ∧ w' = w := by
  by_cases a : -719162 ≤ n
  · by_cases b : n ≤ 2932896
    · have e : dayB n = true := by simp [dayB, a, b]
      rw [e]
      go_enter Tryd.func65, Tryd.ntmps65
      go_wp2
      go_ret
      exact ⟨rfl, rfl⟩
    · have e : dayB n = false := by simp [dayB, a, b]
      rw [e]
      go_enter Tryd.func65, Tryd.ntmps65
      go_wp2
      go_ret
      exact ⟨rfl, rfl⟩
  · have e : dayB n = false := by simp [dayB, a]
    rw [e]
    go_enter Tryd.func65, Tryd.ntmps65
    go_wp2
    go_ret
    exact ⟨rfl, rfl⟩

/-- What Weekday tells. -/
def weekV (n : Int) : Value := if dayB n then .tuple #[.int .i64 ((n + 719163) % 7), .int .i64 0] else .tuple #[.int .i64 0, .int .i64 1]

end Go.Proofs.YthpjogfclklefaaDoor
