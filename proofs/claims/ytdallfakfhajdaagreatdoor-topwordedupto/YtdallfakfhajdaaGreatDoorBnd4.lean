/-
  What the calendar's functions do, over this seat's program: date.isLong, length, firstDay, isDay, Weekday, and the document's leap, long, ahead, Weekday.
-/
import Derived.Test.YtdallfakfhajdaaGreatDoorProg
import Derived.Test.YtdallfakfhajdaaGreatDoorDcl
import Derived.WalkKit
import Derived.Deep.QuietTactic
import Derived.BigQuiet
set_option linter.unusedVariables false
namespace Go.Proofs.YtdallfakfhajdaaGreatDoor
open Go.RowKit Go.Proofs.Dcl

/-- The months' lengths lie in their variable. -/
structure LTab (w : World) : Prop where
  size : 1 < w.heap.size
  cells : ∀ j : Nat, j < 12 → w.cell? ⟨1, j, none⟩ = some (.int .i64 (([31, 28, 31, 30, 31, 30, 31, 31, 30, 31, 30, 31] : List Int).getD j 0))

theorem LTab.below {w w' : World} (h : LTab w) (hb : Below w.heap.size w w') : LTab w' := by
  have hz := hb.size
  have h5 := h.size
  refine ⟨by omega, fun j hj => ?_⟩
  rw [hb.cell (p := ⟨1, j, none⟩) h5]; exact h.cells j hj

theorem ret_int {k : IntKind} {a b : Int} (h : a = b) : Ending.returned (.int k a) = .returned (.int k b) := by rw [h]

theorem leap_t {y : Int} (h : leapB y = true) : (y % 4 = 0 ∧ y % 100 ≠ 0) ∨ y % 400 = 0 := by simpa [leapB] using h
theorem leap_f {y : Int} (h : leapB y = false) : ¬ ((y % 4 = 0 ∧ y % 100 ≠ 0) ∨ y % 400 = 0) := by unfold leapB at h; exact of_decide_eq_false h

set_option maxHeartbeats 1000000 in
theorem isLong_any (y : Int) (w : World) (h1 : 0 ≤ y) (h2 : y ≤ 10000) :
    Calls Tryz.prog 140 #[.int .i64 y] w fun e w' => e = .returned (.bool (leapB y)) ∧ w' = w := by
  by_cases a : y % 4 = 0
  · by_cases b : y % 100 = 0
    · by_cases c : y % 400 = 0
      · have e : leapB y = true := by simp [leapB, c]
        rw [e]
        go_enter Tryz.func140, Tryz.ntmps140
        go_wp2
        go_ret
        exact ⟨rfl, rfl⟩
      · have e : leapB y = false := by simp [leapB, a, b, c]
        have c' : (y % 400 == 0) = false := by simpa using c
        rw [e]
        go_enter Tryz.func140, Tryz.ntmps140
        go_wp2
        go_ret
        exact ⟨rfl, rfl⟩
    · have e : leapB y = true := by simp [leapB, a, b]
      rw [e]
      go_enter Tryz.func140, Tryz.ntmps140
      go_wp2
      go_ret
      exact ⟨rfl, rfl⟩
  · have c : ¬ y % 400 = 0 := by omega
    have e : leapB y = false := by simp [leapB, a, c]
    have c' : (y % 400 == 0) = false := by simpa using c
    rw [e]
    go_enter Tryz.func140, Tryz.ntmps140
    go_wp2
    go_ret
    exact ⟨rfl, rfl⟩

set_option maxHeartbeats 2000000 in
theorem length_any (y m : Int) (w : World) (ht : LTab w) (h1 : 0 ≤ y) (h2 : y ≤ 10000) (h3 : 1 ≤ m) (h4 : m ≤ 12) :
    Calls Tryz.prog 111 #[.int .i64 y, .int .i64 m] w fun e w' => e = .returned (.int .i64 (dim y m)) ∧ w' = w := by
  have HI := fun W => isLong_any y W h1 h2
  by_cases e2 : m = 2
  · subst e2
    have c1 := ht.cells 1 (by omega)
    simp only [List.getD_cons_succ, List.getD_cons_zero] at c1
    cases hl : leapB y
    · rw [hl] at HI
      have ed : dim y 2 = 28 := by simp [dim, lp, hl]
      rw [ed]
      clear ht
      go_enter Tryz.func111, Tryz.ntmps111
      go_wp2_with (go_at_call 140; refine (HI _).mono ?_; rintro e w' ⟨rfl, rfl⟩)
      go_ret
      exact ⟨rfl, rfl⟩
    · rw [hl] at HI
      have ed : dim y 2 = 29 := by simp [dim, lp, hl]
      rw [ed]
      clear ht
      go_enter Tryz.func111, Tryz.ntmps111
      go_wp2_with (go_at_call 140; refine (HI _).mono ?_; rintro e w' ⟨rfl, rfl⟩)
      go_ret
      exact ⟨rfl, rfl⟩
  · have hm : m = 1 ∨ m = 3 ∨ m = 4 ∨ m = 5 ∨ m = 6 ∨ m = 7 ∨ m = 8 ∨ m = 9 ∨ m = 10 ∨ m = 11 ∨ m = 12 := by omega
    have c0 := ht.cells (m - 1).toNat (by omega)
    clear ht HI
    rcases hm with rfl | rfl | rfl | rfl | rfl | rfl | rfl | rfl | rfl | rfl | rfl
    all_goals
      simp at c0
      rw [show ∀ z, dim y z = if z = 2 then 28 + lp y else if z = 4 ∨ z = 6 ∨ z = 9 ∨ z = 11 then 30 else 31 from fun _ => rfl]
      simp
      go_enter Tryz.func111, Tryz.ntmps111
      go_wp2
      go_ret
      exact ⟨rfl, rfl⟩

set_option maxHeartbeats 1000000 in
theorem firstDay_any (y : Int) (w : World) (h1 : 1 ≤ y) (h2 : y ≤ 10000) :
    Calls Tryz.prog 112 #[.int .i64 y] w fun e w' => e = .returned (.int .i64 (-719162 + ahd y)) ∧ w' = w := by
  obtain ⟨z, hz⟩ : ∃ z, z = y - 1 := ⟨_, rfl⟩
  obtain rfl : y = z + 1 := by omega
  have g1 : 0 ≤ z := by omega
  have g2 : z ≤ 9999 := by omega
  clear hz h1 h2
  go_enter Tryz.func112, Tryz.ntmps112
  go_wp2
  go_ret
  exact ⟨ret_int (by unfold ahd; omega), rfl⟩

def dayB (n : Int) : Bool := decide (-719162 ≤ n ∧ n ≤ 2932896)
theorem dayB_t {n : Int} (h : dayB n = true) : -719162 ≤ n ∧ n ≤ 2932896 := by simpa [dayB] using h
theorem dayB_f {n : Int} (h : dayB n = false) : n < -719162 ∨ 2932896 < n := by
  unfold dayB at h
  have := of_decide_eq_false h
  omega

set_option maxHeartbeats 1000000 in
theorem isDay_any (n : Int) (w : World) :
    Calls Tryz.prog 49 #[.int .i64 n] w fun e w' => e = .returned (.bool (dayB n)) ∧ w' = w := by
  by_cases a : -719162 ≤ n
  · by_cases b : n ≤ 2932896
    · have e : dayB n = true := by simp [dayB, a, b]
      rw [e]
      go_enter Tryz.func49, Tryz.ntmps49
      go_wp2
      go_ret
      exact ⟨rfl, rfl⟩
    · have e : dayB n = false := by simp [dayB, a, b]
      rw [e]
      go_enter Tryz.func49, Tryz.ntmps49
      go_wp2
      go_ret
      exact ⟨rfl, rfl⟩
  · have e : dayB n = false := by simp [dayB, a]
    rw [e]
    go_enter Tryz.func49, Tryz.ntmps49
    go_wp2
    go_ret
    exact ⟨rfl, rfl⟩

/-- What Weekday tells. -/
def weekV (n : Int) : Value := if dayB n then .tuple #[.int .i64 ((n + 719163) % 7), .int .i64 0] else .tuple #[.int .i64 0, .int .i64 1]

end Go.Proofs.YtdallfakfhajdaaGreatDoor

/-
  What date.Day and the document's Day do, over this seat's program.
-/
set_option linter.unusedVariables false
namespace Go.Proofs.YtdallfakfhajdaaGreatDoor
open Go.RowKit Go.Proofs.Dcl

/-- What Day tells. -/
def dayV (y m d : Int) : Value := if vldB y m d then .tuple #[.int .i64 (num y m d), .int .i64 0] else .tuple #[.int .i64 0, .int .i64 1]
theorem dayV_t {y m d : Int} (h : vldB y m d = true) : dayV y m d = .tuple #[.int .i64 (num y m d), .int .i64 0] := by simp [dayV, h]
theorem dayV_f {y m d : Int} (h : vldB y m d = false) : dayV y m d = .tuple #[.int .i64 0, .int .i64 1] := by simp [dayV, h]

theorem ret_two {a b : Int} {k : IntKind} {v : Value} (h : a = b) : Ending.returned (.tuple #[.int k a, v]) = .returned (.tuple #[.int k b, v]) := by rw [h]


set_option maxHeartbeats 4000000 in
theorem day_any (y m d : Int) (w : World) (ht : LTab w) :
    Calls Tryz.prog 64 #[.int .i64 y, .int .i64 m, .int .i64 d] w fun e w' => e = .returned (dayV y m d) ∧ w' = w := by
  cases hv : vldB y m d
  · rw [dayV_f hv]
    have hn := vld_not.1 hv
    clear hv
    by_cases a1 : y < 1
    · go_enter Tryz.func64, Tryz.ntmps64
      go_wp2
      go_ret2
      exact ⟨rfl, rfl⟩
    by_cases a2 : 9999 < y
    · go_enter Tryz.func64, Tryz.ntmps64
      go_wp2
      go_ret2
      exact ⟨rfl, rfl⟩
    by_cases a3 : m < 1
    · go_enter Tryz.func64, Tryz.ntmps64
      go_wp2
      go_ret2
      exact ⟨rfl, rfl⟩
    by_cases a4 : 12 < m
    · go_enter Tryz.func64, Tryz.ntmps64
      go_wp2
      go_ret2
      exact ⟨rfl, rfl⟩
    by_cases a5 : d < 1
    · go_enter Tryz.func64, Tryz.ntmps64
      go_wp2
      go_ret2
      exact ⟨rfl, rfl⟩
    have a6 : dim y m < d := by omega
    have HL := length_any y m w ht (by omega) (by omega) (by omega) (by omega)
    clear hn ht
    go_enter Tryz.func64, Tryz.ntmps64
    go_wp2_with (go_at_call 111; refine HL.mono ?_; rintro e w' ⟨rfl, rfl⟩)
    go_ret2
    exact ⟨rfl, rfl⟩
  · rw [dayV_t hv]
    obtain ⟨h1, h2, h3, h4, h5, h6⟩ := vld_iff.1 hv
    have HL := length_any y m w ht (by omega) (by omega) h3 h4
    have HF := firstDay_any y w h1 (by omega)
    have hb := ahd_bd y h1 (by omega)
    have hd := dim_bd y m
    clear hv
    go_enter Tryz.func64, Tryz.ntmps64
    go_wp2_with (first | (go_at_call 111; refine HL.mono ?_; rintro e w' ⟨rfl, rfl⟩) | (go_at_call 112; refine HF.mono ?_; rintro e w' ⟨rfl, rfl⟩))
    clear HL HF
    go_loop [8, 9] (fun n k => ∃ j : Int, 1 ≤ j ∧ j ≤ m ∧ k = .int .i64 j ∧ n = .int .i64 (-719162 + ahd y + d - 1 + cum y j)) (fun _ k => (m - intOf k).toNat)
    case atStart => exact ⟨1, by omega, by omega, rfl, by rw [cum_one]; simp⟩
    case round =>
      obtain ⟨j, j1, j2, rfl, rfl⟩ := hrel
      have cb := cum_bd y j j1 (by omega)
      by_cases hj : j < m
      · have cs := cum_succ y j j1 (by omega)
        have db := dim_bd y j
        have HL := length_any y j _ ht (by omega) (by omega) (by omega) (by omega)
        go_wp2_with (go_at_call 111; refine HL.mono ?_; rintro e w' ⟨rfl, rfl⟩)
        go_round
        case rel => exact ⟨j + 1, by omega, by omega, rfl, by rw [cs]; go_num⟩
        case measure => simp [intOf]; omega
      · obtain rfl : j = m := by omega
        go_wp2
        go_ret2
        exact ⟨ret_two (by unfold num; omega), rfl⟩

end Go.Proofs.YtdallfakfhajdaaGreatDoor

/-
  What the document's Civil does, over this seat's program.
-/
set_option linter.unusedVariables false
namespace Go.Proofs.YtdallfakfhajdaaGreatDoor
open Go.RowKit Go.Proofs.Dcl

theorem hid {p : Prop} (h : p) : Hid p := h
theorem unhid {p : Prop} (h : Hid p) : p := h

theorem results_tmp4 {fn : Func} {t u v x : Tmp} (h : fn.results = #[.tmp t, .tmp u, .tmp v, .tmp x]) (tmps : Array Value) (P : Program) (w : World) :
    (results fn tmps).run P w = .ok (.tuple #[tmps.getD t undef, tmps.getD u undef, tmps.getD v undef, tmps.getD x undef]) w := by
  simp [results, h]

/-- A step of the search for a year, and how far the year may lie. -/
def Step (S Q : Int) : Prop := (S = 0 ∧ Q = 1) ∨ (∃ j : Nat, j ≤ 13 ∧ S = (2 ^ j : Nat) ∧ Q = (2 ^ (j + 1) : Nat))
theorem step_half {S Q : Int} (h : Step S Q) (h0 : 0 < S) : Step (S / 2) S ∧ Q = 2 * S ∧ S ≤ 8192 := by
  rcases h with ⟨rfl, _⟩ | ⟨j, hj, rfl, rfl⟩
  · omega
  · have hle : (2 : Nat) ^ j ≤ 2 ^ 13 := Nat.pow_le_pow_right (by omega) hj
    have h13 : (2 : Nat) ^ 13 = 8192 := by decide
    refine ⟨?_, ?_, by omega⟩
    · cases j with
      | zero => left; simp
      | succ i =>
        right
        refine ⟨i, by omega, ?_, rfl⟩
        rw [Nat.pow_succ]; omega
    · rw [Nat.pow_succ]; omega
theorem step_first : Step 8192 16384 := Or.inr ⟨13, by omega, by decide, by decide⟩
theorem step_end {S Q : Int} (h : Step S Q) (h0 : ¬ 0 < S) : Q = 1 := by
  rcases h with ⟨_, h⟩ | ⟨j, hj, rfl, _⟩
  · exact h
  · have : 0 < (2 : Nat) ^ j := Nat.pow_pos (by omega)
    omega

theorem num_of (n y k : Int) : num y k (n + 719162 - ahd y - cum y k + 1) = n := by unfold num; omega
theorem vld_of (n y k : Int) (a : 1 ≤ y) (b : y ≤ 9999) (k1 : 1 ≤ k) (k2 : k ≤ 12) (c : 0 ≤ n + 719162 - ahd y - cum y k) (d : n + 719162 - ahd y - cum y k < dim y k) : vldB y k (n + 719162 - ahd y - cum y k + 1) = true :=
  vld_iff.2 ⟨a, b, k1, k2, by omega, by omega⟩

/-- What Civil tells of a number: its day. -/
def CivIs (n : Int) (v : Value) : Prop := (dayB n = false ∧ v = .tuple #[.int .i64 0, .int .i64 0, .int .i64 0, .int .i64 1]) ∨ (dayB n = true ∧ ∃ y m d : Int, vldB y m d = true ∧ num y m d = n ∧ v = .tuple #[.int .i64 y, .int .i64 m, .int .i64 d, .int .i64 0])
theorem CivIs.no {n : Int} {v : Value} (h : CivIs n v) (hd : dayB n = false) : v = .tuple #[.int .i64 0, .int .i64 0, .int .i64 0, .int .i64 1] := by
  rcases h with ⟨_, h⟩ | ⟨h, _⟩
  · exact h
  · rw [hd] at h; cases h
theorem CivIs.yes {n : Int} {v : Value} (h : CivIs n v) (hd : dayB n = true) : ∃ y m d : Int, vldB y m d = true ∧ num y m d = n ∧ v = .tuple #[.int .i64 y, .int .i64 m, .int .i64 d, .int .i64 0] := by
  rcases h with ⟨h, _⟩ | ⟨_, h⟩
  · rw [hd] at h; cases h
  · exact h

theorem day_of_vld {y m d : Int} (h : vldB y m d = true) : dayB (num y m d) = true := by
  have := num_bd h
  simp [dayB]; omega

theorem bound_after {n Y Q : Int} (hn : n ≤ 2932896) (hY : Y ≤ 9999) (hq : Q = 1) (h : Y + Q ≤ 9999 → n < -719162 + ahd (Y + Q)) : n < -719162 + ahd (Y + 1) := by
  subst hq
  by_cases e : Y = 9999
  · subst e
    have := ahd_max
    show n < -719162 + ahd 10000
    omega
  · exact h (by omega)

end Go.Proofs.YtdallfakfhajdaaGreatDoor
