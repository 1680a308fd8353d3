/-
  Plain mathematics of the calendar: days of a year, of a month, a day's number; a number has one day alone.
-/
import Derived.ProofKit
set_option linter.unusedVariables false
namespace Go.Proofs.Dcl

def leapB (y : Int) : Bool := decide ((y % 4 = 0 ∧ y % 100 ≠ 0) ∨ y % 400 = 0)
def lp (y : Int) : Int := if leapB y then 1 else 0
def dim (y m : Int) : Int := if m = 2 then 28 + lp y else if m = 4 ∨ m = 6 ∨ m = 9 ∨ m = 11 then 30 else 31
def ahd (y : Int) : Int := 365 * (y - 1) + (y - 1) / 4 - (y - 1) / 100 + (y - 1) / 400
def cumT (m : Int) : Int :=
  if m ≤ 1 then 0 else if m = 2 then 31 else if m = 3 then 59 else if m = 4 then 90 else if m = 5 then 120 else if m = 6 then 151 else if m = 7 then 181 else if m = 8 then 212 else if m = 9 then 243 else if m = 10 then 273 else if m = 11 then 304 else if m = 12 then 334 else 365
def cum (y m : Int) : Int := cumT m + if 3 ≤ m then lp y else 0
def num (y m d : Int) : Int := -719162 + ahd y + cum y m + d - 1
def vldB (y m d : Int) : Bool := decide (1 ≤ y ∧ y ≤ 9999 ∧ 1 ≤ m ∧ m ≤ 12 ∧ 1 ≤ d ∧ d ≤ dim y m)

theorem lp_01 (y : Int) : lp y = 0 ∨ lp y = 1 := by unfold lp; split <;> simp
theorem dim_bd (y m : Int) : 28 ≤ dim y m ∧ dim y m ≤ 31 := by
  have := lp_01 y
  unfold dim; split
  · omega
  · split <;> omega
theorem cum_succ (y m : Int) (h1 : 1 ≤ m) (h2 : m ≤ 12) : cum y (m + 1) = cum y m + dim y m := by
  have : m = 1 ∨ m = 2 ∨ m = 3 ∨ m = 4 ∨ m = 5 ∨ m = 6 ∨ m = 7 ∨ m = 8 ∨ m = 9 ∨ m = 10 ∨ m = 11 ∨ m = 12 := by omega
  rcases this with rfl | rfl | rfl | rfl | rfl | rfl | rfl | rfl | rfl | rfl | rfl | rfl <;> simp [cum, cumT, dim] <;> omega
theorem cum_bd (y m : Int) (h1 : 1 ≤ m) (h2 : m ≤ 13) : 0 ≤ cum y m ∧ cum y m ≤ 366 := by
  have := lp_01 y
  have : m = 1 ∨ m = 2 ∨ m = 3 ∨ m = 4 ∨ m = 5 ∨ m = 6 ∨ m = 7 ∨ m = 8 ∨ m = 9 ∨ m = 10 ∨ m = 11 ∨ m = 12 ∨ m = 13 := by omega
  rcases this with rfl | rfl | rfl | rfl | rfl | rfl | rfl | rfl | rfl | rfl | rfl | rfl | rfl <;> simp [cum, cumT] <;> omega
theorem cum_one (y : Int) : cum y 1 = 0 := by simp [cum, cumT]
theorem cum_13 (y : Int) : cum y 13 = 365 + lp y := by simp [cum, cumT]
theorem cum_end (y m : Int) (h1 : 1 ≤ m) (h2 : m ≤ 12) : cum y m + dim y m ≤ 365 + lp y := by
  have := lp_01 y
  have : m = 1 ∨ m = 2 ∨ m = 3 ∨ m = 4 ∨ m = 5 ∨ m = 6 ∨ m = 7 ∨ m = 8 ∨ m = 9 ∨ m = 10 ∨ m = 11 ∨ m = 12 := by omega
  rcases this with rfl | rfl | rfl | rfl | rfl | rfl | rfl | rfl | rfl | rfl | rfl | rfl <;> simp [cum, cumT, dim] <;> omega
theorem cum_up (y : Int) (j : Nat) (m : Int) (h1 : 1 ≤ m) (h3 : m + j ≤ 13) : cum y m ≤ cum y (m + j) := by
  induction j with
  | zero => simp
  | succ j ih =>
    have a := ih (by omega)
    have b := cum_succ y (m + j) (by omega) (by omega)
    have c := dim_bd y (m + j)
    rw [show m + ((j + 1 : Nat) : Int) = m + (j : Int) + 1 by omega, b]
    omega
theorem cum_mono (y m k : Int) (h1 : 1 ≤ m) (h2 : m < k) (h3 : k ≤ 13) : cum y m + dim y m ≤ cum y k := by
  rw [← cum_succ y m h1 (by omega)]
  have := cum_up y (k - (m + 1)).toNat (m + 1) (by omega) (by omega)
  rwa [show m + 1 + ((k - (m + 1)).toNat : Int) = k by omega] at this
theorem ahd_succ (y : Int) : ahd (y + 1) = ahd y + 365 + lp y := by
  unfold ahd lp leapB
  rw [show y + 1 - 1 = y by omega]
  by_cases h : (y % 4 = 0 ∧ y % 100 ≠ 0) ∨ y % 400 = 0
  · rw [decide_eq_true h]; simp only [if_true]; omega
  · rw [decide_eq_false h]; simp only [Bool.false_eq_true, if_false]; omega
theorem ahd_mono (a b : Int) (h : a ≤ b) : ahd a ≤ ahd b := by unfold ahd; omega
theorem ahd_bd (y : Int) (h1 : 1 ≤ y) (h2 : y ≤ 10000) : 0 ≤ ahd y ∧ ahd y ≤ 3652059 := by unfold ahd; omega
theorem ahd_one : ahd 1 = 0 := by decide
theorem ahd_max : ahd 10000 = 3652059 := by decide

theorem vld_iff {y m d : Int} : vldB y m d = true ↔ (1 ≤ y ∧ y ≤ 9999 ∧ 1 ≤ m ∧ m ≤ 12 ∧ 1 ≤ d ∧ d ≤ dim y m) := by simp [vldB]
theorem vld_not {y m d : Int} : vldB y m d = false ↔ ¬ (1 ≤ y ∧ y ≤ 9999 ∧ 1 ≤ m ∧ m ≤ 12 ∧ 1 ≤ d ∧ d ≤ dim y m) := by unfold vldB; exact decide_eq_false_iff_not

theorem num_bd {y m d : Int} (h : vldB y m d = true) : -719162 ≤ num y m d ∧ num y m d ≤ 2932896 := by
  obtain ⟨h1, h2, h3, h4, h5, h6⟩ := vld_iff.1 h
  have a := cum_bd y m h3 (by omega)
  have b := cum_end y m h3 h4
  have c := ahd_bd y h1 (by omega)
  have d := ahd_succ y
  have e := ahd_mono (y + 1) 10000 (by omega)
  have f := ahd_max
  unfold num; omega

theorem num_year {y m d : Int} (h : vldB y m d = true) : -719162 + ahd y ≤ num y m d ∧ num y m d < -719162 + ahd (y + 1) := by
  obtain ⟨h1, h2, h3, h4, h5, h6⟩ := vld_iff.1 h
  have a := cum_bd y m h3 (by omega)
  have b := cum_end y m h3 h4
  have d := ahd_succ y
  unfold num; omega

/-- A number has one day alone. -/
theorem num_inj {y m d y' m' d' : Int} (h : vldB y m d = true) (h' : vldB y' m' d' = true) (e : num y m d = num y' m' d') : y = y' ∧ m = m' ∧ d = d' := by
  have hy := num_year h
  have hy' := num_year h'
  obtain ⟨h1, h2, h3, h4, h5, h6⟩ := vld_iff.1 h
  obtain ⟨g1, g2, g3, g4, g5, g6⟩ := vld_iff.1 h'
  have ey : y = y' := by
    rcases Int.lt_trichotomy y y' with c | c | c
    · have := ahd_mono (y + 1) y' (by omega); omega
    · exact c
    · have := ahd_mono (y' + 1) y (by omega); omega
  subst ey
  unfold num at e
  have em : m = m' := by
    rcases Int.lt_trichotomy m m' with c | c | c
    · have := cum_mono y m m' h3 c (by omega); omega
    · exact c
    · have := cum_mono y m' m g3 c (by omega); omega
  subst em
  exact ⟨rfl, rfl, by omega⟩

/-- What the day behind a day is. -/
theorem next_day {y m d y' m' d' : Int} (h : vldB y m d = true) (h' : vldB y' m' d' = true) (e : num y' m' d' = num y m d + 1) :
    (y' = y ∧ m' = m ∧ d' = d + 1) ∨ (y' = y ∧ m' = m + 1 ∧ d' = 1 ∧ 28 ≤ d) ∨ (y' = y + 1 ∧ m = 12 ∧ m' = 1 ∧ d = 31 ∧ d' = 1) := by
  obtain ⟨h1, h2, h3, h4, h5, h6⟩ := vld_iff.1 h
  by_cases hd : d < dim y m
  · left
    have hv : vldB y m (d + 1) = true := vld_iff.2 ⟨h1, h2, h3, h4, by omega, by omega⟩
    have hn : num y m (d + 1) = num y m d + 1 := by unfold num; omega
    obtain ⟨a, b, c⟩ := num_inj h' hv (by omega)
    exact ⟨a, b, c⟩
  · right
    have ed : d = dim y m := by omega
    by_cases hm : m < 12
    · left
      have b1 := dim_bd y (m + 1)
      have hv : vldB y (m + 1) 1 = true := vld_iff.2 ⟨h1, h2, by omega, by omega, by omega, by omega⟩
      have hs := cum_succ y m h3 h4
      have hn : num y (m + 1) 1 = num y m d + 1 := by unfold num; omega
      obtain ⟨a, b, c⟩ := num_inj h' hv (by omega)
      have := dim_bd y m
      exact ⟨a, b, c, by omega⟩
    · right
      have em : m = 12 := by omega
      subst em
      have hs := cum_succ y 12 h3 h4
      have h13 := cum_13 y
      have ha := ahd_succ y
      have hd31 : dim y 12 = 31 := by simp [dim]
      have hy : num y 12 d + 1 = -719162 + ahd (y + 1) := by
        have : cum y (12 + 1) = cum y 13 := rfl
        unfold num; omega
      have hb' := num_bd h'
      have hlt : y < 9999 := by
        by_cases c : y < 9999
        · exact c
        · exfalso
          have : y = 9999 := by omega
          subst this
          have := ahd_max
          have e9 : ahd (9999 + 1) = ahd 10000 := rfl
          omega
      have b1 := dim_bd (y + 1) 1
      have hv : vldB (y + 1) 1 1 = true := vld_iff.2 ⟨by omega, by omega, by omega, by omega, by omega, by omega⟩
      have hn : num (y + 1) 1 1 = num y 12 d + 1 := by
        have := cum_one (y + 1)
        unfold num at *; omega
      obtain ⟨a, b, c⟩ := num_inj h' hv (by omega)
      exact ⟨a, rfl, b, by omega, c⟩

end Go.Proofs.Dcl
