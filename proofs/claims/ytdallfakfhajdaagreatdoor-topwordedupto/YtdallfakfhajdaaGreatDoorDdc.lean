/-
  What the document's Civil does, over this seat's program.
-/
import Derived.Test.YtdallfakfhajdaaGreatDoorDdb
set_option linter.unusedVariables false
namespace Go.Proofs.YtdallfakfhajdaaGreatDoor
open Go.RowKit Go.Proofs.Dcl

theorem hid {p : Prop} (h : p) : Hid p := h
theorem unhid {p : Prop} (h : Hid p) : p := h

theorem results_tmp4 {fn : Func} {t u v x : Tmp} (h : fn.results = #[.tmp t, .tmp u, .tmp v, .tmp x]) (tmps : Array Value) (P : Program) (w : World) :
    (results fn tmps).run P w = .ok (.tuple #[tmps.getD t undef, tmps.getD u undef, tmps.getD v undef, tmps.getD x undef]) w := by
  simp [results, h]

/-- A step of the search for a year, and how far the year may lie. -/
def Step (S Q : Int) : Prop := (S = 0 ∧ Q = 1) ∨ (∃ j : Nat, j ≤ 13 ∧ S = (2 ^ j : Nat) ∧ Q = (2 ^ (j + 1) : Nat))
theorem step_half {S Q : Int} (h : Step S Q) (h0 : 0 < S) : Step (S / 2) S ∧ Q = 2 * S ∧ S ≤ 8192 := by
  rcases h with ⟨rfl, _⟩ | ⟨j, hj, rfl, rfl⟩
  · omega
  · have hle : (2 : Nat) ^ j ≤ 2 ^ 13 := Nat.pow_le_pow_right (by omega) hj
    have h13 : (2 : Nat) ^ 13 = 8192 := by decide
    refine ⟨?_, ?_, by omega⟩
    · cases j with
      | zero => left; simp
      | succ i =>
        right
        refine ⟨i, by omega, ?_, rfl⟩
        rw [Nat.pow_succ]; omega
    · rw [Nat.pow_succ]; omega
theorem step_first : Step 8192 16384 := Or.inr ⟨13, by omega, by decide, by decide⟩
theorem step_end {S Q : Int} (h : Step S Q) (h0 : ¬ 0 < S) : Q = 1 := by
  rcases h with ⟨_, h⟩ | ⟨j, hj, rfl, _⟩
  · exact h
  · have : 0 < (2 : Nat) ^ j := Nat.pow_pos (by omega)
    omega

theorem num_of (n y k : Int) : num y k (n + 719162 - ahd y - cum y k + 1) = n := by unfold num; omega
theorem vld_of (n y k : Int) (a : 1 ≤ y) (b : y ≤ 9999) (k1 : 1 ≤ k) (k2 : k ≤ 12) (c : 0 ≤ n + 719162 - ahd y - cum y k) (d : n + 719162 - ahd y - cum y k < dim y k) : vldB y k (n + 719162 - ahd y - cum y k + 1) = true :=
  vld_iff.2 ⟨a, b, k1, k2, by omega, by omega⟩

/-- What Civil tells of a number: its day. -/
def CivIs (n : Int) (v : Value) : Prop := (dayB n = false ∧ v = .tuple #[.int .i64 0, .int .i64 0, .int .i64 0, .int .i64 1]) ∨ (dayB n = true ∧ ∃ y m d : Int, vldB y m d = true ∧ num y m d = n ∧ v = .tuple #[.int .i64 y, .int .i64 m, .int .i64 d, .int .i64 0])
theorem CivIs.no {n : Int} {v : Value} (h : CivIs n v) (hd : dayB n = false) : v = .tuple #[.int .i64 0, .int .i64 0, .int .i64 0, .int .i64 1] := by
  rcases h with ⟨_, h⟩ | ⟨h, _⟩
  · exact h
  · rw [hd] at h; cases h
theorem CivIs.yes {n : Int} {v : Value} (h : CivIs n v) (hd : dayB n = true) : ∃ y m d : Int, vldB y m d = true ∧ num y m d = n ∧ v = .tuple #[.int .i64 y, .int .i64 m, .int .i64 d, .int .i64 0] := by
  rcases h with ⟨h, _⟩ | ⟨_, h⟩
  · rw [hd] at h; cases h
  · exact h

theorem day_of_vld {y m d : Int} (h : vldB y m d = true) : dayB (num y m d) = true := by
  have := num_bd h
  simp [dayB]; omega

theorem bound_after {n Y Q : Int} (hn : n ≤ 2932896) (hY : Y ≤ 9999) (hq : Q = 1) (h : Y + Q ≤ 9999 → n < -719162 + ahd (Y + Q)) : n < -719162 + ahd (Y + 1) := by
  subst hq
  by_cases e : Y = 9999
  · subst e
    have := ahd_max
    show n < -719162 + ahd 10000
    omega
  · exact h (by omega)

end Go.Proofs.YtdallfakfhajdaaGreatDoor
