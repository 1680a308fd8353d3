/-
  Letters' folds in plain mathematics: a letter's fold, three letters as a number, a list that rises.
-/
namespace Go.Proofs.Fol

/-- The folds of those letters that stand in no row. -/
def singleL (n : Int) : Int :=
  if n = 181 then 956 else if n = 376 then 255 else if n = 383 then 115 else if n = 962 then 963 else if n = 7838 then 223
  else if n = 8486 then 969 else if n = 8490 then 107 else if n = 8491 then 229 else n
/-- A letter's fold. -/
def oneL (n : Int) : Int :=
  if (65 ≤ n ∧ n ≤ 90) ∨ (192 ≤ n ∧ n ≤ 222 ∧ n ≠ 215) ∨ (913 ≤ n ∧ n ≤ 937 ∧ n ≠ 930) ∨ (1040 ≤ n ∧ n ≤ 1071) then n + 32
  else if 1024 ≤ n ∧ n ≤ 1039 then n + 80
  else if (256 ≤ n ∧ n ≤ 302) ∨ (306 ≤ n ∧ n ≤ 310) ∨ (330 ≤ n ∧ n ≤ 374) then n + (1 - n % 2)
  else if (313 ≤ n ∧ n ≤ 327) ∨ (377 ≤ n ∧ n ≤ 381) then n + n % 2
  else singleL n

set_option maxHeartbeats 4000000 in
theorem oneL_big {n : Int} (h : n < 0 ∨ 8492 ≤ n) : oneL n = n := by
  unfold oneL singleL
  repeat' split
  all_goals omega
/-- A number that no row, and no single letter, has. -/
def Small (m : Int) : Prop := ¬ ((65 ≤ m ∧ m ≤ 90) ∨ (192 ≤ m ∧ m ≤ 222 ∧ m ≠ 215) ∨ (913 ≤ m ∧ m ≤ 937 ∧ m ≠ 930) ∨ (1040 ≤ m ∧ m ≤ 1071)) ∧ ¬ (1024 ≤ m ∧ m ≤ 1039) ∧
  ((256 ≤ m ∧ m ≤ 302) ∨ (306 ≤ m ∧ m ≤ 310) ∨ (330 ≤ m ∧ m ≤ 374) → m % 2 = 1) ∧ ((313 ≤ m ∧ m ≤ 327) ∨ (377 ≤ m ∧ m ≤ 381) → m % 2 = 0) ∧
  m ≠ 181 ∧ m ≠ 376 ∧ m ≠ 383 ∧ m ≠ 962 ∧ m ≠ 7838 ∧ m ≠ 8486 ∧ m ≠ 8490 ∧ m ≠ 8491
theorem oneL_small {m : Int} (h : Small m) : oneL m = m := by
  obtain ⟨h1, h2, h3, h4, a, b, c, d, e, f, g, i⟩ := h
  unfold oneL singleL
  rw [if_neg h1, if_neg h2]
  split
  · rename_i h; have := h3 h; omega
  · split
    · rename_i h; have := h4 h; omega
    · rfl
set_option maxHeartbeats 4000000 in
theorem oneL_is (n : Int) : Small (oneL n) ∧ (oneL n < 0 ↔ n < 0) ∧ (n < 9000 ↔ oneL n < 9000) := by
  unfold oneL singleL Small
  repeat' split
  all_goals omega
theorem oneL_once (n : Int) : oneL (oneL n) = oneL n := oneL_small (oneL_is n).1
theorem oneL_range {n : Int} (h : ¬ (n < 0 ∨ 8492 ≤ n)) : 0 ≤ oneL n ∧ oneL n < 9000 := by
  have := (oneL_is n).2
  omega
theorem oneL_i32 {n : Int} (h : -2147483648 ≤ n ∧ n ≤ 2147483647) : -2147483648 ≤ oneL n ∧ oneL n ≤ 2147483647 := by
  by_cases hb : n < 0 ∨ 8492 ≤ n
  · rw [oneL_big hb]; exact h
  · have := oneL_range hb; omega

end Go.Proofs.Fol
