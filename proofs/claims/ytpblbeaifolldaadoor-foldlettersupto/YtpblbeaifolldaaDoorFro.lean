/-
  What missiveref07.within, One and Fold do, over this seat's program: letters' folds, as the document says.
-/
import Derived.Test.YtpblbeaifolldaaDoorFon
set_option linter.unusedVariables false
namespace Go.Proofs.YtpblbeaifolldaaDoor
open Go.RowKit Go.Proofs.Rns Go.Proofs.Fol

set_option maxHeartbeats 400000 in
theorem within_any (n a b : Int) (w : World) : Calls Tryd.prog 33 #[.int .i32 n, .int .i32 a, .int .i32 b] w fun e w' => e = .returned (.bool (decide (a ≤ n ∧ n ≤ b))) ∧ w' = w := by
  by_cases h1 : a ≤ n
  · by_cases h2 : n ≤ b
    · rw [decide_eq_true ⟨h1, h2⟩]
      go_enter Tryd.func33, Tryd.ntmps33
      go_wp2
      go_ret
      exact ⟨ret_b (by simp <;> omega), rfl⟩
    · rw [decide_eq_false (fun h => h2 h.2)]
      go_enter Tryd.func33, Tryd.ntmps33
      go_wp2
      go_ret
      exact ⟨ret_b (by simp <;> omega), rfl⟩
  · rw [decide_eq_false (fun h => h1 h.1)]
    go_enter Tryd.func33, Tryd.ntmps33
    go_wp2
    go_ret
    exact ⟨ret_b (by simp <;> omega), rfl⟩
theorem with_yes {n a b : Int} (h : a ≤ n ∧ n ≤ b) (w : World) : Calls Tryd.prog 33 #[.int .i32 n, .int .i32 a, .int .i32 b] w fun e w' => e = .returned (.bool true) ∧ w' = w := by
  have := within_any n a b w
  rwa [decide_eq_true h] at this
theorem with_no {n a b : Int} (h : ¬ (a ≤ n ∧ n ≤ b)) (w : World) : Calls Tryd.prog 33 #[.int .i32 n, .int .i32 a, .int .i32 b] w fun e w' => e = .returned (.bool false) ∧ w' = w := by
  have := within_any n a b w
  rwa [decide_eq_false h] at this

set_option maxHeartbeats 1000000 in
theorem refOne_0 (n : Int) (w : World) (hlo : -2147483648 ≤ n) (hb : n ≤ 64) : Calls Tryd.prog 11 #[.int .i32 n] w fun e w' => e = .returned (.int .i32 (oneL n)) ∧ w' = w := by
  cases p0 : (n.tmod 2 == 0)
  · cases p1 : (n.tmod 2 == 1)
    · have q0 := p0
      have q1 := p1
      simp at q0 q1
      have e : oneL n = n := by
        unfold oneL singleL
        rw [if_neg (by omega), if_neg (by omega), if_neg (by omega), if_neg (by omega)]
        repeat rw [if_neg (by omega)]
      rw [e]
      clear e
      have s376 : (n == 376) = false := by simp; omega
      have s383 : (n == 383) = false := by simp; omega
      have s181 : (n == 181) = false := by simp; omega
      have s962 : (n == 962) = false := by simp; omega
      have s7838 : (n == 7838) = false := by simp; omega
      have s8486 : (n == 8486) = false := by simp; omega
      have s8490 : (n == 8490) = false := by simp; omega
      have s8491 : (n == 8491) = false := by simp; omega
      go_enter Tryd.func11, Tryd.ntmps11
      go_wp2_with (go_at_call 33; first | (refine (with_yes (by omega) _).mono ?_; rintro e w9 ⟨rfl, rfl⟩) | (refine (with_no (by omega) _).mono ?_; rintro e w9 ⟨rfl, rfl⟩))
      go_ret
      exact ⟨rfl, rfl⟩
    · have q0 := p0
      have q1 := p1
      simp at q0 q1
      have e : oneL n = n := by
        unfold oneL singleL
        rw [if_neg (by omega), if_neg (by omega), if_neg (by omega), if_neg (by omega)]
        repeat rw [if_neg (by omega)]
      rw [e]
      clear e
      have s376 : (n == 376) = false := by simp; omega
      have s383 : (n == 383) = false := by simp; omega
      have s181 : (n == 181) = false := by simp; omega
      have s962 : (n == 962) = false := by simp; omega
      have s7838 : (n == 7838) = false := by simp; omega
      have s8486 : (n == 8486) = false := by simp; omega
      have s8490 : (n == 8490) = false := by simp; omega
      have s8491 : (n == 8491) = false := by simp; omega
      go_enter Tryd.func11, Tryd.ntmps11
      go_wp2_with (go_at_call 33; first | (refine (with_yes (by omega) _).mono ?_; rintro e w9 ⟨rfl, rfl⟩) | (refine (with_no (by omega) _).mono ?_; rintro e w9 ⟨rfl, rfl⟩))
      go_ret
      exact ⟨rfl, rfl⟩
  · cases p1 : (n.tmod 2 == 1)
    · have q0 := p0
      have q1 := p1
      simp at q0 q1
      have e : oneL n = n := by
        unfold oneL singleL
        rw [if_neg (by omega), if_neg (by omega), if_neg (by omega), if_neg (by omega)]
        repeat rw [if_neg (by omega)]
      rw [e]
      clear e
      have s376 : (n == 376) = false := by simp; omega
      have s383 : (n == 383) = false := by simp; omega
      have s181 : (n == 181) = false := by simp; omega
      have s962 : (n == 962) = false := by simp; omega
      have s7838 : (n == 7838) = false := by simp; omega
      have s8486 : (n == 8486) = false := by simp; omega
      have s8490 : (n == 8490) = false := by simp; omega
      have s8491 : (n == 8491) = false := by simp; omega
      go_enter Tryd.func11, Tryd.ntmps11
      go_wp2_with (go_at_call 33; first | (refine (with_yes (by omega) _).mono ?_; rintro e w9 ⟨rfl, rfl⟩) | (refine (with_no (by omega) _).mono ?_; rintro e w9 ⟨rfl, rfl⟩))
      go_ret
      exact ⟨rfl, rfl⟩
    · simp at p0 p1; omega
set_option maxHeartbeats 1000000 in
theorem refOne_1 (n : Int) (w : World) (ha : 65 ≤ n) (hb : n ≤ 90) : Calls Tryd.prog 11 #[.int .i32 n] w fun e w' => e = .returned (.int .i32 (oneL n)) ∧ w' = w := by
  have e : oneL n = n + 32 := by
    unfold oneL
    rw [if_pos (by omega)]
  rw [e]
  clear e
  go_enter Tryd.func11, Tryd.ntmps11
  go_wp2_with (go_at_call 33; first | (refine (with_yes (by omega) _).mono ?_; rintro e w9 ⟨rfl, rfl⟩) | (refine (with_no (by omega) _).mono ?_; rintro e w9 ⟨rfl, rfl⟩))
  go_ret
  exact ⟨by go_num, rfl⟩
set_option maxHeartbeats 1000000 in
theorem refOne_2 (n : Int) (w : World) (ha : 91 ≤ n) (hb : n ≤ 191) : Calls Tryd.prog 11 #[.int .i32 n] w fun e w' => e = .returned (.int .i32 (oneL n)) ∧ w' = w := by
  by_cases z181 : n = 181
  · subst z181
    rw [show oneL 181 = 956 by decide +kernel]
    go_enter Tryd.func11, Tryd.ntmps11
    go_wp2_with (go_at_call 33; first | (refine (with_yes (by omega) _).mono ?_; rintro e w9 ⟨rfl, rfl⟩) | (refine (with_no (by omega) _).mono ?_; rintro e w9 ⟨rfl, rfl⟩))
    go_ret
    exact ⟨rfl, rfl⟩
  cases p0 : (n.tmod 2 == 0)
  · cases p1 : (n.tmod 2 == 1)
    · have q0 := p0
      have q1 := p1
      simp at q0 q1
      rw [Int.tmod_eq_emod_of_nonneg (by omega)] at q0 q1
      omega
    · have q0 := p0
      have q1 := p1
      simp at q0 q1
      rw [Int.tmod_eq_emod_of_nonneg (by omega)] at q0 q1
      have e : oneL n = n := by
        unfold oneL singleL
        rw [if_neg (by omega), if_neg (by omega), if_neg (by omega), if_neg (by omega)]
        repeat rw [if_neg (by omega)]
      rw [e]
      clear e
      have s376 : (n == 376) = false := by simp; omega
      have s383 : (n == 383) = false := by simp; omega
      have s181 : (n == 181) = false := by simp; omega
      have s962 : (n == 962) = false := by simp; omega
      have s7838 : (n == 7838) = false := by simp; omega
      have s8486 : (n == 8486) = false := by simp; omega
      have s8490 : (n == 8490) = false := by simp; omega
      have s8491 : (n == 8491) = false := by simp; omega
      go_enter Tryd.func11, Tryd.ntmps11
      go_wp2_with (go_at_call 33; first | (refine (with_yes (by omega) _).mono ?_; rintro e w9 ⟨rfl, rfl⟩) | (refine (with_no (by omega) _).mono ?_; rintro e w9 ⟨rfl, rfl⟩))
      go_ret
      exact ⟨rfl, rfl⟩
  · cases p1 : (n.tmod 2 == 1)
    · have q0 := p0
      have q1 := p1
      simp at q0 q1
      rw [Int.tmod_eq_emod_of_nonneg (by omega)] at q0 q1
      have e : oneL n = n := by
        unfold oneL singleL
        rw [if_neg (by omega), if_neg (by omega), if_neg (by omega), if_neg (by omega)]
        repeat rw [if_neg (by omega)]
      rw [e]
      clear e
      have s376 : (n == 376) = false := by simp; omega
      have s383 : (n == 383) = false := by simp; omega
      have s181 : (n == 181) = false := by simp; omega
      have s962 : (n == 962) = false := by simp; omega
      have s7838 : (n == 7838) = false := by simp; omega
      have s8486 : (n == 8486) = false := by simp; omega
      have s8490 : (n == 8490) = false := by simp; omega
      have s8491 : (n == 8491) = false := by simp; omega
      go_enter Tryd.func11, Tryd.ntmps11
      go_wp2_with (go_at_call 33; first | (refine (with_yes (by omega) _).mono ?_; rintro e w9 ⟨rfl, rfl⟩) | (refine (with_no (by omega) _).mono ?_; rintro e w9 ⟨rfl, rfl⟩))
      go_ret
      exact ⟨rfl, rfl⟩
    · simp at p0 p1; omega
set_option maxHeartbeats 1000000 in
theorem refOne_3 (n : Int) (w : World) (ha : 192 ≤ n) (hb : n ≤ 214) : Calls Tryd.prog 11 #[.int .i32 n] w fun e w' => e = .returned (.int .i32 (oneL n)) ∧ w' = w := by
  have e : oneL n = n + 32 := by
    unfold oneL
    rw [if_pos (by omega)]
  rw [e]
  clear e
  have c : (n != 215) = true := by simp; omega
  go_enter Tryd.func11, Tryd.ntmps11
  go_wp2_with (go_at_call 33; first | (refine (with_yes (by omega) _).mono ?_; rintro e w9 ⟨rfl, rfl⟩) | (refine (with_no (by omega) _).mono ?_; rintro e w9 ⟨rfl, rfl⟩))
  go_ret
  exact ⟨by go_num, rfl⟩
set_option maxHeartbeats 1000000 in
theorem refOne_4 (n : Int) (w : World) (ha : 215 ≤ n) (hb : n ≤ 215) : Calls Tryd.prog 11 #[.int .i32 n] w fun e w' => e = .returned (.int .i32 (oneL n)) ∧ w' = w := by
  have c : (n != 215) = false := by simp; omega
  cases p0 : (n.tmod 2 == 0)
  · cases p1 : (n.tmod 2 == 1)
    · have q0 := p0
      have q1 := p1
      simp at q0 q1
      rw [Int.tmod_eq_emod_of_nonneg (by omega)] at q0 q1
      omega
    · have q0 := p0
      have q1 := p1
      simp at q0 q1
      rw [Int.tmod_eq_emod_of_nonneg (by omega)] at q0 q1
      have e : oneL n = n := by
        unfold oneL singleL
        rw [if_neg (by omega), if_neg (by omega), if_neg (by omega), if_neg (by omega)]
        repeat rw [if_neg (by omega)]
      rw [e]
      clear e
      have s376 : (n == 376) = false := by simp; omega
      have s383 : (n == 383) = false := by simp; omega
      have s181 : (n == 181) = false := by simp; omega
      have s962 : (n == 962) = false := by simp; omega
      have s7838 : (n == 7838) = false := by simp; omega
      have s8486 : (n == 8486) = false := by simp; omega
      have s8490 : (n == 8490) = false := by simp; omega
      have s8491 : (n == 8491) = false := by simp; omega
      go_enter Tryd.func11, Tryd.ntmps11
      go_wp2_with (go_at_call 33; first | (refine (with_yes (by omega) _).mono ?_; rintro e w9 ⟨rfl, rfl⟩) | (refine (with_no (by omega) _).mono ?_; rintro e w9 ⟨rfl, rfl⟩))
      go_ret
      exact ⟨rfl, rfl⟩
  · cases p1 : (n.tmod 2 == 1)
    · have q0 := p0
      have q1 := p1
      simp at q0 q1
      rw [Int.tmod_eq_emod_of_nonneg (by omega)] at q0 q1
      omega
    · simp at p0 p1; omega
set_option maxHeartbeats 1000000 in
theorem refOne_5 (n : Int) (w : World) (ha : 216 ≤ n) (hb : n ≤ 222) : Calls Tryd.prog 11 #[.int .i32 n] w fun e w' => e = .returned (.int .i32 (oneL n)) ∧ w' = w := by
  have e : oneL n = n + 32 := by
    unfold oneL
    rw [if_pos (by omega)]
  rw [e]
  clear e
  have c : (n != 215) = true := by simp; omega
  go_enter Tryd.func11, Tryd.ntmps11
  go_wp2_with (go_at_call 33; first | (refine (with_yes (by omega) _).mono ?_; rintro e w9 ⟨rfl, rfl⟩) | (refine (with_no (by omega) _).mono ?_; rintro e w9 ⟨rfl, rfl⟩))
  go_ret
  exact ⟨by go_num, rfl⟩
set_option maxHeartbeats 1000000 in
theorem refOne_6 (n : Int) (w : World) (ha : 223 ≤ n) (hb : n ≤ 255) : Calls Tryd.prog 11 #[.int .i32 n] w fun e w' => e = .returned (.int .i32 (oneL n)) ∧ w' = w := by
  cases p0 : (n.tmod 2 == 0)
  · cases p1 : (n.tmod 2 == 1)
    · have q0 := p0
      have q1 := p1
      simp at q0 q1
      rw [Int.tmod_eq_emod_of_nonneg (by omega)] at q0 q1
      omega
    · have q0 := p0
      have q1 := p1
      simp at q0 q1
      rw [Int.tmod_eq_emod_of_nonneg (by omega)] at q0 q1
      have e : oneL n = n := by
        unfold oneL singleL
        rw [if_neg (by omega), if_neg (by omega), if_neg (by omega), if_neg (by omega)]
        repeat rw [if_neg (by omega)]
      rw [e]
      clear e
      have s376 : (n == 376) = false := by simp; omega
      have s383 : (n == 383) = false := by simp; omega
      have s181 : (n == 181) = false := by simp; omega
      have s962 : (n == 962) = false := by simp; omega
      have s7838 : (n == 7838) = false := by simp; omega
      have s8486 : (n == 8486) = false := by simp; omega
      have s8490 : (n == 8490) = false := by simp; omega
      have s8491 : (n == 8491) = false := by simp; omega
      go_enter Tryd.func11, Tryd.ntmps11
      go_wp2_with (go_at_call 33; first | (refine (with_yes (by omega) _).mono ?_; rintro e w9 ⟨rfl, rfl⟩) | (refine (with_no (by omega) _).mono ?_; rintro e w9 ⟨rfl, rfl⟩))
      go_ret
      exact ⟨rfl, rfl⟩
  · cases p1 : (n.tmod 2 == 1)
    · have q0 := p0
      have q1 := p1
      simp at q0 q1
      rw [Int.tmod_eq_emod_of_nonneg (by omega)] at q0 q1
      have e : oneL n = n := by
        unfold oneL singleL
        rw [if_neg (by omega), if_neg (by omega), if_neg (by omega), if_neg (by omega)]
        repeat rw [if_neg (by omega)]
      rw [e]
      clear e
      have s376 : (n == 376) = false := by simp; omega
      have s383 : (n == 383) = false := by simp; omega
      have s181 : (n == 181) = false := by simp; omega
      have s962 : (n == 962) = false := by simp; omega
      have s7838 : (n == 7838) = false := by simp; omega
      have s8486 : (n == 8486) = false := by simp; omega
      have s8490 : (n == 8490) = false := by simp; omega
      have s8491 : (n == 8491) = false := by simp; omega
      go_enter Tryd.func11, Tryd.ntmps11
      go_wp2_with (go_at_call 33; first | (refine (with_yes (by omega) _).mono ?_; rintro e w9 ⟨rfl, rfl⟩) | (refine (with_no (by omega) _).mono ?_; rintro e w9 ⟨rfl, rfl⟩))
      go_ret
      exact ⟨rfl, rfl⟩
    · simp at p0 p1; omega
set_option maxHeartbeats 1000000 in
theorem refOne_7 (n : Int) (w : World) (ha : 256 ≤ n) (hb : n ≤ 302) : Calls Tryd.prog 11 #[.int .i32 n] w fun e w' => e = .returned (.int .i32 (oneL n)) ∧ w' = w := by
  cases p0 : (n.tmod 2 == 0)
  · cases p1 : (n.tmod 2 == 1)
    · have q0 := p0
      have q1 := p1
      simp at q0 q1
      rw [Int.tmod_eq_emod_of_nonneg (by omega)] at q0 q1
      omega
    · have q0 := p0
      have q1 := p1
      simp at q0 q1
      rw [Int.tmod_eq_emod_of_nonneg (by omega)] at q0 q1
      have e : oneL n = n := by
        unfold oneL
        rw [if_neg (by omega), if_neg (by omega), if_pos (by omega)]; omega
      rw [e]
      clear e
      have s376 : (n == 376) = false := by simp; omega
      have s383 : (n == 383) = false := by simp; omega
      have s181 : (n == 181) = false := by simp; omega
      have s962 : (n == 962) = false := by simp; omega
      have s7838 : (n == 7838) = false := by simp; omega
      have s8486 : (n == 8486) = false := by simp; omega
      have s8490 : (n == 8490) = false := by simp; omega
      have s8491 : (n == 8491) = false := by simp; omega
      go_enter Tryd.func11, Tryd.ntmps11
      go_wp2_with (go_at_call 33; first | (refine (with_yes (by omega) _).mono ?_; rintro e w9 ⟨rfl, rfl⟩) | (refine (with_no (by omega) _).mono ?_; rintro e w9 ⟨rfl, rfl⟩))
      go_ret
      exact ⟨rfl, rfl⟩
  · cases p1 : (n.tmod 2 == 1)
    · have q0 := p0
      have q1 := p1
      simp at q0 q1
      rw [Int.tmod_eq_emod_of_nonneg (by omega)] at q0 q1
      have e : oneL n = n + 1 := by
        unfold oneL
        rw [if_neg (by omega), if_neg (by omega), if_pos (by omega)]; omega
      rw [e]
      clear e
      have s376 : (n == 376) = false := by simp; omega
      have s383 : (n == 383) = false := by simp; omega
      have s181 : (n == 181) = false := by simp; omega
      have s962 : (n == 962) = false := by simp; omega
      have s7838 : (n == 7838) = false := by simp; omega
      have s8486 : (n == 8486) = false := by simp; omega
      have s8490 : (n == 8490) = false := by simp; omega
      have s8491 : (n == 8491) = false := by simp; omega
      go_enter Tryd.func11, Tryd.ntmps11
      go_wp2_with (go_at_call 33; first | (refine (with_yes (by omega) _).mono ?_; rintro e w9 ⟨rfl, rfl⟩) | (refine (with_no (by omega) _).mono ?_; rintro e w9 ⟨rfl, rfl⟩))
      go_ret
      exact ⟨by go_num, rfl⟩
    · simp at p0 p1; omega
set_option maxHeartbeats 1000000 in
theorem refOne_8 (n : Int) (w : World) (ha : 303 ≤ n) (hb : n ≤ 305) : Calls Tryd.prog 11 #[.int .i32 n] w fun e w' => e = .returned (.int .i32 (oneL n)) ∧ w' = w := by
  cases p0 : (n.tmod 2 == 0)
  · cases p1 : (n.tmod 2 == 1)
    · have q0 := p0
      have q1 := p1
      simp at q0 q1
      rw [Int.tmod_eq_emod_of_nonneg (by omega)] at q0 q1
      omega
    · have q0 := p0
      have q1 := p1
      simp at q0 q1
      rw [Int.tmod_eq_emod_of_nonneg (by omega)] at q0 q1
      have e : oneL n = n := by
        unfold oneL singleL
        rw [if_neg (by omega), if_neg (by omega), if_neg (by omega), if_neg (by omega)]
        repeat rw [if_neg (by omega)]
      rw [e]
      clear e
      have s376 : (n == 376) = false := by simp; omega
      have s383 : (n == 383) = false := by simp; omega
      have s181 : (n == 181) = false := by simp; omega
      have s962 : (n == 962) = false := by simp; omega
      have s7838 : (n == 7838) = false := by simp; omega
      have s8486 : (n == 8486) = false := by simp; omega
      have s8490 : (n == 8490) = false := by simp; omega
      have s8491 : (n == 8491) = false := by simp; omega
      go_enter Tryd.func11, Tryd.ntmps11
      go_wp2_with (go_at_call 33; first | (refine (with_yes (by omega) _).mono ?_; rintro e w9 ⟨rfl, rfl⟩) | (refine (with_no (by omega) _).mono ?_; rintro e w9 ⟨rfl, rfl⟩))
      go_ret
      exact ⟨rfl, rfl⟩
  · cases p1 : (n.tmod 2 == 1)
    · have q0 := p0
      have q1 := p1
      simp at q0 q1
      rw [Int.tmod_eq_emod_of_nonneg (by omega)] at q0 q1
      have e : oneL n = n := by
        unfold oneL singleL
        rw [if_neg (by omega), if_neg (by omega), if_neg (by omega), if_neg (by omega)]
        repeat rw [if_neg (by omega)]
      rw [e]
      clear e
      have s376 : (n == 376) = false := by simp; omega
      have s383 : (n == 383) = false := by simp; omega
      have s181 : (n == 181) = false := by simp; omega
      have s962 : (n == 962) = false := by simp; omega
      have s7838 : (n == 7838) = false := by simp; omega
      have s8486 : (n == 8486) = false := by simp; omega
      have s8490 : (n == 8490) = false := by simp; omega
      have s8491 : (n == 8491) = false := by simp; omega
      go_enter Tryd.func11, Tryd.ntmps11
      go_wp2_with (go_at_call 33; first | (refine (with_yes (by omega) _).mono ?_; rintro e w9 ⟨rfl, rfl⟩) | (refine (with_no (by omega) _).mono ?_; rintro e w9 ⟨rfl, rfl⟩))
      go_ret
      exact ⟨rfl, rfl⟩
    · simp at p0 p1; omega
set_option maxHeartbeats 1000000 in
theorem refOne_9 (n : Int) (w : World) (ha : 306 ≤ n) (hb : n ≤ 310) : Calls Tryd.prog 11 #[.int .i32 n] w fun e w' => e = .returned (.int .i32 (oneL n)) ∧ w' = w := by
  cases p0 : (n.tmod 2 == 0)
  · cases p1 : (n.tmod 2 == 1)
    · have q0 := p0
      have q1 := p1
      simp at q0 q1
      rw [Int.tmod_eq_emod_of_nonneg (by omega)] at q0 q1
      omega
    · have q0 := p0
      have q1 := p1
      simp at q0 q1
      rw [Int.tmod_eq_emod_of_nonneg (by omega)] at q0 q1
      have e : oneL n = n := by
        unfold oneL
        rw [if_neg (by omega), if_neg (by omega), if_pos (by omega)]; omega
      rw [e]
      clear e
      have s376 : (n == 376) = false := by simp; omega
      have s383 : (n == 383) = false := by simp; omega
      have s181 : (n == 181) = false := by simp; omega
      have s962 : (n == 962) = false := by simp; omega
      have s7838 : (n == 7838) = false := by simp; omega
      have s8486 : (n == 8486) = false := by simp; omega
      have s8490 : (n == 8490) = false := by simp; omega
      have s8491 : (n == 8491) = false := by simp; omega
      go_enter Tryd.func11, Tryd.ntmps11
      go_wp2_with (go_at_call 33; first | (refine (with_yes (by omega) _).mono ?_; rintro e w9 ⟨rfl, rfl⟩) | (refine (with_no (by omega) _).mono ?_; rintro e w9 ⟨rfl, rfl⟩))
      go_ret
      exact ⟨rfl, rfl⟩
  · cases p1 : (n.tmod 2 == 1)
    · have q0 := p0
      have q1 := p1
      simp at q0 q1
      rw [Int.tmod_eq_emod_of_nonneg (by omega)] at q0 q1
      have e : oneL n = n + 1 := by
        unfold oneL
        rw [if_neg (by omega), if_neg (by omega), if_pos (by omega)]; omega
      rw [e]
      clear e
      have s376 : (n == 376) = false := by simp; omega
      have s383 : (n == 383) = false := by simp; omega
      have s181 : (n == 181) = false := by simp; omega
      have s962 : (n == 962) = false := by simp; omega
      have s7838 : (n == 7838) = false := by simp; omega
      have s8486 : (n == 8486) = false := by simp; omega
      have s8490 : (n == 8490) = false := by simp; omega
      have s8491 : (n == 8491) = false := by simp; omega
      go_enter Tryd.func11, Tryd.ntmps11
      go_wp2_with (go_at_call 33; first | (refine (with_yes (by omega) _).mono ?_; rintro e w9 ⟨rfl, rfl⟩) | (refine (with_no (by omega) _).mono ?_; rintro e w9 ⟨rfl, rfl⟩))
      go_ret
      exact ⟨by go_num, rfl⟩
    · simp at p0 p1; omega
set_option maxHeartbeats 1000000 in
theorem refOne_10 (n : Int) (w : World) (ha : 311 ≤ n) (hb : n ≤ 312) : Calls Tryd.prog 11 #[.int .i32 n] w fun e w' => e = .returned (.int .i32 (oneL n)) ∧ w' = w := by
  cases p0 : (n.tmod 2 == 0)
  · cases p1 : (n.tmod 2 == 1)
    · have q0 := p0
      have q1 := p1
      simp at q0 q1
      rw [Int.tmod_eq_emod_of_nonneg (by omega)] at q0 q1
      omega
    · have q0 := p0
      have q1 := p1
      simp at q0 q1
      rw [Int.tmod_eq_emod_of_nonneg (by omega)] at q0 q1
      have e : oneL n = n := by
        unfold oneL singleL
        rw [if_neg (by omega), if_neg (by omega), if_neg (by omega), if_neg (by omega)]
        repeat rw [if_neg (by omega)]
      rw [e]
      clear e
      have s376 : (n == 376) = false := by simp; omega
      have s383 : (n == 383) = false := by simp; omega
      have s181 : (n == 181) = false := by simp; omega
      have s962 : (n == 962) = false := by simp; omega
      have s7838 : (n == 7838) = false := by simp; omega
      have s8486 : (n == 8486) = false := by simp; omega
      have s8490 : (n == 8490) = false := by simp; omega
      have s8491 : (n == 8491) = false := by simp; omega
      go_enter Tryd.func11, Tryd.ntmps11
      go_wp2_with (go_at_call 33; first | (refine (with_yes (by omega) _).mono ?_; rintro e w9 ⟨rfl, rfl⟩) | (refine (with_no (by omega) _).mono ?_; rintro e w9 ⟨rfl, rfl⟩))
      go_ret
      exact ⟨rfl, rfl⟩
  · cases p1 : (n.tmod 2 == 1)
    · have q0 := p0
      have q1 := p1
      simp at q0 q1
      rw [Int.tmod_eq_emod_of_nonneg (by omega)] at q0 q1
      have e : oneL n = n := by
        unfold oneL singleL
        rw [if_neg (by omega), if_neg (by omega), if_neg (by omega), if_neg (by omega)]
        repeat rw [if_neg (by omega)]
      rw [e]
      clear e
      have s376 : (n == 376) = false := by simp; omega
      have s383 : (n == 383) = false := by simp; omega
      have s181 : (n == 181) = false := by simp; omega
      have s962 : (n == 962) = false := by simp; omega
      have s7838 : (n == 7838) = false := by simp; omega
      have s8486 : (n == 8486) = false := by simp; omega
      have s8490 : (n == 8490) = false := by simp; omega
      have s8491 : (n == 8491) = false := by simp; omega
      go_enter Tryd.func11, Tryd.ntmps11
      go_wp2_with (go_at_call 33; first | (refine (with_yes (by omega) _).mono ?_; rintro e w9 ⟨rfl, rfl⟩) | (refine (with_no (by omega) _).mono ?_; rintro e w9 ⟨rfl, rfl⟩))
      go_ret
      exact ⟨rfl, rfl⟩
    · simp at p0 p1; omega
set_option maxHeartbeats 1000000 in
theorem refOne_11 (n : Int) (w : World) (ha : 313 ≤ n) (hb : n ≤ 327) : Calls Tryd.prog 11 #[.int .i32 n] w fun e w' => e = .returned (.int .i32 (oneL n)) ∧ w' = w := by
  cases p0 : (n.tmod 2 == 0)
  · cases p1 : (n.tmod 2 == 1)
    · have q0 := p0
      have q1 := p1
      simp at q0 q1
      rw [Int.tmod_eq_emod_of_nonneg (by omega)] at q0 q1
      omega
    · have q0 := p0
      have q1 := p1
      simp at q0 q1
      rw [Int.tmod_eq_emod_of_nonneg (by omega)] at q0 q1
      have e : oneL n = n + 1 := by
        unfold oneL
        rw [if_neg (by omega), if_neg (by omega), if_neg (by omega), if_pos (by omega)]; omega
      rw [e]
      clear e
      have s376 : (n == 376) = false := by simp; omega
      have s383 : (n == 383) = false := by simp; omega
      have s181 : (n == 181) = false := by simp; omega
      have s962 : (n == 962) = false := by simp; omega
      have s7838 : (n == 7838) = false := by simp; omega
      have s8486 : (n == 8486) = false := by simp; omega
      have s8490 : (n == 8490) = false := by simp; omega
      have s8491 : (n == 8491) = false := by simp; omega
      go_enter Tryd.func11, Tryd.ntmps11
      go_wp2_with (go_at_call 33; first | (refine (with_yes (by omega) _).mono ?_; rintro e w9 ⟨rfl, rfl⟩) | (refine (with_no (by omega) _).mono ?_; rintro e w9 ⟨rfl, rfl⟩))
      go_ret
      exact ⟨by go_num, rfl⟩
  · cases p1 : (n.tmod 2 == 1)
    · have q0 := p0
      have q1 := p1
      simp at q0 q1
      rw [Int.tmod_eq_emod_of_nonneg (by omega)] at q0 q1
      have e : oneL n = n := by
        unfold oneL
        rw [if_neg (by omega), if_neg (by omega), if_neg (by omega), if_pos (by omega)]; omega
      rw [e]
      clear e
      have s376 : (n == 376) = false := by simp; omega
      have s383 : (n == 383) = false := by simp; omega
      have s181 : (n == 181) = false := by simp; omega
      have s962 : (n == 962) = false := by simp; omega
      have s7838 : (n == 7838) = false := by simp; omega
      have s8486 : (n == 8486) = false := by simp; omega
      have s8490 : (n == 8490) = false := by simp; omega
      have s8491 : (n == 8491) = false := by simp; omega
      go_enter Tryd.func11, Tryd.ntmps11
      go_wp2_with (go_at_call 33; first | (refine (with_yes (by omega) _).mono ?_; rintro e w9 ⟨rfl, rfl⟩) | (refine (with_no (by omega) _).mono ?_; rintro e w9 ⟨rfl, rfl⟩))
      go_ret
      exact ⟨rfl, rfl⟩
    · simp at p0 p1; omega
set_option maxHeartbeats 1000000 in
theorem refOne_12 (n : Int) (w : World) (ha : 328 ≤ n) (hb : n ≤ 329) : Calls Tryd.prog 11 #[.int .i32 n] w fun e w' => e = .returned (.int .i32 (oneL n)) ∧ w' = w := by
  cases p0 : (n.tmod 2 == 0)
  · cases p1 : (n.tmod 2 == 1)
    · have q0 := p0
      have q1 := p1
      simp at q0 q1
      rw [Int.tmod_eq_emod_of_nonneg (by omega)] at q0 q1
      omega
    · have q0 := p0
      have q1 := p1
      simp at q0 q1
      rw [Int.tmod_eq_emod_of_nonneg (by omega)] at q0 q1
      have e : oneL n = n := by
        unfold oneL singleL
        rw [if_neg (by omega), if_neg (by omega), if_neg (by omega), if_neg (by omega)]
        repeat rw [if_neg (by omega)]
      rw [e]
      clear e
      have s376 : (n == 376) = false := by simp; omega
      have s383 : (n == 383) = false := by simp; omega
      have s181 : (n == 181) = false := by simp; omega
      have s962 : (n == 962) = false := by simp; omega
      have s7838 : (n == 7838) = false := by simp; omega
      have s8486 : (n == 8486) = false := by simp; omega
      have s8490 : (n == 8490) = false := by simp; omega
      have s8491 : (n == 8491) = false := by simp; omega
      go_enter Tryd.func11, Tryd.ntmps11
      go_wp2_with (go_at_call 33; first | (refine (with_yes (by omega) _).mono ?_; rintro e w9 ⟨rfl, rfl⟩) | (refine (with_no (by omega) _).mono ?_; rintro e w9 ⟨rfl, rfl⟩))
      go_ret
      exact ⟨rfl, rfl⟩
  · cases p1 : (n.tmod 2 == 1)
    · have q0 := p0
      have q1 := p1
      simp at q0 q1
      rw [Int.tmod_eq_emod_of_nonneg (by omega)] at q0 q1
      have e : oneL n = n := by
        unfold oneL singleL
        rw [if_neg (by omega), if_neg (by omega), if_neg (by omega), if_neg (by omega)]
        repeat rw [if_neg (by omega)]
      rw [e]
      clear e
      have s376 : (n == 376) = false := by simp; omega
      have s383 : (n == 383) = false := by simp; omega
      have s181 : (n == 181) = false := by simp; omega
      have s962 : (n == 962) = false := by simp; omega
      have s7838 : (n == 7838) = false := by simp; omega
      have s8486 : (n == 8486) = false := by simp; omega
      have s8490 : (n == 8490) = false := by simp; omega
      have s8491 : (n == 8491) = false := by simp; omega
      go_enter Tryd.func11, Tryd.ntmps11
      go_wp2_with (go_at_call 33; first | (refine (with_yes (by omega) _).mono ?_; rintro e w9 ⟨rfl, rfl⟩) | (refine (with_no (by omega) _).mono ?_; rintro e w9 ⟨rfl, rfl⟩))
      go_ret
      exact ⟨rfl, rfl⟩
    · simp at p0 p1; omega
set_option maxHeartbeats 1000000 in
theorem refOne_13 (n : Int) (w : World) (ha : 330 ≤ n) (hb : n ≤ 374) : Calls Tryd.prog 11 #[.int .i32 n] w fun e w' => e = .returned (.int .i32 (oneL n)) ∧ w' = w := by
  cases p0 : (n.tmod 2 == 0)
  · cases p1 : (n.tmod 2 == 1)
    · have q0 := p0
      have q1 := p1
      simp at q0 q1
      rw [Int.tmod_eq_emod_of_nonneg (by omega)] at q0 q1
      omega
    · have q0 := p0
      have q1 := p1
      simp at q0 q1
      rw [Int.tmod_eq_emod_of_nonneg (by omega)] at q0 q1
      have e : oneL n = n := by
        unfold oneL
        rw [if_neg (by omega), if_neg (by omega), if_pos (by omega)]; omega
      rw [e]
      clear e
      have s376 : (n == 376) = false := by simp; omega
      have s383 : (n == 383) = false := by simp; omega
      have s181 : (n == 181) = false := by simp; omega
      have s962 : (n == 962) = false := by simp; omega
      have s7838 : (n == 7838) = false := by simp; omega
      have s8486 : (n == 8486) = false := by simp; omega
      have s8490 : (n == 8490) = false := by simp; omega
      have s8491 : (n == 8491) = false := by simp; omega
      go_enter Tryd.func11, Tryd.ntmps11
      go_wp2_with (go_at_call 33; first | (refine (with_yes (by omega) _).mono ?_; rintro e w9 ⟨rfl, rfl⟩) | (refine (with_no (by omega) _).mono ?_; rintro e w9 ⟨rfl, rfl⟩))
      go_ret
      exact ⟨rfl, rfl⟩
  · cases p1 : (n.tmod 2 == 1)
    · have q0 := p0
      have q1 := p1
      simp at q0 q1
      rw [Int.tmod_eq_emod_of_nonneg (by omega)] at q0 q1
      have e : oneL n = n + 1 := by
        unfold oneL
        rw [if_neg (by omega), if_neg (by omega), if_pos (by omega)]; omega
      rw [e]
      clear e
      have s376 : (n == 376) = false := by simp; omega
      have s383 : (n == 383) = false := by simp; omega
      have s181 : (n == 181) = false := by simp; omega
      have s962 : (n == 962) = false := by simp; omega
      have s7838 : (n == 7838) = false := by simp; omega
      have s8486 : (n == 8486) = false := by simp; omega
      have s8490 : (n == 8490) = false := by simp; omega
      have s8491 : (n == 8491) = false := by simp; omega
      go_enter Tryd.func11, Tryd.ntmps11
      go_wp2_with (go_at_call 33; first | (refine (with_yes (by omega) _).mono ?_; rintro e w9 ⟨rfl, rfl⟩) | (refine (with_no (by omega) _).mono ?_; rintro e w9 ⟨rfl, rfl⟩))
      go_ret
      exact ⟨by go_num, rfl⟩
    · simp at p0 p1; omega
set_option maxHeartbeats 1000000 in
theorem refOne_14 (n : Int) (w : World) (ha : 375 ≤ n) (hb : n ≤ 375) : Calls Tryd.prog 11 #[.int .i32 n] w fun e w' => e = .returned (.int .i32 (oneL n)) ∧ w' = w := by
  cases p0 : (n.tmod 2 == 0)
  · cases p1 : (n.tmod 2 == 1)
    · have q0 := p0
      have q1 := p1
      simp at q0 q1
      rw [Int.tmod_eq_emod_of_nonneg (by omega)] at q0 q1
      omega
    · have q0 := p0
      have q1 := p1
      simp at q0 q1
      rw [Int.tmod_eq_emod_of_nonneg (by omega)] at q0 q1
      have e : oneL n = n := by
        unfold oneL singleL
        rw [if_neg (by omega), if_neg (by omega), if_neg (by omega), if_neg (by omega)]
        repeat rw [if_neg (by omega)]
      rw [e]
      clear e
      have s376 : (n == 376) = false := by simp; omega
      have s383 : (n == 383) = false := by simp; omega
      have s181 : (n == 181) = false := by simp; omega
      have s962 : (n == 962) = false := by simp; omega
      have s7838 : (n == 7838) = false := by simp; omega
      have s8486 : (n == 8486) = false := by simp; omega
      have s8490 : (n == 8490) = false := by simp; omega
      have s8491 : (n == 8491) = false := by simp; omega
      go_enter Tryd.func11, Tryd.ntmps11
      go_wp2_with (go_at_call 33; first | (refine (with_yes (by omega) _).mono ?_; rintro e w9 ⟨rfl, rfl⟩) | (refine (with_no (by omega) _).mono ?_; rintro e w9 ⟨rfl, rfl⟩))
      go_ret
      exact ⟨rfl, rfl⟩
  · cases p1 : (n.tmod 2 == 1)
    · have q0 := p0
      have q1 := p1
      simp at q0 q1
      rw [Int.tmod_eq_emod_of_nonneg (by omega)] at q0 q1
      omega
    · simp at p0 p1; omega
set_option maxHeartbeats 1000000 in
theorem refOne_15 (n : Int) (w : World) (ha : 376 ≤ n) (hb : n ≤ 376) : Calls Tryd.prog 11 #[.int .i32 n] w fun e w' => e = .returned (.int .i32 (oneL n)) ∧ w' = w := by
  by_cases z376 : n = 376
  · subst z376
    rw [show oneL 376 = 255 by decide +kernel]
    go_enter Tryd.func11, Tryd.ntmps11
    go_wp2_with (go_at_call 33; first | (refine (with_yes (by omega) _).mono ?_; rintro e w9 ⟨rfl, rfl⟩) | (refine (with_no (by omega) _).mono ?_; rintro e w9 ⟨rfl, rfl⟩))
    go_ret
    exact ⟨rfl, rfl⟩
  cases p0 : (n.tmod 2 == 0)
  · cases p1 : (n.tmod 2 == 1)
    · have q0 := p0
      have q1 := p1
      simp at q0 q1
      rw [Int.tmod_eq_emod_of_nonneg (by omega)] at q0 q1
      omega
    · have q0 := p0
      have q1 := p1
      simp at q0 q1
      rw [Int.tmod_eq_emod_of_nonneg (by omega)] at q0 q1
      omega
  · cases p1 : (n.tmod 2 == 1)
    · have q0 := p0
      have q1 := p1
      simp at q0 q1
      rw [Int.tmod_eq_emod_of_nonneg (by omega)] at q0 q1
      omega
    · simp at p0 p1; omega
set_option maxHeartbeats 1000000 in
theorem refOne_16 (n : Int) (w : World) (ha : 377 ≤ n) (hb : n ≤ 381) : Calls Tryd.prog 11 #[.int .i32 n] w fun e w' => e = .returned (.int .i32 (oneL n)) ∧ w' = w := by
  cases p0 : (n.tmod 2 == 0)
  · cases p1 : (n.tmod 2 == 1)
    · have q0 := p0
      have q1 := p1
      simp at q0 q1
      rw [Int.tmod_eq_emod_of_nonneg (by omega)] at q0 q1
      omega
    · have q0 := p0
      have q1 := p1
      simp at q0 q1
      rw [Int.tmod_eq_emod_of_nonneg (by omega)] at q0 q1
      have e : oneL n = n + 1 := by
        unfold oneL
        rw [if_neg (by omega), if_neg (by omega), if_neg (by omega), if_pos (by omega)]; omega
      rw [e]
      clear e
      have s376 : (n == 376) = false := by simp; omega
      have s383 : (n == 383) = false := by simp; omega
      have s181 : (n == 181) = false := by simp; omega
      have s962 : (n == 962) = false := by simp; omega
      have s7838 : (n == 7838) = false := by simp; omega
      have s8486 : (n == 8486) = false := by simp; omega
      have s8490 : (n == 8490) = false := by simp; omega
      have s8491 : (n == 8491) = false := by simp; omega
      go_enter Tryd.func11, Tryd.ntmps11
      go_wp2_with (go_at_call 33; first | (refine (with_yes (by omega) _).mono ?_; rintro e w9 ⟨rfl, rfl⟩) | (refine (with_no (by omega) _).mono ?_; rintro e w9 ⟨rfl, rfl⟩))
      go_ret
      exact ⟨by go_num, rfl⟩
  · cases p1 : (n.tmod 2 == 1)
    · have q0 := p0
      have q1 := p1
      simp at q0 q1
      rw [Int.tmod_eq_emod_of_nonneg (by omega)] at q0 q1
      have e : oneL n = n := by
        unfold oneL
        rw [if_neg (by omega), if_neg (by omega), if_neg (by omega), if_pos (by omega)]; omega
      rw [e]
      clear e
      have s376 : (n == 376) = false := by simp; omega
      have s383 : (n == 383) = false := by simp; omega
      have s181 : (n == 181) = false := by simp; omega
      have s962 : (n == 962) = false := by simp; omega
      have s7838 : (n == 7838) = false := by simp; omega
      have s8486 : (n == 8486) = false := by simp; omega
      have s8490 : (n == 8490) = false := by simp; omega
      have s8491 : (n == 8491) = false := by simp; omega
      go_enter Tryd.func11, Tryd.ntmps11
      go_wp2_with (go_at_call 33; first | (refine (with_yes (by omega) _).mono ?_; rintro e w9 ⟨rfl, rfl⟩) | (refine (with_no (by omega) _).mono ?_; rintro e w9 ⟨rfl, rfl⟩))
      go_ret
      exact ⟨rfl, rfl⟩
    · simp at p0 p1; omega
set_option maxHeartbeats 1000000 in
theorem refOne_17 (n : Int) (w : World) (ha : 382 ≤ n) (hb : n ≤ 912) : Calls Tryd.prog 11 #[.int .i32 n] w fun e w' => e = .returned (.int .i32 (oneL n)) ∧ w' = w := by
  by_cases z383 : n = 383
  · subst z383
    rw [show oneL 383 = 115 by decide +kernel]
    go_enter Tryd.func11, Tryd.ntmps11
    go_wp2_with (go_at_call 33; first | (refine (with_yes (by omega) _).mono ?_; rintro e w9 ⟨rfl, rfl⟩) | (refine (with_no (by omega) _).mono ?_; rintro e w9 ⟨rfl, rfl⟩))
    go_ret
    exact ⟨rfl, rfl⟩
  cases p0 : (n.tmod 2 == 0)
  · cases p1 : (n.tmod 2 == 1)
    · have q0 := p0
      have q1 := p1
      simp at q0 q1
      rw [Int.tmod_eq_emod_of_nonneg (by omega)] at q0 q1
      omega
    · have q0 := p0
      have q1 := p1
      simp at q0 q1
      rw [Int.tmod_eq_emod_of_nonneg (by omega)] at q0 q1
      have e : oneL n = n := by
        unfold oneL singleL
        rw [if_neg (by omega), if_neg (by omega), if_neg (by omega), if_neg (by omega)]
        repeat rw [if_neg (by omega)]
      rw [e]
      clear e
      have s376 : (n == 376) = false := by simp; omega
      have s383 : (n == 383) = false := by simp; omega
      have s181 : (n == 181) = false := by simp; omega
      have s962 : (n == 962) = false := by simp; omega
      have s7838 : (n == 7838) = false := by simp; omega
      have s8486 : (n == 8486) = false := by simp; omega
      have s8490 : (n == 8490) = false := by simp; omega
      have s8491 : (n == 8491) = false := by simp; omega
      go_enter Tryd.func11, Tryd.ntmps11
      go_wp2_with (go_at_call 33; first | (refine (with_yes (by omega) _).mono ?_; rintro e w9 ⟨rfl, rfl⟩) | (refine (with_no (by omega) _).mono ?_; rintro e w9 ⟨rfl, rfl⟩))
      go_ret
      exact ⟨rfl, rfl⟩
  · cases p1 : (n.tmod 2 == 1)
    · have q0 := p0
      have q1 := p1
      simp at q0 q1
      rw [Int.tmod_eq_emod_of_nonneg (by omega)] at q0 q1
      have e : oneL n = n := by
        unfold oneL singleL
        rw [if_neg (by omega), if_neg (by omega), if_neg (by omega), if_neg (by omega)]
        repeat rw [if_neg (by omega)]
      rw [e]
      clear e
      have s376 : (n == 376) = false := by simp; omega
      have s383 : (n == 383) = false := by simp; omega
      have s181 : (n == 181) = false := by simp; omega
      have s962 : (n == 962) = false := by simp; omega
      have s7838 : (n == 7838) = false := by simp; omega
      have s8486 : (n == 8486) = false := by simp; omega
      have s8490 : (n == 8490) = false := by simp; omega
      have s8491 : (n == 8491) = false := by simp; omega
      go_enter Tryd.func11, Tryd.ntmps11
      go_wp2_with (go_at_call 33; first | (refine (with_yes (by omega) _).mono ?_; rintro e w9 ⟨rfl, rfl⟩) | (refine (with_no (by omega) _).mono ?_; rintro e w9 ⟨rfl, rfl⟩))
      go_ret
      exact ⟨rfl, rfl⟩
    · simp at p0 p1; omega
set_option maxHeartbeats 1000000 in
theorem refOne_18 (n : Int) (w : World) (ha : 913 ≤ n) (hb : n ≤ 929) : Calls Tryd.prog 11 #[.int .i32 n] w fun e w' => e = .returned (.int .i32 (oneL n)) ∧ w' = w := by
  have e : oneL n = n + 32 := by
    unfold oneL
    rw [if_pos (by omega)]
  rw [e]
  clear e
  have c : (n != 930) = true := by simp; omega
  go_enter Tryd.func11, Tryd.ntmps11
  go_wp2_with (go_at_call 33; first | (refine (with_yes (by omega) _).mono ?_; rintro e w9 ⟨rfl, rfl⟩) | (refine (with_no (by omega) _).mono ?_; rintro e w9 ⟨rfl, rfl⟩))
  go_ret
  exact ⟨by go_num, rfl⟩
set_option maxHeartbeats 1000000 in
theorem refOne_19 (n : Int) (w : World) (ha : 930 ≤ n) (hb : n ≤ 930) : Calls Tryd.prog 11 #[.int .i32 n] w fun e w' => e = .returned (.int .i32 (oneL n)) ∧ w' = w := by
  have c : (n != 930) = false := by simp; omega
  cases p0 : (n.tmod 2 == 0)
  · cases p1 : (n.tmod 2 == 1)
    · have q0 := p0
      have q1 := p1
      simp at q0 q1
      rw [Int.tmod_eq_emod_of_nonneg (by omega)] at q0 q1
      omega
    · have q0 := p0
      have q1 := p1
      simp at q0 q1
      rw [Int.tmod_eq_emod_of_nonneg (by omega)] at q0 q1
      omega
  · cases p1 : (n.tmod 2 == 1)
    · have q0 := p0
      have q1 := p1
      simp at q0 q1
      rw [Int.tmod_eq_emod_of_nonneg (by omega)] at q0 q1
      have e : oneL n = n := by
        unfold oneL singleL
        rw [if_neg (by omega), if_neg (by omega), if_neg (by omega), if_neg (by omega)]
        repeat rw [if_neg (by omega)]
      rw [e]
      clear e
      have s376 : (n == 376) = false := by simp; omega
      have s383 : (n == 383) = false := by simp; omega
      have s181 : (n == 181) = false := by simp; omega
      have s962 : (n == 962) = false := by simp; omega
      have s7838 : (n == 7838) = false := by simp; omega
      have s8486 : (n == 8486) = false := by simp; omega
      have s8490 : (n == 8490) = false := by simp; omega
      have s8491 : (n == 8491) = false := by simp; omega
      go_enter Tryd.func11, Tryd.ntmps11
      go_wp2_with (go_at_call 33; first | (refine (with_yes (by omega) _).mono ?_; rintro e w9 ⟨rfl, rfl⟩) | (refine (with_no (by omega) _).mono ?_; rintro e w9 ⟨rfl, rfl⟩))
      go_ret
      exact ⟨rfl, rfl⟩
    · simp at p0 p1; omega
set_option maxHeartbeats 1000000 in
theorem refOne_20 (n : Int) (w : World) (ha : 931 ≤ n) (hb : n ≤ 937) : Calls Tryd.prog 11 #[.int .i32 n] w fun e w' => e = .returned (.int .i32 (oneL n)) ∧ w' = w := by
  have e : oneL n = n + 32 := by
    unfold oneL
    rw [if_pos (by omega)]
  rw [e]
  clear e
  have c : (n != 930) = true := by simp; omega
  go_enter Tryd.func11, Tryd.ntmps11
  go_wp2_with (go_at_call 33; first | (refine (with_yes (by omega) _).mono ?_; rintro e w9 ⟨rfl, rfl⟩) | (refine (with_no (by omega) _).mono ?_; rintro e w9 ⟨rfl, rfl⟩))
  go_ret
  exact ⟨by go_num, rfl⟩
set_option maxHeartbeats 1000000 in
theorem refOne_21 (n : Int) (w : World) (ha : 938 ≤ n) (hb : n ≤ 1023) : Calls Tryd.prog 11 #[.int .i32 n] w fun e w' => e = .returned (.int .i32 (oneL n)) ∧ w' = w := by
  by_cases z962 : n = 962
  · subst z962
    rw [show oneL 962 = 963 by decide +kernel]
    go_enter Tryd.func11, Tryd.ntmps11
    go_wp2_with (go_at_call 33; first | (refine (with_yes (by omega) _).mono ?_; rintro e w9 ⟨rfl, rfl⟩) | (refine (with_no (by omega) _).mono ?_; rintro e w9 ⟨rfl, rfl⟩))
    go_ret
    exact ⟨rfl, rfl⟩
  cases p0 : (n.tmod 2 == 0)
  · cases p1 : (n.tmod 2 == 1)
    · have q0 := p0
      have q1 := p1
      simp at q0 q1
      rw [Int.tmod_eq_emod_of_nonneg (by omega)] at q0 q1
      omega
    · have q0 := p0
      have q1 := p1
      simp at q0 q1
      rw [Int.tmod_eq_emod_of_nonneg (by omega)] at q0 q1
      have e : oneL n = n := by
        unfold oneL singleL
        rw [if_neg (by omega), if_neg (by omega), if_neg (by omega), if_neg (by omega)]
        repeat rw [if_neg (by omega)]
      rw [e]
      clear e
      have s376 : (n == 376) = false := by simp; omega
      have s383 : (n == 383) = false := by simp; omega
      have s181 : (n == 181) = false := by simp; omega
      have s962 : (n == 962) = false := by simp; omega
      have s7838 : (n == 7838) = false := by simp; omega
      have s8486 : (n == 8486) = false := by simp; omega
      have s8490 : (n == 8490) = false := by simp; omega
      have s8491 : (n == 8491) = false := by simp; omega
      go_enter Tryd.func11, Tryd.ntmps11
      go_wp2_with (go_at_call 33; first | (refine (with_yes (by omega) _).mono ?_; rintro e w9 ⟨rfl, rfl⟩) | (refine (with_no (by omega) _).mono ?_; rintro e w9 ⟨rfl, rfl⟩))
      go_ret
      exact ⟨rfl, rfl⟩
  · cases p1 : (n.tmod 2 == 1)
    · have q0 := p0
      have q1 := p1
      simp at q0 q1
      rw [Int.tmod_eq_emod_of_nonneg (by omega)] at q0 q1
      have e : oneL n = n := by
        unfold oneL singleL
        rw [if_neg (by omega), if_neg (by omega), if_neg (by omega), if_neg (by omega)]
        repeat rw [if_neg (by omega)]
      rw [e]
      clear e
      have s376 : (n == 376) = false := by simp; omega
      have s383 : (n == 383) = false := by simp; omega
      have s181 : (n == 181) = false := by simp; omega
      have s962 : (n == 962) = false := by simp; omega
      have s7838 : (n == 7838) = false := by simp; omega
      have s8486 : (n == 8486) = false := by simp; omega
      have s8490 : (n == 8490) = false := by simp; omega
      have s8491 : (n == 8491) = false := by simp; omega
      go_enter Tryd.func11, Tryd.ntmps11
      go_wp2_with (go_at_call 33; first | (refine (with_yes (by omega) _).mono ?_; rintro e w9 ⟨rfl, rfl⟩) | (refine (with_no (by omega) _).mono ?_; rintro e w9 ⟨rfl, rfl⟩))
      go_ret
      exact ⟨rfl, rfl⟩
    · simp at p0 p1; omega
set_option maxHeartbeats 1000000 in
theorem refOne_22 (n : Int) (w : World) (ha : 1024 ≤ n) (hb : n ≤ 1039) : Calls Tryd.prog 11 #[.int .i32 n] w fun e w' => e = .returned (.int .i32 (oneL n)) ∧ w' = w := by
  have e : oneL n = n + 80 := by
    unfold oneL
    rw [if_neg (by omega), if_pos (by omega)]
  rw [e]
  clear e
  go_enter Tryd.func11, Tryd.ntmps11
  go_wp2_with (go_at_call 33; first | (refine (with_yes (by omega) _).mono ?_; rintro e w9 ⟨rfl, rfl⟩) | (refine (with_no (by omega) _).mono ?_; rintro e w9 ⟨rfl, rfl⟩))
  go_ret
  exact ⟨by go_num, rfl⟩
set_option maxHeartbeats 1000000 in
theorem refOne_23 (n : Int) (w : World) (ha : 1040 ≤ n) (hb : n ≤ 1071) : Calls Tryd.prog 11 #[.int .i32 n] w fun e w' => e = .returned (.int .i32 (oneL n)) ∧ w' = w := by
  have e : oneL n = n + 32 := by
    unfold oneL
    rw [if_pos (by omega)]
  rw [e]
  clear e
  go_enter Tryd.func11, Tryd.ntmps11
  go_wp2_with (go_at_call 33; first | (refine (with_yes (by omega) _).mono ?_; rintro e w9 ⟨rfl, rfl⟩) | (refine (with_no (by omega) _).mono ?_; rintro e w9 ⟨rfl, rfl⟩))
  go_ret
  exact ⟨by go_num, rfl⟩
set_option maxHeartbeats 1000000 in
theorem refOne_24 (n : Int) (w : World) (hhi : n ≤ 2147483647) (ha : 1072 ≤ n) : Calls Tryd.prog 11 #[.int .i32 n] w fun e w' => e = .returned (.int .i32 (oneL n)) ∧ w' = w := by
  by_cases z7838 : n = 7838
  · subst z7838
    rw [show oneL 7838 = 223 by decide +kernel]
    go_enter Tryd.func11, Tryd.ntmps11
    go_wp2_with (go_at_call 33; first | (refine (with_yes (by omega) _).mono ?_; rintro e w9 ⟨rfl, rfl⟩) | (refine (with_no (by omega) _).mono ?_; rintro e w9 ⟨rfl, rfl⟩))
    go_ret
    exact ⟨rfl, rfl⟩
  by_cases z8486 : n = 8486
  · subst z8486
    rw [show oneL 8486 = 969 by decide +kernel]
    go_enter Tryd.func11, Tryd.ntmps11
    go_wp2_with (go_at_call 33; first | (refine (with_yes (by omega) _).mono ?_; rintro e w9 ⟨rfl, rfl⟩) | (refine (with_no (by omega) _).mono ?_; rintro e w9 ⟨rfl, rfl⟩))
    go_ret
    exact ⟨rfl, rfl⟩
  by_cases z8490 : n = 8490
  · subst z8490
    rw [show oneL 8490 = 107 by decide +kernel]
    go_enter Tryd.func11, Tryd.ntmps11
    go_wp2_with (go_at_call 33; first | (refine (with_yes (by omega) _).mono ?_; rintro e w9 ⟨rfl, rfl⟩) | (refine (with_no (by omega) _).mono ?_; rintro e w9 ⟨rfl, rfl⟩))
    go_ret
    exact ⟨rfl, rfl⟩
  by_cases z8491 : n = 8491
  · subst z8491
    rw [show oneL 8491 = 229 by decide +kernel]
    go_enter Tryd.func11, Tryd.ntmps11
    go_wp2_with (go_at_call 33; first | (refine (with_yes (by omega) _).mono ?_; rintro e w9 ⟨rfl, rfl⟩) | (refine (with_no (by omega) _).mono ?_; rintro e w9 ⟨rfl, rfl⟩))
    go_ret
    exact ⟨rfl, rfl⟩
  cases p0 : (n.tmod 2 == 0)
  · cases p1 : (n.tmod 2 == 1)
    · have q0 := p0
      have q1 := p1
      simp at q0 q1
      rw [Int.tmod_eq_emod_of_nonneg (by omega)] at q0 q1
      omega
    · have q0 := p0
      have q1 := p1
      simp at q0 q1
      rw [Int.tmod_eq_emod_of_nonneg (by omega)] at q0 q1
      have e : oneL n = n := by
        unfold oneL singleL
        rw [if_neg (by omega), if_neg (by omega), if_neg (by omega), if_neg (by omega)]
        repeat rw [if_neg (by omega)]
      rw [e]
      clear e
      have s376 : (n == 376) = false := by simp; omega
      have s383 : (n == 383) = false := by simp; omega
      have s181 : (n == 181) = false := by simp; omega
      have s962 : (n == 962) = false := by simp; omega
      have s7838 : (n == 7838) = false := by simp; omega
      have s8486 : (n == 8486) = false := by simp; omega
      have s8490 : (n == 8490) = false := by simp; omega
      have s8491 : (n == 8491) = false := by simp; omega
      go_enter Tryd.func11, Tryd.ntmps11
      go_wp2_with (go_at_call 33; first | (refine (with_yes (by omega) _).mono ?_; rintro e w9 ⟨rfl, rfl⟩) | (refine (with_no (by omega) _).mono ?_; rintro e w9 ⟨rfl, rfl⟩))
      go_ret
      exact ⟨rfl, rfl⟩
  · cases p1 : (n.tmod 2 == 1)
    · have q0 := p0
      have q1 := p1
      simp at q0 q1
      rw [Int.tmod_eq_emod_of_nonneg (by omega)] at q0 q1
      have e : oneL n = n := by
        unfold oneL singleL
        rw [if_neg (by omega), if_neg (by omega), if_neg (by omega), if_neg (by omega)]
        repeat rw [if_neg (by omega)]
      rw [e]
      clear e
      have s376 : (n == 376) = false := by simp; omega
      have s383 : (n == 383) = false := by simp; omega
      have s181 : (n == 181) = false := by simp; omega
      have s962 : (n == 962) = false := by simp; omega
      have s7838 : (n == 7838) = false := by simp; omega
      have s8486 : (n == 8486) = false := by simp; omega
      have s8490 : (n == 8490) = false := by simp; omega
      have s8491 : (n == 8491) = false := by simp; omega
      go_enter Tryd.func11, Tryd.ntmps11
      go_wp2_with (go_at_call 33; first | (refine (with_yes (by omega) _).mono ?_; rintro e w9 ⟨rfl, rfl⟩) | (refine (with_no (by omega) _).mono ?_; rintro e w9 ⟨rfl, rfl⟩))
      go_ret
      exact ⟨rfl, rfl⟩
    · simp at p0 p1; omega
/-- missiveref07.One tells the fold. -/
theorem refOne_any (n : Int) (w : World) (h : -2147483648 ≤ n ∧ n ≤ 2147483647) : Calls Tryd.prog 11 #[.int .i32 n] w fun e w' => e = .returned (.int .i32 (oneL n)) ∧ w' = w := by
  by_cases g : n ≤ 64
  · exact refOne_0 n w h.1 g
  by_cases g : n ≤ 90
  · exact refOne_1 n w (by omega) g
  by_cases g : n ≤ 191
  · exact refOne_2 n w (by omega) g
  by_cases g : n ≤ 214
  · exact refOne_3 n w (by omega) g
  by_cases g : n ≤ 215
  · exact refOne_4 n w (by omega) g
  by_cases g : n ≤ 222
  · exact refOne_5 n w (by omega) g
  by_cases g : n ≤ 255
  · exact refOne_6 n w (by omega) g
  by_cases g : n ≤ 302
  · exact refOne_7 n w (by omega) g
  by_cases g : n ≤ 305
  · exact refOne_8 n w (by omega) g
  by_cases g : n ≤ 310
  · exact refOne_9 n w (by omega) g
  by_cases g : n ≤ 312
  · exact refOne_10 n w (by omega) g
  by_cases g : n ≤ 327
  · exact refOne_11 n w (by omega) g
  by_cases g : n ≤ 329
  · exact refOne_12 n w (by omega) g
  by_cases g : n ≤ 374
  · exact refOne_13 n w (by omega) g
  by_cases g : n ≤ 375
  · exact refOne_14 n w (by omega) g
  by_cases g : n ≤ 376
  · exact refOne_15 n w (by omega) g
  by_cases g : n ≤ 381
  · exact refOne_16 n w (by omega) g
  by_cases g : n ≤ 912
  · exact refOne_17 n w (by omega) g
  by_cases g : n ≤ 929
  · exact refOne_18 n w (by omega) g
  by_cases g : n ≤ 930
  · exact refOne_19 n w (by omega) g
  by_cases g : n ≤ 937
  · exact refOne_20 n w (by omega) g
  by_cases g : n ≤ 1023
  · exact refOne_21 n w (by omega) g
  by_cases g : n ≤ 1039
  · exact refOne_22 n w (by omega) g
  by_cases g : n ≤ 1071
  · exact refOne_23 n w (by omega) g
  exact refOne_24 n w h.2 (by omega)
end Go.Proofs.YtpblbeaifolldaaDoor
