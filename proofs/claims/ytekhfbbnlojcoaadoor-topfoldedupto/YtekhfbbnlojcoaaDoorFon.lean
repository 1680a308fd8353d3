/-
  What fold.single, fold.One and fold.Fold do, over this seat's program: letters' folds.
-/
import Derived.Test.YtekhfbbnlojcoaaDoorRsn
import Derived.Test.YtekhfbbnlojcoaaDoorFol
import Derived.Laws.Rows
set_option linter.unusedVariables false
namespace Go.Proofs.YtekhfbbnlojcoaaDoor
open Go.RowKit Go.Proofs.Rns Go.Proofs.Fol

theorem ret_i {k : IntKind} {a b : Int} (h : a = b) : Ending.returned (.int k a) = .returned (.int k b) := by rw [h]

set_option maxHeartbeats 1000000 in
theorem single_any (n : Int) (w : World) :
    Calls Tryd.prog 57 #[.int .i32 n] w fun e w' => e = .returned (.int .i32 (singleL n)) ∧ w' = w := by
  unfold singleL
  by_cases h1 : n = 181
  · subst h1
    go_enter Tryd.func57, Tryd.ntmps57
    go_wp2
    go_ret
    exact ⟨rfl, rfl⟩
  by_cases h2 : n = 376
  · subst h2
    go_enter Tryd.func57, Tryd.ntmps57
    go_wp2
    go_ret
    exact ⟨rfl, rfl⟩
  by_cases h3 : n = 383
  · subst h3
    go_enter Tryd.func57, Tryd.ntmps57
    go_wp2
    go_ret
    exact ⟨rfl, rfl⟩
  by_cases h4 : n = 962
  · subst h4
    go_enter Tryd.func57, Tryd.ntmps57
    go_wp2
    go_ret
    exact ⟨rfl, rfl⟩
  by_cases h5 : n = 7838
  · subst h5
    go_enter Tryd.func57, Tryd.ntmps57
    go_wp2
    go_ret
    exact ⟨rfl, rfl⟩
  by_cases h6 : n = 8486
  · subst h6
    go_enter Tryd.func57, Tryd.ntmps57
    go_wp2
    go_ret
    exact ⟨rfl, rfl⟩
  by_cases h7 : n = 8490
  · subst h7
    go_enter Tryd.func57, Tryd.ntmps57
    go_wp2
    go_ret
    exact ⟨rfl, rfl⟩
  by_cases h8 : n = 8491
  · subst h8
    go_enter Tryd.func57, Tryd.ntmps57
    go_wp2
    go_ret
    exact ⟨rfl, rfl⟩
  have e : (if n = 181 then (956 : Int) else if n = 376 then 255 else if n = 383 then 115 else if n = 962 then 963 else if n = 7838 then 223
    else if n = 8486 then 969 else if n = 8490 then 107 else if n = 8491 then 229 else n) = n := by
    rw [if_neg h1, if_neg h2, if_neg h3, if_neg h4, if_neg h5, if_neg h6, if_neg h7, if_neg h8]
  rw [e]
  have b1 : (n == 181) = false := by simpa using h1
  have b2 : (n == 376) = false := by simpa using h2
  have b3 : (n == 383) = false := by simpa using h3
  have b4 : (n == 962) = false := by simpa using h4
  have b5 : (n == 7838) = false := by simpa using h5
  have b6 : (n == 8486) = false := by simpa using h6
  have b7 : (n == 8490) = false := by simpa using h7
  have b8 : (n == 8491) = false := by simpa using h8
  clear h1 h2 h3 h4 h5 h6 h7 h8 e
  go_enter Tryd.func57, Tryd.ntmps57
  go_wp2
  go_ret
  exact ⟨rfl, rfl⟩
theorem bits_or_fin : ∀ k : Fin 128, bits BinOp.or IntKind.i32 (256 + (k.val : Int)) 1 = 256 + (k.val : Int) + (1 - (256 + (k.val : Int)) % 2) := by decide +kernel
theorem bits_and_fin : ∀ k : Fin 128, wrap32 (256 + (k.val : Int) + bits BinOp.and IntKind.i32 (256 + (k.val : Int)) 1) = 256 + (k.val : Int) + (256 + (k.val : Int)) % 2 := by decide +kernel
theorem bits_or {n : Int} (ha : 256 ≤ n) (hb : n ≤ 374) : bits BinOp.or IntKind.i32 n 1 = n + (1 - n % 2) := by
  have := bits_or_fin ⟨(n - 256).toNat, by omega⟩
  simp only at this
  rwa [show (256 : Int) + ((n - 256).toNat : Int) = n by omega] at this
theorem bits_and {n : Int} (ha : 256 ≤ n) (hb : n ≤ 381) : wrap32 (n + bits BinOp.and IntKind.i32 n 1) = n + n % 2 := by
  have := bits_and_fin ⟨(n - 256).toNat, by omega⟩
  simp only at this
  rwa [show (256 : Int) + ((n - 256).toNat : Int) = n by omega] at this
set_option maxHeartbeats 1000000 in
theorem one_0 (n : Int) (w : World) (hlo : -2147483648 ≤ n) (hb : n ≤ 64) : Calls Tryd.prog 36 #[.int .i32 n] w fun e w' => e = .returned (.int .i32 (oneL n)) ∧ w' = w := by
  have e : oneL n = singleL n := by
    unfold oneL
    rw [if_neg (by omega), if_neg (by omega), if_neg (by omega), if_neg (by omega)]
  rw [e]
  clear e
  have HS := hide (single_any n w)
  go_enter Tryd.func36, Tryd.ntmps36
  go_wp2_with fail
  refine (unhide HS).mono ?_
  rintro e w1 ⟨rfl, rfl⟩
  go_wp2
  go_ret
  exact ⟨rfl, rfl⟩
set_option maxHeartbeats 1000000 in
theorem one_1 (n : Int) (w : World) (ha : 65 ≤ n) (hb : n ≤ 90) : Calls Tryd.prog 36 #[.int .i32 n] w fun e w' => e = .returned (.int .i32 (oneL n)) ∧ w' = w := by
  have e : oneL n = n + 32 := by
    unfold oneL
    rw [if_pos (by omega)]
  rw [e]
  clear e
  go_enter Tryd.func36, Tryd.ntmps36
  go_wp2
  go_ret
  exact ⟨by go_num, rfl⟩
set_option maxHeartbeats 1000000 in
theorem one_2 (n : Int) (w : World) (ha : 91 ≤ n) (hb : n ≤ 191) : Calls Tryd.prog 36 #[.int .i32 n] w fun e w' => e = .returned (.int .i32 (oneL n)) ∧ w' = w := by
  have e : oneL n = singleL n := by
    unfold oneL
    rw [if_neg (by omega), if_neg (by omega), if_neg (by omega), if_neg (by omega)]
  rw [e]
  clear e
  have HS := hide (single_any n w)
  go_enter Tryd.func36, Tryd.ntmps36
  go_wp2_with fail
  refine (unhide HS).mono ?_
  rintro e w1 ⟨rfl, rfl⟩
  go_wp2
  go_ret
  exact ⟨rfl, rfl⟩
set_option maxHeartbeats 1000000 in
theorem one_3 (n : Int) (w : World) (ha : 192 ≤ n) (hb : n ≤ 214) : Calls Tryd.prog 36 #[.int .i32 n] w fun e w' => e = .returned (.int .i32 (oneL n)) ∧ w' = w := by
  have e : oneL n = n + 32 := by
    unfold oneL
    rw [if_pos (by omega)]
  rw [e]
  clear e
  have c : (n != 215) = true := by simp; omega
  go_enter Tryd.func36, Tryd.ntmps36
  go_wp2
  go_ret
  exact ⟨by go_num, rfl⟩
set_option maxHeartbeats 1000000 in
theorem one_4 (n : Int) (w : World) (ha : 215 ≤ n) (hb : n ≤ 215) : Calls Tryd.prog 36 #[.int .i32 n] w fun e w' => e = .returned (.int .i32 (oneL n)) ∧ w' = w := by
  have e : oneL n = singleL n := by
    unfold oneL
    rw [if_neg (by omega), if_neg (by omega), if_neg (by omega), if_neg (by omega)]
  rw [e]
  clear e
  have c : (n != 215) = false := by simp; omega
  have HS := hide (single_any n w)
  go_enter Tryd.func36, Tryd.ntmps36
  go_wp2_with fail
  refine (unhide HS).mono ?_
  rintro e w1 ⟨rfl, rfl⟩
  go_wp2
  go_ret
  exact ⟨rfl, rfl⟩
set_option maxHeartbeats 1000000 in
theorem one_5 (n : Int) (w : World) (ha : 216 ≤ n) (hb : n ≤ 222) : Calls Tryd.prog 36 #[.int .i32 n] w fun e w' => e = .returned (.int .i32 (oneL n)) ∧ w' = w := by
  have e : oneL n = n + 32 := by
    unfold oneL
    rw [if_pos (by omega)]
  rw [e]
  clear e
  have c : (n != 215) = true := by simp; omega
  go_enter Tryd.func36, Tryd.ntmps36
  go_wp2
  go_ret
  exact ⟨by go_num, rfl⟩
set_option maxHeartbeats 1000000 in
theorem one_6 (n : Int) (w : World) (ha : 223 ≤ n) (hb : n ≤ 255) : Calls Tryd.prog 36 #[.int .i32 n] w fun e w' => e = .returned (.int .i32 (oneL n)) ∧ w' = w := by
  have e : oneL n = singleL n := by
    unfold oneL
    rw [if_neg (by omega), if_neg (by omega), if_neg (by omega), if_neg (by omega)]
  rw [e]
  clear e
  have HS := hide (single_any n w)
  go_enter Tryd.func36, Tryd.ntmps36
  go_wp2_with fail
  refine (unhide HS).mono ?_
  rintro e w1 ⟨rfl, rfl⟩
  go_wp2
  go_ret
  exact ⟨rfl, rfl⟩
set_option maxHeartbeats 1000000 in
theorem one_7 (n : Int) (w : World) (ha : 256 ≤ n) (hb : n ≤ 302) : Calls Tryd.prog 36 #[.int .i32 n] w fun e w' => e = .returned (.int .i32 (oneL n)) ∧ w' = w := by
  have e : oneL n = n + (1 - n % 2) := by
    unfold oneL
    rw [if_neg (by omega), if_neg (by omega), if_pos (by omega)]
  rw [e]
  clear e
  go_enter Tryd.func36, Tryd.ntmps36
  go_wp2
  go_ret
  exact ⟨ret_i (bits_or (by omega) (by omega)), rfl⟩
set_option maxHeartbeats 1000000 in
theorem one_8 (n : Int) (w : World) (ha : 303 ≤ n) (hb : n ≤ 305) : Calls Tryd.prog 36 #[.int .i32 n] w fun e w' => e = .returned (.int .i32 (oneL n)) ∧ w' = w := by
  have e : oneL n = singleL n := by
    unfold oneL
    rw [if_neg (by omega), if_neg (by omega), if_neg (by omega), if_neg (by omega)]
  rw [e]
  clear e
  have HS := hide (single_any n w)
  go_enter Tryd.func36, Tryd.ntmps36
  go_wp2_with fail
  refine (unhide HS).mono ?_
  rintro e w1 ⟨rfl, rfl⟩
  go_wp2
  go_ret
  exact ⟨rfl, rfl⟩
set_option maxHeartbeats 1000000 in
theorem one_9 (n : Int) (w : World) (ha : 306 ≤ n) (hb : n ≤ 310) : Calls Tryd.prog 36 #[.int .i32 n] w fun e w' => e = .returned (.int .i32 (oneL n)) ∧ w' = w := by
  have e : oneL n = n + (1 - n % 2) := by
    unfold oneL
    rw [if_neg (by omega), if_neg (by omega), if_pos (by omega)]
  rw [e]
  clear e
  go_enter Tryd.func36, Tryd.ntmps36
  go_wp2
  go_ret
  exact ⟨ret_i (bits_or (by omega) (by omega)), rfl⟩
set_option maxHeartbeats 1000000 in
theorem one_10 (n : Int) (w : World) (ha : 311 ≤ n) (hb : n ≤ 312) : Calls Tryd.prog 36 #[.int .i32 n] w fun e w' => e = .returned (.int .i32 (oneL n)) ∧ w' = w := by
  have e : oneL n = singleL n := by
    unfold oneL
    rw [if_neg (by omega), if_neg (by omega), if_neg (by omega), if_neg (by omega)]
  rw [e]
  clear e
  have HS := hide (single_any n w)
  go_enter Tryd.func36, Tryd.ntmps36
  go_wp2_with fail
  refine (unhide HS).mono ?_
  rintro e w1 ⟨rfl, rfl⟩
  go_wp2
  go_ret
  exact ⟨rfl, rfl⟩
set_option maxHeartbeats 1000000 in
theorem one_11 (n : Int) (w : World) (ha : 313 ≤ n) (hb : n ≤ 327) : Calls Tryd.prog 36 #[.int .i32 n] w fun e w' => e = .returned (.int .i32 (oneL n)) ∧ w' = w := by
  have e : oneL n = n + n % 2 := by
    unfold oneL
    rw [if_neg (by omega), if_neg (by omega), if_neg (by omega), if_pos (by omega)]
  rw [e]
  clear e
  go_enter Tryd.func36, Tryd.ntmps36
  go_wp2
  go_ret
  exact ⟨ret_i (bits_and (by omega) (by omega)), rfl⟩
set_option maxHeartbeats 1000000 in
theorem one_12 (n : Int) (w : World) (ha : 328 ≤ n) (hb : n ≤ 329) : Calls Tryd.prog 36 #[.int .i32 n] w fun e w' => e = .returned (.int .i32 (oneL n)) ∧ w' = w := by
  have e : oneL n = singleL n := by
    unfold oneL
    rw [if_neg (by omega), if_neg (by omega), if_neg (by omega), if_neg (by omega)]
  rw [e]
  clear e
  have HS := hide (single_any n w)
  go_enter Tryd.func36, Tryd.ntmps36
  go_wp2_with fail
  refine (unhide HS).mono ?_
  rintro e w1 ⟨rfl, rfl⟩
  go_wp2
  go_ret
  exact ⟨rfl, rfl⟩
set_option maxHeartbeats 1000000 in
theorem one_13 (n : Int) (w : World) (ha : 330 ≤ n) (hb : n ≤ 374) : Calls Tryd.prog 36 #[.int .i32 n] w fun e w' => e = .returned (.int .i32 (oneL n)) ∧ w' = w := by
  have e : oneL n = n + (1 - n % 2) := by
    unfold oneL
    rw [if_neg (by omega), if_neg (by omega), if_pos (by omega)]
  rw [e]
  clear e
  go_enter Tryd.func36, Tryd.ntmps36
  go_wp2
  go_ret
  exact ⟨ret_i (bits_or (by omega) (by omega)), rfl⟩
set_option maxHeartbeats 1000000 in
theorem one_14 (n : Int) (w : World) (ha : 375 ≤ n) (hb : n ≤ 376) : Calls Tryd.prog 36 #[.int .i32 n] w fun e w' => e = .returned (.int .i32 (oneL n)) ∧ w' = w := by
  have e : oneL n = singleL n := by
    unfold oneL
    rw [if_neg (by omega), if_neg (by omega), if_neg (by omega), if_neg (by omega)]
  rw [e]
  clear e
  have HS := hide (single_any n w)
  go_enter Tryd.func36, Tryd.ntmps36
  go_wp2_with fail
  refine (unhide HS).mono ?_
  rintro e w1 ⟨rfl, rfl⟩
  go_wp2
  go_ret
  exact ⟨rfl, rfl⟩
set_option maxHeartbeats 1000000 in
theorem one_15 (n : Int) (w : World) (ha : 377 ≤ n) (hb : n ≤ 381) : Calls Tryd.prog 36 #[.int .i32 n] w fun e w' => e = .returned (.int .i32 (oneL n)) ∧ w' = w := by
  have e : oneL n = n + n % 2 := by
    unfold oneL
    rw [if_neg (by omega), if_neg (by omega), if_neg (by omega), if_pos (by omega)]
  rw [e]
  clear e
  go_enter Tryd.func36, Tryd.ntmps36
  go_wp2
  go_ret
  exact ⟨ret_i (bits_and (by omega) (by omega)), rfl⟩
set_option maxHeartbeats 1000000 in
theorem one_16 (n : Int) (w : World) (ha : 382 ≤ n) (hb : n ≤ 912) : Calls Tryd.prog 36 #[.int .i32 n] w fun e w' => e = .returned (.int .i32 (oneL n)) ∧ w' = w := by
  have e : oneL n = singleL n := by
    unfold oneL
    rw [if_neg (by omega), if_neg (by omega), if_neg (by omega), if_neg (by omega)]
  rw [e]
  clear e
  have HS := hide (single_any n w)
  go_enter Tryd.func36, Tryd.ntmps36
  go_wp2_with fail
  refine (unhide HS).mono ?_
  rintro e w1 ⟨rfl, rfl⟩
  go_wp2
  go_ret
  exact ⟨rfl, rfl⟩
set_option maxHeartbeats 1000000 in
theorem one_17 (n : Int) (w : World) (ha : 913 ≤ n) (hb : n ≤ 929) : Calls Tryd.prog 36 #[.int .i32 n] w fun e w' => e = .returned (.int .i32 (oneL n)) ∧ w' = w := by
  have e : oneL n = n + 32 := by
    unfold oneL
    rw [if_pos (by omega)]
  rw [e]
  clear e
  have c : (n != 930) = true := by simp; omega
  go_enter Tryd.func36, Tryd.ntmps36
  go_wp2
  go_ret
  exact ⟨by go_num, rfl⟩
set_option maxHeartbeats 1000000 in
theorem one_18 (n : Int) (w : World) (ha : 930 ≤ n) (hb : n ≤ 930) : Calls Tryd.prog 36 #[.int .i32 n] w fun e w' => e = .returned (.int .i32 (oneL n)) ∧ w' = w := by
  have e : oneL n = singleL n := by
    unfold oneL
    rw [if_neg (by omega), if_neg (by omega), if_neg (by omega), if_neg (by omega)]
  rw [e]
  clear e
  have c : (n != 930) = false := by simp; omega
  have HS := hide (single_any n w)
  go_enter Tryd.func36, Tryd.ntmps36
  go_wp2_with fail
  refine (unhide HS).mono ?_
  rintro e w1 ⟨rfl, rfl⟩
  go_wp2
  go_ret
  exact ⟨rfl, rfl⟩
set_option maxHeartbeats 1000000 in
theorem one_19 (n : Int) (w : World) (ha : 931 ≤ n) (hb : n ≤ 937) : Calls Tryd.prog 36 #[.int .i32 n] w fun e w' => e = .returned (.int .i32 (oneL n)) ∧ w' = w := by
  have e : oneL n = n + 32 := by
    unfold oneL
    rw [if_pos (by omega)]
  rw [e]
  clear e
  have c : (n != 930) = true := by simp; omega
  go_enter Tryd.func36, Tryd.ntmps36
  go_wp2
  go_ret
  exact ⟨by go_num, rfl⟩
set_option maxHeartbeats 1000000 in
theorem one_20 (n : Int) (w : World) (ha : 938 ≤ n) (hb : n ≤ 1023) : Calls Tryd.prog 36 #[.int .i32 n] w fun e w' => e = .returned (.int .i32 (oneL n)) ∧ w' = w := by
  have e : oneL n = singleL n := by
    unfold oneL
    rw [if_neg (by omega), if_neg (by omega), if_neg (by omega), if_neg (by omega)]
  rw [e]
  clear e
  have HS := hide (single_any n w)
  go_enter Tryd.func36, Tryd.ntmps36
  go_wp2_with fail
  refine (unhide HS).mono ?_
  rintro e w1 ⟨rfl, rfl⟩
  go_wp2
  go_ret
  exact ⟨rfl, rfl⟩
set_option maxHeartbeats 1000000 in
theorem one_21 (n : Int) (w : World) (ha : 1024 ≤ n) (hb : n ≤ 1039) : Calls Tryd.prog 36 #[.int .i32 n] w fun e w' => e = .returned (.int .i32 (oneL n)) ∧ w' = w := by
  have e : oneL n = n + 80 := by
    unfold oneL
    rw [if_neg (by omega), if_pos (by omega)]
  rw [e]
  clear e
  go_enter Tryd.func36, Tryd.ntmps36
  go_wp2
  go_ret
  exact ⟨by go_num, rfl⟩
set_option maxHeartbeats 1000000 in
theorem one_22 (n : Int) (w : World) (ha : 1040 ≤ n) (hb : n ≤ 1071) : Calls Tryd.prog 36 #[.int .i32 n] w fun e w' => e = .returned (.int .i32 (oneL n)) ∧ w' = w := by
  have e : oneL n = n + 32 := by
    unfold oneL
    rw [if_pos (by omega)]
  rw [e]
  clear e
  go_enter Tryd.func36, Tryd.ntmps36
  go_wp2
  go_ret
  exact ⟨by go_num, rfl⟩
set_option maxHeartbeats 1000000 in
theorem one_23 (n : Int) (w : World) (hhi : n ≤ 2147483647) (ha : 1072 ≤ n) : Calls Tryd.prog 36 #[.int .i32 n] w fun e w' => e = .returned (.int .i32 (oneL n)) ∧ w' = w := by
  have e : oneL n = singleL n := by
    unfold oneL
    rw [if_neg (by omega), if_neg (by omega), if_neg (by omega), if_neg (by omega)]
  rw [e]
  clear e
  have HS := hide (single_any n w)
  go_enter Tryd.func36, Tryd.ntmps36
  go_wp2_with fail
  refine (unhide HS).mono ?_
  rintro e w1 ⟨rfl, rfl⟩
  go_wp2
  go_ret
  exact ⟨rfl, rfl⟩
/-- fold.One tells the fold. -/
theorem one_any (n : Int) (w : World) (h : -2147483648 ≤ n ∧ n ≤ 2147483647) : Calls Tryd.prog 36 #[.int .i32 n] w fun e w' => e = .returned (.int .i32 (oneL n)) ∧ w' = w := by
  by_cases g : n ≤ 64
  · exact one_0 n w h.1 g
  by_cases g : n ≤ 90
  · exact one_1 n w (by omega) g
  by_cases g : n ≤ 191
  · exact one_2 n w (by omega) g
  by_cases g : n ≤ 214
  · exact one_3 n w (by omega) g
  by_cases g : n ≤ 215
  · exact one_4 n w (by omega) g
  by_cases g : n ≤ 222
  · exact one_5 n w (by omega) g
  by_cases g : n ≤ 255
  · exact one_6 n w (by omega) g
  by_cases g : n ≤ 302
  · exact one_7 n w (by omega) g
  by_cases g : n ≤ 305
  · exact one_8 n w (by omega) g
  by_cases g : n ≤ 310
  · exact one_9 n w (by omega) g
  by_cases g : n ≤ 312
  · exact one_10 n w (by omega) g
  by_cases g : n ≤ 327
  · exact one_11 n w (by omega) g
  by_cases g : n ≤ 329
  · exact one_12 n w (by omega) g
  by_cases g : n ≤ 374
  · exact one_13 n w (by omega) g
  by_cases g : n ≤ 376
  · exact one_14 n w (by omega) g
  by_cases g : n ≤ 381
  · exact one_15 n w (by omega) g
  by_cases g : n ≤ 912
  · exact one_16 n w (by omega) g
  by_cases g : n ≤ 929
  · exact one_17 n w (by omega) g
  by_cases g : n ≤ 930
  · exact one_18 n w (by omega) g
  by_cases g : n ≤ 937
  · exact one_19 n w (by omega) g
  by_cases g : n ≤ 1023
  · exact one_20 n w (by omega) g
  by_cases g : n ≤ 1039
  · exact one_21 n w (by omega) g
  by_cases g : n ≤ 1071
  · exact one_22 n w (by omega) g
  exact one_23 n w h.2 (by omega)
end Go.Proofs.YtekhfbbnlojcoaaDoor
