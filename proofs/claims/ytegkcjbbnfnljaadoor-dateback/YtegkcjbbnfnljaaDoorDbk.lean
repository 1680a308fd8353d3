/-
  What is written is parsed: days and times, as lists of bytes.
-/
import Derived.Test.YtegkcjbbnfnljaaDoorDpt
import Derived.Test.YtegkcjbbnfnljaaDoorDwz
import Derived.Test.YtegkcjbbnfnljaaDoorDmm
set_option linter.unusedVariables false
namespace Go.Proofs.YtegkcjbbnfnljaaDoor
open Go.RowKit Go.Proofs.Dcl

theorem dg_dig (n : Nat) (h : n < 10) : digB (dg n) = true := by unfold digB; rw [dg_nat n h]; simp; omega
theorem numA_dg (n acc : Nat) (r : List UInt8) (h : n < 10) : numA acc (dg n :: r) = numA (acc * 10 + n) r := by
  conv => lhs; unfold numA
  rw [dg_dig n h, dg_nat n h]
  simp only [if_true]
  rw [show 48 + n - 48 = n by omega]
theorem num_two (n : Nat) (h : n < 100) : numR (twoL n) 2 2 = some n := by
  unfold numR twoL
  rw [if_neg (by simp), numA_dg _ _ _ (by omega), numA_dg _ _ _ (by omega)]
  simp [numA]; omega
theorem num_four (y : Nat) (h : y < 10000) : numR (twoL (y / 100) ++ twoL (y % 100)) 4 4 = some y := by
  unfold numR twoL
  rw [if_neg (by simp)]
  simp only [List.cons_append, List.nil_append]
  rw [numA_dg _ _ _ (by omega), numA_dg _ _ _ (by omega), numA_dg _ _ _ (by omega), numA_dg _ _ _ (by omega)]
  simp [numA]; omega
theorem num_four' (y : Nat) (h : y < 10000) : numR (twoL (y / 100) ++ twoL (y % 100)) 2 4 = some y := by
  have := num_four y h
  unfold numR at *
  rw [if_neg (by simp [twoL])] at this ⊢
  exact this
theorem sTwo_two (n b : Nat) (r : List UInt8) (h : n < 100) (hb : n < b) : sTwo b (twoL n ++ r) = some (n, r) := by
  have e1 : (twoL n ++ r).take 2 = twoL n := by simp [twoL]
  have e2 : (twoL n ++ r).drop 2 = r := by simp [twoL]
  unfold sTwo
  rw [e1, e2, num_two n h]
  simp [hb]
theorem sHas_cons (c : UInt8) (r : List UInt8) : sHas c (c :: r) = some r := by simp [sHas]
theorem mon_name (k : Nat) (h : k < 12) : monR (nmL k) = k + 1 := by
  have : k = 0 ∨ k = 1 ∨ k = 2 ∨ k = 3 ∨ k = 4 ∨ k = 5 ∨ k = 6 ∨ k = 7 ∨ k = 8 ∨ k = 9 ∨ k = 10 ∨ k = 11 := by omega
  rcases this with rfl | rfl | rfl | rfl | rfl | rfl | rfl | rfl | rfl | rfl | rfl | rfl <;> decide +kernel

theorem name_three (k : Nat) (h : k < 12) : ∃ a b c, nmL k = [a, b, c] := by
  have := nmL_len k h
  match hn : nmL k, this with
  | [a, b, c], _ => exact ⟨a, b, c, rfl⟩

/-- A day's text behind its day, read. -/
theorem read_tail (ds : List UInt8) (k y m d : Nat) (r : List UInt8) (hk : ds.length = k) (hd : numR ds k k = some d) (hv : vldB y m d = true) :
    readDayR k (ds ++ ([45] ++ (nmL (m - 1) ++ ([45] ++ (twoL (y / 100) ++ twoL (y % 100))))) ++ r) = some (num y m d, r) := by
  obtain ⟨y1, y2, m1, m2, d1, d2⟩ := vld_iff.1 hv
  have hm : m - 1 < 12 := by omega
  obtain ⟨a, b, c, hn⟩ := name_three (m - 1) hm
  have hmon := mon_name (m - 1) hm
  rw [show m - 1 + 1 = m by omega, hn] at hmon
  have e1 : (ds ++ ([45] ++ (nmL (m - 1) ++ ([45] ++ (twoL (y / 100) ++ twoL (y % 100))))) ++ r).take k = ds := by
    rw [List.append_assoc, ← hk, List.take_left']
    rfl
  have e2 : (ds ++ ([45] ++ (nmL (m - 1) ++ ([45] ++ (twoL (y / 100) ++ twoL (y % 100))))) ++ r).drop k = 45 :: a :: b :: c :: 45 :: (twoL (y / 100) ++ twoL (y % 100) ++ r) := by
    rw [List.append_assoc, ← hk, List.drop_left', hn]
    · simp
    · rfl
  have e3 : (twoL (y / 100) ++ twoL (y % 100) ++ r).take 4 = twoL (y / 100) ++ twoL (y % 100) := by simp [twoL]
  have e4 : (twoL (y / 100) ++ twoL (y % 100) ++ r).drop 4 = r := by simp [twoL]
  unfold readDayR
  rw [e1, hd, e2]
  simp only [List.head?_cons, if_true, List.drop_succ_cons, List.drop_zero, List.take_succ_cons, List.take_zero]
  rw [hmon, if_neg (by omega), e3, num_four y (by omega), e4]
  simp only [hv, if_true]

theorem num_one (d : Nat) (h : d < 10) : numR [dg d] 1 1 = some d := by
  unfold numR
  rw [if_neg (by simp), numA_dg _ _ _ h]
  simp [numA]

/-- A day's text, read. -/
theorem read_day (y m d : Nat) (r : List UInt8) (hv : vldB y m d = true) : readDayR (if 10 ≤ d then 2 else 1) (dayT y m d ++ r) = some (num y m d, r) := by
  obtain ⟨y1, y2, m1, m2, d1, d2⟩ := vld_iff.1 hv
  have d3 := dim_le y m
  unfold dayT
  by_cases h : 10 ≤ d
  · rw [if_pos h, if_pos h]
    have e : [dg (d / 10)] ++ ([dg (d % 10)] ++ ([45] ++ (nmL (m - 1) ++ ([45] ++ (twoL (y / 100) ++ twoL (y % 100)))))) = twoL d ++ ([45] ++ (nmL (m - 1) ++ ([45] ++ (twoL (y / 100) ++ twoL (y % 100))))) := by simp [twoL]
    rw [e]
    exact read_tail (twoL d) 2 y m d r (by simp [twoL]) (num_two d (by omega)) hv
  · rw [if_neg h, if_neg h, List.nil_append]
    have e : d % 10 = d := by omega
    rw [e]
    exact read_tail [dg d] 1 y m d r (by simp) (num_one d (by omega)) hv

theorem dg_ne (n : Nat) (c : UInt8) (h : n < 10) (hc : c.toNat < 48 ∨ 57 < c.toNat) : dg n ≠ c := by
  intro e
  have := dg_nat n h
  rw [e] at this
  omega

/-- A time's text, read. -/
theorem pt_time (y m d s : Nat) (z : Int) (hv : vldB y m d = true) (hs : s ≤ 86399) (z1 : -5999 ≤ z) (z2 : z ≤ 5999) : ptR (timT y m d s z) = some (num y m d, (s : Int), z) := by
  obtain ⟨y1, y2, m1, m2, d1, d2⟩ := vld_iff.1 hv
  have d3 := dim_le y m
  have key : ptR (timT y m d s z) = pt1 (num y m d, [32] ++ twoL (s / 3600) ++ ([58] ++ twoL (s / 60 % 60) ++ ([58] ++ twoL (s % 60) ++ ([32] ++ ([if z < 0 then 45 else 43] ++ twoL (z.natAbs / 60) ++ twoL (z.natAbs % 60)))))) := by
    have hr := read_day y m d ([32] ++ twoL (s / 3600) ++ ([58] ++ twoL (s / 60 % 60) ++ ([58] ++ twoL (s % 60) ++ ([32] ++ ([if z < 0 then 45 else 43] ++ twoL (z.natAbs / 60) ++ twoL (z.natAbs % 60)))))) hv
    unfold timT ptR
    by_cases h : 10 ≤ d
    · rw [if_pos h] at hr
      rw [if_neg (show ¬ d < 10 by omega), List.nil_append, if_neg, hr]
      · rfl
      · unfold dayT
        rw [if_pos h]
        simp only [List.cons_append, List.head?_cons]
        intro e
        exact dg_ne (d / 10) 32 (by omega) (by decide) (Option.some.inj e)
    · rw [if_neg h] at hr
      rw [if_pos (show d < 10 by omega)]
      simp only [List.cons_append, List.head?_cons, if_true, List.drop_succ_cons, List.drop_zero, List.nil_append] at hr ⊢
      rw [hr]
      rfl
  rw [key]
  have c1 : s / 3600 < 24 := by omega
  have c2 : s / 60 % 60 < 60 := by omega
  have c3 : s % 60 < 60 := by omega
  have c4 : z.natAbs / 60 < 100 := by omega
  have c5 : z.natAbs % 60 < 60 := by omega
  unfold pt1
  simp only [List.cons_append, List.nil_append, sHas_cons, Option.bind_some]
  rw [sTwo_two _ _ _ (by omega) c1]
  simp only [Option.bind_some, pt2, sHas_cons]
  rw [sTwo_two _ _ _ (by omega) c2]
  simp only [Option.bind_some, pt3, sHas_cons]
  rw [sTwo_two _ _ _ (by omega) c3]
  simp only [Option.bind_some, pt4, sHas_cons]
  have hsg : sSign ((if z < 0 then 45 else 43) :: (twoL (z.natAbs / 60) ++ twoL (z.natAbs % 60))) = some (decide (z < 0), twoL (z.natAbs / 60) ++ twoL (z.natAbs % 60)) := by
    by_cases hz : z < 0
    · simp [sSign, hz]
    · simp [sSign, hz]
  rw [hsg]
  simp only [Option.bind_some, pt5]
  rw [sTwo_two _ _ _ (by omega) c4]
  have h6 : sTwo 60 (twoL (z.natAbs % 60)) = some (z.natAbs % 60, []) := by
    have := sTwo_two (z.natAbs % 60) 60 [] (by omega) c5
    rwa [List.append_nil] at this
  simp only [Option.bind_some, pt6]
  rw [h6]
  simp only [Option.bind_some, pt7, if_true]
  by_cases hz : z < 0
  · simp [hz]; omega
  · simp [hz]; omega

theorem time_len (y m d s : Nat) (z : Int) (m1 : 1 ≤ m) (m2 : m ≤ 12) : (timT y m d s z).length = 26 := by
  have := dayT_len y m d m1 m2
  unfold timT
  simp only [List.length_append, List.length_cons, List.length_nil, twoL, this]
  by_cases h : d < 10
  · rw [if_pos h, if_neg (by omega)]; simp
  · rw [if_neg h, if_pos (by omega)]; simp

end Go.Proofs.YtegkcjbbnfnljaaDoor
