/-
  A day that is written, with spaces for its dashes, as a mail's Date: plain mathematics, and what IndexAny tells of its pieces.
-/
import Derived.Test.YtdallfakfhajdaaGreatDoorDmm
import Derived.Test.YtdallfakfhajdaaGreatDoorDwt
set_option linter.unusedVariables false
namespace Go.Proofs.YtdallfakfhajdaaGreatDoor
open Go.RowKit Go.Proofs.Dcl

theorem dg_dig (n : Nat) (h : n < 10) : digB (dg n) = true := by unfold digB; rw [dg_nat n h]; simp; omega
theorem numA_dg (n acc : Nat) (r : List UInt8) (h : n < 10) : numA acc (dg n :: r) = numA (acc * 10 + n) r := by
  conv => lhs; unfold numA
  rw [dg_dig n h, dg_nat n h]
  simp only [if_true]
  rw [show 48 + n - 48 = n by omega]
theorem num_two (n : Nat) (h : n < 100) : numR (twoL n) 2 2 = some n := by
  unfold numR twoL
  rw [if_neg (by simp), numA_dg _ _ _ (by omega), numA_dg _ _ _ (by omega)]
  simp [numA]; omega
theorem num_four (y : Nat) (h : y < 10000) : numR (twoL (y / 100) ++ twoL (y % 100)) 4 4 = some y := by
  unfold numR twoL
  rw [if_neg (by simp)]
  simp only [List.cons_append, List.nil_append]
  rw [numA_dg _ _ _ (by omega), numA_dg _ _ _ (by omega), numA_dg _ _ _ (by omega), numA_dg _ _ _ (by omega)]
  simp [numA]; omega
theorem num_four' (y : Nat) (h : y < 10000) : numR (twoL (y / 100) ++ twoL (y % 100)) 2 4 = some y := by
  have := num_four y h
  unfold numR at *
  rw [if_neg (by simp [twoL])] at this ⊢
  exact this
theorem mon_name (k : Nat) (h : k < 12) : monR (nmL k) = k + 1 := by
  have : k = 0 ∨ k = 1 ∨ k = 2 ∨ k = 3 ∨ k = 4 ∨ k = 5 ∨ k = 6 ∨ k = 7 ∨ k = 8 ∨ k = 9 ∨ k = 10 ∨ k = 11 := by omega
  rcases this with rfl | rfl | rfl | rfl | rfl | rfl | rfl | rfl | rfl | rfl | rfl | rfl <;> decide +kernel
theorem num_one (d : Nat) (h : d < 10) : numR [dg d] 1 1 = some d := by
  unfold numR
  rw [if_neg (by simp), numA_dg _ _ _ h]
  simp [numA]
theorem dg_ne (n : Nat) (c : UInt8) (h : n < 10) (hc : c.toNat < 48 ∨ 57 < c.toNat) : dg n ≠ c := by
  intro e
  have := dg_nat n h
  rw [e] at this
  omega
def dsh (c : UInt8) : UInt8 := if c = 45 then 32 else c
theorem index_word (ds r : List UInt8) (h : ∀ c ∈ ds, blB c = false) : Lib.indexAny (ds ++ 32 :: r) [32, 9] = ds.length := by
  induction ds with
  | nil => simp [Lib.indexAny]
  | cons c t ih =>
    have hc := h c (by simp)
    have ht := ih (fun x hx => h x (by simp [hx]))
    simp only [List.cons_append, Lib.indexAny]
    unfold blB at hc
    rw [hc, ht]
    simp only [Bool.false_eq_true, if_false, List.length_cons]
    rw [if_neg (by simp <;> omega)]
    omega
theorem word_of (ds r : List UInt8) (h : ∀ c ∈ ds, blB c = false) (h0 : ds ≠ []) : wordR (32 :: (ds ++ 32 :: r)) = (ds, 32 :: r) := by
  have hdw : (32 :: (ds ++ 32 :: r)).dropWhile blB = ds ++ 32 :: r := by
    rw [List.dropWhile_cons_of_pos (by decide)]
    cases ds with
    | nil => exact absurd rfl h0
    | cons c t => rw [List.cons_append, List.dropWhile_cons_of_neg (by rw [h c (by simp)]; simp)]
  unfold wordR
  rw [hdw]
  have hn : wordN (ds ++ 32 :: r) = ds.length := by
    unfold wordN
    rw [index_word ds r h, if_neg (by omega)]
    omega
  rw [hn, List.take_left', List.drop_left']
  · rfl
  · rfl
theorem dg_bl (n : Nat) (h : n < 10) : blB (dg n) = false := by
  have h1 := dg_ne n 32 h (by decide)
  have h2 := dg_ne n 9 h (by decide)
  unfold blB
  simp [h1, h2]
theorem dsh_dg (n : Nat) (h : n < 10) : dsh (dg n) = dg n := by unfold dsh; rw [if_neg (dg_ne n 45 h (by decide))]
theorem dsh_two (n : Nat) (h : n < 100) : (twoL n).map dsh = twoL n := by simp [twoL, dsh_dg (n / 10) (by omega), dsh_dg (n % 10) (by omega)]
theorem two_bl (n : Nat) (h : n < 100) : ∀ c ∈ twoL n, blB c = false := by
  intro c hc
  simp only [twoL, List.mem_cons, List.not_mem_nil, or_false] at hc
  rcases hc with rfl | rfl
  · exact dg_bl _ (by omega)
  · exact dg_bl _ (by omega)
theorem name_map (k : Nat) (h : k < 12) : (nmL k).map dsh = nmL k ∧ (∀ c ∈ nmL k, blB c = false) ∧ ∀ c ∈ nmL k, c.toNat < 128 := by
  have : k = 0 ∨ k = 1 ∨ k = 2 ∨ k = 3 ∨ k = 4 ∨ k = 5 ∨ k = 6 ∨ k = 7 ∨ k = 8 ∨ k = 9 ∨ k = 10 ∨ k = 11 := by omega
  rcases this with rfl | rfl | rfl | rfl | rfl | rfl | rfl | rfl | rfl | rfl | rfl | rfl <;> decide +kernel
theorem day_map (y m d : Nat) (hv : vldB y m d = true) : (dayT y m d).map dsh = (if 10 ≤ d then twoL d else [dg d]) ++ 32 :: (nmL (m - 1) ++ 32 :: (twoL (y / 100) ++ twoL (y % 100))) := by
  obtain ⟨y1, y2, m1, m2, d1, d2⟩ := vld_iff.1 hv
  have d3 := dim_le y m
  unfold dayT
  simp only [List.map_append, (name_map (m - 1) (by omega)).1, dsh_two (y / 100) (by omega), dsh_two (y % 100) (by omega), List.map_cons, List.map_nil]
  rw [dsh_dg (d % 10) (by omega), show dsh 45 = 32 from rfl]
  by_cases h : 10 ≤ d
  · rw [if_pos h, if_pos h]
    simp only [List.map_cons, List.map_nil, dsh_dg (d / 10) (by omega : d / 10 < 10)]
    simp [twoL]
  · rw [if_neg h, if_neg h, show d % 10 = d by omega]
    simp
theorem index_end (ds : List UInt8) (h : ∀ c ∈ ds, blB c = false) : Lib.indexAny ds [32, 9] = -1 := by
  induction ds with
  | nil => rfl
  | cons c t ih =>
    have hc := h c (by simp)
    have ht := ih (fun x hx => h x (by simp [hx]))
    simp only [Lib.indexAny]
    unfold blB at hc
    rw [hc, ht]
    simp
theorem word_end (ds : List UInt8) (h : ∀ c ∈ ds, blB c = false) (h0 : ds ≠ []) : wordR (32 :: ds) = (ds, []) := by
  have hdw : (32 :: ds).dropWhile blB = ds := by
    rw [List.dropWhile_cons_of_pos (by decide)]
    cases ds with
    | nil => exact absurd rfl h0
    | cons c t => rw [List.dropWhile_cons_of_neg (by rw [h c (by simp)]; simp)]
  unfold wordR
  rw [hdw]
  have hn : wordN ds = ds.length := by
    unfold wordN
    rw [index_end ds h, if_pos (by omega)]
  rw [hn, List.take_length, List.drop_length]
/-- A day that is written, as a mail's Date. -/
theorem mail_day2 (y m d : Nat) (hv : vldB y m d = true) : mailR ([120, 44, 32] ++ (dayT y m d).map dsh) = some (num y m d) := by
  obtain ⟨y1, y2, m1, m2, d1, d2⟩ := vld_iff.1 hv
  have d3 := dim_le y m
  have hm : m - 1 < 12 := by omega
  obtain ⟨_, hnb, _⟩ := name_map (m - 1) hm
  have hmon := mon_name (m - 1) hm
  rw [show m - 1 + 1 = m by omega] at hmon
  have hc : commaR ([120, 44, 32] ++ (dayT y m d).map dsh) = 32 :: ((if 10 ≤ d then twoL d else [dg d]) ++ 32 :: (nmL (m - 1) ++ 32 :: (twoL (y / 100) ++ twoL (y % 100)))) := by
    rw [day_map y m d hv]
    unfold commaR
    simp [cutAt]
  have hnum : numR (if 10 ≤ d then twoL d else [dg d]) 1 2 = some d := by
    by_cases h : 10 ≤ d
    · rw [if_pos h]
      have := num_two d (by omega)
      unfold numR at *
      rw [if_neg (by simp [twoL])] at this ⊢
      exact this
    · rw [if_neg h]
      have := num_one d (by omega)
      unfold numR at *
      rw [if_neg (by simp)] at this ⊢
      exact this
  have hdb : ∀ c ∈ (if 10 ≤ d then twoL d else [dg d]), blB c = false := by
    by_cases h : 10 ≤ d
    · rw [if_pos h]; exact two_bl d (by omega)
    · rw [if_neg h]
      intro c hc
      simp only [List.mem_cons, List.not_mem_nil, or_false] at hc
      subst hc
      exact dg_bl d (by omega)
  have hd0 : (if 10 ≤ d then twoL d else [dg d]) ≠ [] := by split <;> simp [twoL]
  have hn0 : nmL (m - 1) ≠ [] := by
    intro e
    have := nmL_len (m - 1) hm
    rw [e] at this
    cases this
  have hyb : ∀ c ∈ twoL (y / 100) ++ twoL (y % 100), blB c = false := by
    intro c hc
    rcases List.mem_append.1 hc with h | h
    · exact two_bl _ (by omega) c h
    · exact two_bl _ (by omega) c h
  have hfull : fullR y (twoL (y / 100) ++ twoL (y % 100)).length = y := by simp [fullR, twoL]
  unfold mailR
  rw [hc, word_of _ _ hdb hd0]
  unfold ml1
  simp only [hnum]
  rw [word_of _ _ hnb hn0]
  unfold ml2
  simp only [hmon]
  rw [if_neg (by omega), word_end _ hyb (by simp [twoL])]
  unfold ml3
  simp only [num_four' y (by omega), hfull, hv, if_true]

/-- All of it is ASCII. -/
theorem day_ascii2 (y m d : Nat) (hv : vldB y m d = true) : ([120, 44, 32] ++ (dayT y m d).map dsh).all (fun b => decide (b.toNat < 128)) = true := by
  obtain ⟨y1, y2, m1, m2, d1, d2⟩ := vld_iff.1 hv
  have d3 := dim_le y m
  rw [day_map y m d hv, List.all_eq_true]
  have hdg : ∀ n, n < 10 → (dg n).toNat < 128 := fun n h => by rw [dg_nat n h]; omega
  have htw : ∀ n, n < 100 → ∀ c ∈ twoL n, c.toNat < 128 := by
    intro n hn c hc
    simp only [twoL, List.mem_cons, List.not_mem_nil, or_false] at hc
    rcases hc with rfl | rfl
    · exact hdg _ (by omega)
    · exact hdg _ (by omega)
  have hnm := (name_map (m - 1) (by omega)).2.2
  intro c hc
  rw [decide_eq_true_eq]
  simp only [List.mem_append, List.mem_cons, List.not_mem_nil, or_false] at hc
  rcases hc with (rfl | rfl | rfl) | h | rfl | h | rfl | h | h <;> first | decide | skip
  · split at h
    · exact htw d (by omega) c h
    · simp only [List.mem_cons, List.not_mem_nil, or_false] at h
      subst h; exact hdg d (by omega)
  · exact hnm c h
  · exact htw _ (by omega) c h
  · exact htw _ (by omega) c h

theorem dayT_len (y m d : Nat) (h1 : 1 ≤ m) (h2 : m ≤ 12) : (dayT y m d).length = if 10 ≤ d then 11 else 10 := by
  have := nmL_len (m - 1) (by omega)
  unfold dayT
  split <;> simp [this, twoL]
theorem ix_all2 (l : List UInt8) (h : l.all (fun b => decide (b.toNat < 128)) = true) (hl : l.length ≤ 4294967280) : ∀ t, t <:+ l → IxAny t := fun t ht =>
  ixAny_ascii t (fun c hc => of_decide_eq_true (List.all_eq_true.1 h c (ht.subset hc))) (by have := ht.length_le; omega)
end Go.Proofs.YtdallfakfhajdaaGreatDoor
