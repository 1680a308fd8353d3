/-
  Lists of numbers that rise, put together: plain mathematics.
-/
import Derived.Test.YtfjjigcghhohkaaDcu
set_option linter.unusedVariables false
namespace Go.Proofs.Pst
open Go.Proofs.Dct

theorem rises_lt {l : List Nat} {k : Nat} (h : rises k l = true) : ∀ (i j : Nat) (hj : j < l.length) (hij : i < j), l[i]'(by omega) < l[j] := by
  have h2 := ((rises_iff l k).1 h).2
  intro i j
  induction j with
  | zero => intro hj hij; omega
  | succ j ih =>
    intro hj hij
    have h3 := h2 j hj
    by_cases he : i = j
    · subst he; exact h3
    · have := ih (by omega) (by omega)
      omega
theorem rises_low : ∀ (l : List Nat) (k : Nat), rises k l = true → ∀ x ∈ l, k ≤ x := by
  intro l
  induction l with
  | nil => intro k _ x hx; cases hx
  | cons y r ih =>
    intro k h x hx
    simp only [rises, Bool.and_eq_true, decide_eq_true_eq] at h
    rcases List.mem_cons.1 hx with rfl | hx
    · exact h.1
    · have := ih (y + 1) h.2 x hx; omega
/-- Those that another list has, or has not. -/
def pickL (l o : List Nat) (has : Bool) : List Nat := l.filter (fun n => decide (n ∈ o) == has)
theorem pick_mem (l o : List Nat) (has : Bool) (n : Nat) : n ∈ pickL l o has ↔ n ∈ l ∧ (decide (n ∈ o) == has) = true := by unfold pickL; rw [List.mem_filter]
theorem pick_next {l o : List Nat} {has : Bool} {k : Nat} (h : k < l.length) : pickL (l.take (k + 1)) o has = pickL (l.take k) o has ++ (if (decide (l[k] ∈ o) == has) = true then [l[k]] else []) := by
  unfold pickL
  rw [List.take_succ_eq_append_getElem h, List.filter_append]
  congr 1
  by_cases hp : (decide (l[k] ∈ o) == has) = true
  · rw [if_pos hp, List.filter_cons_of_pos (by exact hp)]; rfl
  · rw [if_neg hp, List.filter_cons_of_neg (by exact hp)]; rfl
theorem pick_len (l o : List Nat) (has : Bool) : (pickL l o has).length ≤ l.length := List.length_filter_le _ _
theorem pick_sum (l o : List Nat) : (pickL l o true).length + (pickL l o false).length = l.length := by
  unfold pickL
  induction l with
  | nil => rfl
  | cons x r ih =>
    by_cases h : x ∈ o
    · simp only [List.filter_cons, h, decide_true, beq_self_eq_true, if_true, List.length_cons]
      simp only [show (true == false) = false from rfl, Bool.false_eq_true, if_false]
      omega
    · simp only [List.filter_cons, h, decide_false, beq_self_eq_true, if_true, List.length_cons]
      simp only [show (false == true) = false from rfl, Bool.false_eq_true, if_false]
      omega
theorem rises_filter : ∀ (l : List Nat) (k : Nat) (p : Nat → Bool), rises k l = true → rises k (l.filter p) = true := by
  intro l
  induction l with
  | nil => intro k p h; simpa using h
  | cons x r ih =>
    intro k p h
    simp only [rises, Bool.and_eq_true, decide_eq_true_eq] at h
    by_cases hp : p x = true
    · rw [List.filter_cons_of_pos hp]
      simp only [rises, Bool.and_eq_true, decide_eq_true_eq]
      exact ⟨h.1, ih _ p h.2⟩
    · rw [List.filter_cons_of_neg hp]
      exact rises_mono _ _ _ (by omega) (ih _ p h.2)
theorem mem_at {o : List Nat} {a n : Nat} (hr : rises 0 o = true) (ha : a ≤ o.length) (h1 : ∀ (j : Nat) (h : j < o.length), j < a → o[j] < n) (h2 : ∀ h : a < o.length, n ≤ o[a]) : decide (n ∈ o) = (if h : a < o.length then decide (o[a] = n) else false) := by
  by_cases hlt : a < o.length
  · rw [dif_pos hlt]
    by_cases he : o[a] = n
    · rw [decide_eq_true he, decide_eq_true]
      rw [← he]
      exact List.getElem_mem hlt
    · rw [decide_eq_false he, decide_eq_false]
      intro hm
      obtain ⟨i, hi, hin⟩ := List.getElem_of_mem hm
      rcases Nat.lt_trichotomy i a with h | h | h
      · have := h1 i hi h; omega
      · subst h; exact he hin
      · have h3 := rises_lt hr a i hi h
        have h4 := h2 hlt
        omega
  · rw [dif_neg hlt, decide_eq_false]
    intro hm
    obtain ⟨i, hi, hin⟩ := List.getElem_of_mem hm
    have := h1 i hi (by omega)
    omega

/-- Two lists as one. -/
def mergeL : List Nat → List Nat → List Nat
  | [], b => b
  | x :: a, [] => x :: a
  | x :: a, y :: b => if x < y then x :: mergeL a (y :: b) else if y < x then y :: mergeL (x :: a) b else x :: mergeL a b
termination_by a b => a.length + b.length
theorem merge_nil (b : List Nat) : mergeL [] b = b := by rw [mergeL]
theorem merge_nil' (a : List Nat) : mergeL a [] = a := by
  cases a with
  | nil => rw [mergeL]
  | cons x a => rw [mergeL]
theorem merge_lt {x y : Nat} {a b : List Nat} (h : x < y) : mergeL (x :: a) (y :: b) = x :: mergeL a (y :: b) := by rw [mergeL, if_pos h]
theorem merge_gt {x y : Nat} {a b : List Nat} (h : y < x) : mergeL (x :: a) (y :: b) = y :: mergeL (x :: a) b := by rw [mergeL, if_neg (by omega), if_pos h]
theorem merge_eq {x y : Nat} {a b : List Nat} (h : x = y) : mergeL (x :: a) (y :: b) = x :: mergeL a b := by rw [mergeL, if_neg (by omega), if_neg (by omega)]
theorem merge_rec {P : List Nat → List Nat → Prop} (h0 : ∀ b, P [] b) (h1 : ∀ a, P a []) (hl : ∀ x y a b, x < y → P a (y :: b) → P (x :: a) (y :: b)) (hg : ∀ x y a b, y < x → P (x :: a) b → P (x :: a) (y :: b)) (he : ∀ x a b, P a b → P (x :: a) (x :: b)) : ∀ a b, P a b := by
  have go : ∀ n a b, a.length + b.length ≤ n → P a b := by
    intro n
    induction n with
    | zero =>
      intro a b h
      have : a = [] := List.eq_nil_of_length_eq_zero (by omega)
      subst this
      exact h0 b
    | succ n ih =>
      intro a b h
      cases a with
      | nil => exact h0 b
      | cons x a =>
        cases b with
        | nil => exact h1 _
        | cons y b =>
          simp only [List.length_cons] at h
          rcases Nat.lt_trichotomy x y with c | c | c
          · exact hl x y a b c (ih _ _ (by simp only [List.length_cons]; omega))
          · subst c; exact he x a b (ih _ _ (by omega))
          · exact hg x y a b c (ih _ _ (by simp only [List.length_cons]; omega))
  exact fun a b => go _ a b (Nat.le_refl _)
theorem merge_mem (a b : List Nat) (n : Nat) : n ∈ mergeL a b ↔ n ∈ a ∨ n ∈ b := by
  induction a, b using merge_rec with
  | h0 b => rw [merge_nil]; simp
  | h1 a => rw [merge_nil']; simp
  | hl x y a b h ih => rw [merge_lt h, List.mem_cons, ih, List.mem_cons (l := a)]; exact or_assoc.symm
  | hg x y a b h ih => rw [merge_gt h, List.mem_cons, ih, List.mem_cons (l := b)]; exact or_left_comm
  | he x a b ih =>
    rw [merge_eq rfl, List.mem_cons, ih, List.mem_cons, List.mem_cons]
    constructor
    · rintro (h | h | h) <;> simp_all
    · rintro ((h | h) | (h | h)) <;> simp_all
theorem merge_rises (a b : List Nat) : ∀ k, rises k a = true → rises k b = true → rises k (mergeL a b) = true := by
  induction a, b using merge_rec with
  | h0 b => intro k _ h; rw [merge_nil]; exact h
  | h1 a => intro k h _; rw [merge_nil']; exact h
  | hl x y a b h ih =>
    intro k ha hb
    rw [merge_lt h]
    simp only [rises, Bool.and_eq_true, decide_eq_true_eq] at ha hb ⊢
    exact ⟨ha.1, ih _ ha.2 (by simp only [rises, Bool.and_eq_true, decide_eq_true_eq]; exact ⟨by omega, hb.2⟩)⟩
  | hg x y a b h ih =>
    intro k ha hb
    rw [merge_gt h]
    simp only [rises, Bool.and_eq_true, decide_eq_true_eq] at ha hb ⊢
    exact ⟨hb.1, ih _ (by simp only [rises, Bool.and_eq_true, decide_eq_true_eq]; exact ⟨by omega, ha.2⟩) hb.2⟩
  | he x a b ih =>
    intro k ha hb
    rw [merge_eq rfl]
    simp only [rises, Bool.and_eq_true, decide_eq_true_eq] at ha hb ⊢
    exact ⟨ha.1, ih _ ha.2 hb.2⟩
theorem merge_len (a b : List Nat) : (mergeL a b).length ≤ a.length + b.length := by
  induction a, b using merge_rec with
  | h0 b => rw [merge_nil]; simp
  | h1 a => rw [merge_nil']; simp
  | hl x y a b h ih => rw [merge_lt h]; simp only [List.length_cons] at ih ⊢; omega
  | hg x y a b h ih => rw [merge_gt h]; simp only [List.length_cons] at ih ⊢; omega
  | he x a b ih => rw [merge_eq rfl]; simp only [List.length_cons] at ih ⊢; omega
theorem not_low {l : List Nat} {k n : Nat} (h : rises k l = true) (hn : n < k) : n ∉ l := fun hm => by have := rises_low l k h n hm; omega
/-- As many as both have. -/
theorem merge_count (a b : List Nat) : ∀ k, rises k a = true → rises k b = true → (mergeL a b).length = (pickL a b false).length + b.length := by
  induction a, b using merge_rec with
  | h0 b => intro k _ _; rw [merge_nil]; simp [pickL]
  | h1 a =>
    intro k _ _
    rw [merge_nil']
    have : pickL a [] false = a := by unfold pickL; simp
    rw [this]; simp
  | hl x y a b h ih =>
    intro k ha hb
    simp only [rises, Bool.and_eq_true, decide_eq_true_eq] at ha hb
    have hnx : x ∉ y :: b := not_low (k := x + 1) (by simp only [rises, Bool.and_eq_true, decide_eq_true_eq]; exact ⟨by omega, hb.2⟩) (by omega)
    have := ih (x + 1) ha.2 (by simp only [rises, Bool.and_eq_true, decide_eq_true_eq]; exact ⟨by omega, hb.2⟩)
    simp only [List.length_cons] at this
    rw [merge_lt h, List.length_cons, this]
    have e : pickL (x :: a) (y :: b) false = x :: pickL a (y :: b) false := by
      unfold pickL
      rw [List.filter_cons_of_pos (by rw [decide_eq_false hnx]; rfl)]
    rw [e]
    simp only [List.length_cons]
    omega
  | hg x y a b h ih =>
    intro k ha hb
    simp only [rises, Bool.and_eq_true, decide_eq_true_eq] at ha hb
    have hra : rises (y + 1) (x :: a) = true := by simp only [rises, Bool.and_eq_true, decide_eq_true_eq]; exact ⟨by omega, ha.2⟩
    have := ih (y + 1) hra hb.2
    rw [merge_gt h, List.length_cons, this]
    have e : pickL (x :: a) (y :: b) false = pickL (x :: a) b false := by
      unfold pickL
      apply List.filter_congr
      intro z hz
      have hz1 := rises_low _ _ hra z hz
      have : (z ∈ y :: b) ↔ z ∈ b := by
        rw [List.mem_cons]
        constructor
        · rintro (rfl | h)
          · omega
          · exact h
        · exact Or.inr
      rw [decide_eq_decide.2 this]
    rw [e]
    simp only [List.length_cons]
    omega
  | he x a b ih =>
    intro k ha hb
    simp only [rises, Bool.and_eq_true, decide_eq_true_eq] at ha hb
    have := ih (x + 1) ha.2 hb.2
    rw [merge_eq rfl, List.length_cons, this]
    have e : pickL (x :: a) (x :: b) false = pickL a b false := by
      unfold pickL
      rw [List.filter_cons_of_neg (by simp)]
      apply List.filter_congr
      intro z hz
      have hz1 := rises_low _ _ ha.2 z hz
      have : (z ∈ x :: b) ↔ z ∈ b := by
        rw [List.mem_cons]
        constructor
        · rintro (rfl | h)
          · omega
          · exact h
        · exact Or.inr
      rw [decide_eq_decide.2 this]
    rw [e]
    simp only [List.length_cons]
    omega
end Go.Proofs.Pst
