/-
  Lists put together half by half, each time cut, against numbers that are put one by one: plain mathematics.
-/
import Derived.Test.YtghgpgeopdhcnaaPun
set_option linter.unusedVariables false
namespace Go.Proofs.Ytghgpgeopdhcnaa
open Go.Proofs.Dct Go.Proofs.Pst

/-- A list that rises with a number. -/
def putO : List Nat → Nat → List Nat
  | [], n => [n]
  | x :: r, n => if x < n then x :: putO r n else if x = n then x :: r else n :: x :: r
theorem putO_mem (l : List Nat) (n m : Nat) : m ∈ putO l n ↔ m ∈ l ∨ m = n := by
  induction l with
  | nil => simp [putO]
  | cons x r ih =>
    rw [putO]
    by_cases h1 : x < n
    · rw [if_pos h1, List.mem_cons, ih, List.mem_cons, or_assoc]
    · rw [if_neg h1]
      by_cases h2 : x = n
      · rw [if_pos h2]
        constructor
        · exact Or.inl
        · rintro (h | h)
          · exact h
          · rw [h, ← h2]; exact List.mem_cons_self
      · rw [if_neg h2, List.mem_cons]
        constructor
        · rintro (h | h)
          · exact Or.inr h
          · exact Or.inl h
        · rintro (h | h)
          · exact Or.inr h
          · exact Or.inl h
theorem putO_rises (l : List Nat) (n : Nat) : ∀ k, rises k l = true → k ≤ n → rises k (putO l n) = true := by
  induction l with
  | nil => intro k _ hk; simp [putO, rises, hk]
  | cons x r ih =>
    intro k h hk
    simp only [rises, Bool.and_eq_true, decide_eq_true_eq] at h
    rw [putO]
    by_cases h1 : x < n
    · rw [if_pos h1]
      simp only [rises, Bool.and_eq_true, decide_eq_true_eq]
      exact ⟨h.1, ih (x + 1) h.2 (by omega)⟩
    · rw [if_neg h1]
      by_cases h2 : x = n
      · rw [if_pos h2]
        simp only [rises, Bool.and_eq_true, decide_eq_true_eq]
        exact h
      · rw [if_neg h2]
        simp only [rises, Bool.and_eq_true, decide_eq_true_eq]
        exact ⟨hk, by omega, h.2⟩
/-- Two lists that rise, and have the same, are one. -/
theorem rises_ext : ∀ (a b : List Nat) (k : Nat), rises k a = true → rises k b = true → (∀ n, n ∈ a ↔ n ∈ b) → a = b := by
  intro a
  induction a with
  | nil =>
    intro b k _ _ h
    cases b with
    | nil => rfl
    | cons y b => exact absurd ((h y).2 List.mem_cons_self) (by simp)
  | cons x a ih =>
    intro b k ha hb h
    cases b with
    | nil => exact absurd ((h x).1 List.mem_cons_self) (by simp)
    | cons y b =>
      simp only [rises, Bool.and_eq_true, decide_eq_true_eq] at ha hb
      have hxy : x = y := by
        rcases List.mem_cons.1 ((h x).1 List.mem_cons_self) with h1 | h1
        · exact h1
        · rcases List.mem_cons.1 ((h y).2 List.mem_cons_self) with h2 | h2
          · exact h2.symm
          · have h3 := rises_low _ _ hb.2 x h1
            have h4 := rises_low _ _ ha.2 y h2
            omega
      subst hxy
      rw [ih b (x + 1) ha.2 hb.2 (fun n => ?_)]
      constructor
      · intro hn
        rcases List.mem_cons.1 ((h n).1 (List.mem_cons_of_mem _ hn)) with h1 | h1
        · have := rises_low _ _ ha.2 n hn; omega
        · exact h1
      · intro hn
        rcases List.mem_cons.1 ((h n).2 (List.mem_cons_of_mem _ hn)) with h1 | h1
        · have := rises_low _ _ hb.2 n hn; omega
        · exact h1
/-- Of two lists no more than the first N of each are wanted for the first N of both. -/
theorem merge_take (A B : List Nat) : ∀ N P Q, N ≤ P → N ≤ Q → (mergeL (A.take P) (B.take Q)).take N = (mergeL A B).take N := by
  induction A, B using merge_rec with
  | h0 b => intro N P Q hP hQ; rw [List.take_nil, merge_nil, merge_nil, List.take_take, Nat.min_eq_left hQ]
  | h1 a => intro N P Q hP hQ; rw [List.take_nil, merge_nil', merge_nil', List.take_take, Nat.min_eq_left hP]
  | hl x y a b h ih =>
    intro N P Q hP hQ
    cases N with
    | zero => simp
    | succ N =>
      obtain ⟨P, rfl⟩ : ∃ p, P = p + 1 := ⟨P - 1, by omega⟩
      obtain ⟨Q, rfl⟩ : ∃ q, Q = q + 1 := ⟨Q - 1, by omega⟩
      have := ih N P (Q + 1) (by omega) (by omega)
      rw [List.take_succ_cons] at this
      rw [List.take_succ_cons, List.take_succ_cons, merge_lt h, merge_lt h, List.take_succ_cons, List.take_succ_cons, this]
  | hg x y a b h ih =>
    intro N P Q hP hQ
    cases N with
    | zero => simp
    | succ N =>
      obtain ⟨P, rfl⟩ : ∃ p, P = p + 1 := ⟨P - 1, by omega⟩
      obtain ⟨Q, rfl⟩ : ∃ q, Q = q + 1 := ⟨Q - 1, by omega⟩
      have := ih N (P + 1) Q (by omega) (by omega)
      rw [List.take_succ_cons] at this
      rw [List.take_succ_cons, List.take_succ_cons, merge_gt h, merge_gt h, List.take_succ_cons, List.take_succ_cons, this]
  | he x a b ih =>
    intro N P Q hP hQ
    cases N with
    | zero => simp
    | succ N =>
      obtain ⟨P, rfl⟩ : ∃ p, P = p + 1 := ⟨P - 1, by omega⟩
      obtain ⟨Q, rfl⟩ : ∃ q, Q = q + 1 := ⟨Q - 1, by omega⟩
      have := ih N P Q (by omega) (by omega)
      rw [List.take_succ_cons, List.take_succ_cons, merge_eq rfl, merge_eq rfl, List.take_succ_cons, List.take_succ_cons, this]
/-- All numbers of some lists, put one by one. -/
def putAll (ls : List (List Nat)) : List Nat := ls.foldl (fun o l => l.foldl putO o) []
theorem fold_put (l : List Nat) : ∀ o : List Nat, rises 0 o = true → rises 0 (l.foldl putO o) = true ∧ ∀ n, n ∈ l.foldl putO o ↔ n ∈ o ∨ n ∈ l := by
  induction l with
  | nil => intro o h; exact ⟨h, fun n => by simp⟩
  | cons x r ih =>
    intro o h
    obtain ⟨h1, h2⟩ := ih (putO o x) (putO_rises o x 0 h (Nat.zero_le _))
    refine ⟨h1, fun n => ?_⟩
    rw [List.foldl_cons, h2, putO_mem, List.mem_cons, or_assoc]
theorem putAll_from (ls : List (List Nat)) : ∀ o : List Nat, rises 0 o = true → rises 0 (ls.foldl (fun o l => l.foldl putO o) o) = true ∧ ∀ n, n ∈ ls.foldl (fun o l => l.foldl putO o) o ↔ n ∈ o ∨ ∃ l ∈ ls, n ∈ l := by
  induction ls with
  | nil => intro o h; exact ⟨h, fun n => by simp⟩
  | cons x r ih =>
    intro o h
    obtain ⟨a1, a2⟩ := fold_put x o h
    obtain ⟨h1, h2⟩ := ih (x.foldl putO o) a1
    refine ⟨h1, fun n => ?_⟩
    rw [List.foldl_cons, h2, a2, or_assoc]
    simp
theorem putAll_is (ls : List (List Nat)) : rises 0 (putAll ls) = true ∧ ∀ n, n ∈ putAll ls ↔ ∃ l ∈ ls, n ∈ l := by
  obtain ⟨h1, h2⟩ := putAll_from ls [] rfl
  exact ⟨h1, fun n => by rw [putAll, h2]; simp⟩
/-- Half by half it is the same, cut. -/
theorem unionF_is (f : Nat) : ∀ ls : List (List Nat), ls.length < f → (∀ l ∈ ls, rises 0 l = true ∧ l.length ≤ 65537) → unionF f ls = (putAll ls).take 65537 := by
  induction f with
  | zero => intro ls h; omega
  | succ f ih =>
    intro ls hf hl
    rw [unionF]
    by_cases h0 : ls.length = 0
    · have : ls = [] := List.eq_nil_of_length_eq_zero h0
      subst this
      rfl
    · rw [if_neg h0]
      by_cases h1 : ls.length = 1
      · rw [if_pos h1]
        cases ls with
        | nil => exact absurd rfl h0
        | cons x r =>
          have hr : r = [] := List.eq_nil_of_length_eq_zero (by simpa using h1)
          subst hr
          have hx := hl x (by simp)
          have hp := putAll_is [x]
          have : putAll [x] = x := rises_ext _ _ 0 hp.1 hx.1 (fun n => by rw [hp.2]; simp)
          rw [this, List.take_of_length_le hx.2]
          rfl
      · rw [if_neg h1]
        obtain ⟨H, hH⟩ : ∃ H, H = ls.length / 2 := ⟨_, rfl⟩
        rw [← hH, ih (ls.take H) (by rw [List.length_take]; omega) (fun l hm => hl l (List.mem_of_mem_take hm)), ih (ls.drop H) (by rw [List.length_drop]; omega) (fun l hm => hl l (List.mem_of_mem_drop hm)), merge_take _ _ _ _ _ (Nat.le_refl _) (Nat.le_refl _)]
        congr 1
        have pa := putAll_is (ls.take H)
        have pb := putAll_is (ls.drop H)
        have pl := putAll_is ls
        refine rises_ext _ _ 0 (merge_rises _ _ 0 pa.1 pb.1) pl.1 (fun n => ?_)
        rw [merge_mem, pa.2, pb.2, pl.2]
        constructor
        · rintro (⟨l, hm, hn⟩ | ⟨l, hm, hn⟩)
          · exact ⟨l, List.mem_of_mem_take hm, hn⟩
          · exact ⟨l, List.mem_of_mem_drop hm, hn⟩
        · rintro ⟨l, hm, hn⟩
          rw [← List.take_append_drop H ls, List.mem_append] at hm
          rcases hm with hm | hm
          · exact Or.inl ⟨l, hm, hn⟩
          · exact Or.inr ⟨l, hm, hn⟩
end Go.Proofs.Ytghgpgeopdhcnaa
