/-
  A set's text is parsed as the set that it was: plain mathematics.
-/
import Derived.Test.YtihgmpebpkjmkaaGreatDoorNsb
set_option linter.unusedVariables false
namespace Go.Proofs.Nst

theorem dig_step (n : Nat) (h : ¬ n < 10) : Lib.decDigits n = Lib.decDigits (n / 10) ++ [UInt8.ofNat (48 + n % 10)] := by rw [Lib.decDigits, dif_neg h]
theorem dig_byte {d : Nat} (h : d < 10) : (UInt8.ofNat (48 + d)).toNat = 48 + d := by simp [UInt8.toNat_ofNat']; omega
theorem dig_mem : ∀ (n : Nat) (c : UInt8), c ∈ Lib.decDigits n → 48 ≤ c.toNat ∧ c.toNat ≤ 57 := by
  intro n
  induction n using Nat.strongRecOn with
  | _ n ih =>
    intro c hc
    by_cases h : n < 10
    · rw [Lib.decDigits_one h, List.mem_singleton] at hc
      rw [hc, dig_byte h]; omega
    · rw [dig_step n h, List.mem_append] at hc
      rcases hc with hc | hc
      · exact ih (n / 10) (by omega) c hc
      · rw [List.mem_singleton] at hc
        rw [hc, dig_byte (by omega)]; omega
theorem dig_head : ∀ (n : Nat), 1 ≤ n → ∃ c r, Lib.decDigits n = c :: r ∧ c.toNat ≠ 48 := by
  intro n
  induction n using Nat.strongRecOn with
  | _ n ih =>
    intro h1
    by_cases h : n < 10
    · exact ⟨_, [], Lib.decDigits_one h, by rw [dig_byte h]; omega⟩
    · obtain ⟨c, r, hc, hn⟩ := ih (n / 10) (by omega) (by omega)
      exact ⟨c, r ++ [UInt8.ofNat (48 + n % 10)], by rw [dig_step n h, hc]; rfl, hn⟩
theorem dig_parse (M : Nat) (hM : M ≤ 4294967295) : ∀ (n : Nat), n ≤ M → ∀ r, Lib.parseUintM M 0 (Lib.decDigits n ++ r) = Lib.parseUintM M n r := by
  intro n
  induction n using Nat.strongRecOn with
  | _ n ih =>
    intro hn r
    by_cases h : n < 10
    · rw [Lib.decDigits_one h, List.singleton_append, Lib.parseUintM, dig_byte h, if_pos (by omega), if_neg (by omega), if_neg (by omega)]
      congr 1
      omega
    · rw [dig_step n h, List.append_assoc, List.singleton_append, ih (n / 10) (by omega) (by omega), Lib.parseUintM, dig_byte (show n % 10 < 10 by omega), if_pos (by omega), if_neg (by omega), if_neg (by omega)]
      congr 1
      omega
theorem dig_len : ∀ (k n : Nat), n < 10 ^ (k + 1) → (Lib.decDigits n).length ≤ k + 1 := by
  intro k
  induction k with
  | zero => intro n h; rw [Lib.decDigits_one (by simpa using h)]; simp
  | succ k ih =>
    intro n h
    by_cases h1 : n < 10
    · rw [Lib.decDigits_one h1]; simp
    · rw [dig_step n h1, List.length_append]
      have := ih (n / 10) (by rw [Nat.pow_succ] at h; omega)
      simp only [List.length_cons, List.length_nil]
      omega
theorem endP_endT {n : Nat} (h : n ≤ 4294967295) : endP (endT n) = (n, true) := by
  unfold endT
  by_cases h0 : n = 0
  · rw [if_pos h0, h0]; rfl
  · rw [if_neg h0]
    obtain ⟨c, r, hc, hn⟩ := dig_head n (by omega)
    have hm := dig_mem n c (by rw [hc]; simp)
    have hp : Lib.parseUintB 32 (Lib.decDigits n) = .ok n := by
      unfold Lib.parseUintB
      rw [if_neg (by rw [hc]; simp)]
      have := dig_parse (2 ^ 32 - 1) (by decide) n (by omega) []
      rw [List.append_nil] at this
      rw [this]
      rfl
    unfold endP
    rw [if_neg (by rw [hc]; intro e; injection e with e1 e2; rw [e1] at hm; revert hm; decide), if_neg (by rw [hc]; intro e; simp at e; rw [e] at hn; exact hn rfl), hp]
theorem endT_mem {n : Nat} {c : UInt8} (h : c ∈ endT n) : c ≠ 58 ∧ c ≠ 44 := by
  unfold endT at h
  by_cases h0 : n = 0
  · rw [if_pos h0, List.mem_singleton] at h; subst h; decide
  · rw [if_neg h0] at h
    have := dig_mem n c h
    refine ⟨fun e => ?_, fun e => ?_⟩ <;> (subst e; revert this; decide)
theorem endT_len {n : Nat} (h : n ≤ 4294967295) : (endT n).length ≤ 10 := by
  unfold endT
  by_cases h0 : n = 0
  · rw [if_pos h0]; simp
  · rw [if_neg h0]; exact dig_len 9 n (by omega)
theorem cutB_none (c : UInt8) : ∀ (l : List UInt8), (∀ x ∈ l, x ≠ c) → cutB c l = (l, [], false)
  | [], _ => rfl
  | x :: r, h => by
    unfold cutB
    rw [if_neg (h x (by simp)), cutB_none c r (fun y hy => h y (by simp [hy]))]
theorem cutB_some (c : UInt8) : ∀ (l r : List UInt8), (∀ x ∈ l, x ≠ c) → cutB c (l ++ c :: r) = (l, r, true)
  | [], r, _ => by simp [cutB]
  | x :: l, r, h => by
    rw [List.cons_append]
    unfold cutB
    rw [if_neg (h x (by simp)), cutB_some c l r (fun y hy => h y (by simp [hy]))]
theorem spanP_spanT {s : Sp} (h1 : s.1 ≤ 4294967295) (h2 : s.2 ≤ 4294967295) : spanP (spanT s) = (s, true) := by
  unfold spanT
  by_cases he : s.2 ≠ s.1
  · rw [if_pos he]
    unfold spanP
    rw [cutB_some 58 (endT s.1) (endT s.2) (fun x hx => (endT_mem hx).1)]
    simp only [if_true, endP_endT h1, endP_endT h2]
    have : s.1 ≠ s.2 := fun e => he e.symm
    simp [this]
  · have he : s.2 = s.1 := by simpa using he
    rw [if_neg (by simpa using he)]
    unfold spanP
    rw [cutB_none 58 (endT s.1) (fun x hx => (endT_mem hx).1)]
    simp only [Bool.false_eq_true, if_false, endP_endT h1]
    exact Prod.ext (Prod.ext rfl he.symm) rfl
theorem spanT_mem {s : Sp} {c : UInt8} (h : c ∈ spanT s) : c ≠ 44 := by
  unfold spanT at h
  by_cases he : s.2 ≠ s.1
  · rw [if_pos he, List.mem_append, List.mem_cons] at h
    rcases h with h | h | h
    · exact (endT_mem h).2
    · subst h; decide
    · exact (endT_mem h).2
  · rw [if_neg he] at h; exact (endT_mem h).2
theorem spanT_len {s : Sp} (h1 : s.1 ≤ 4294967295) (h2 : s.2 ≤ 4294967295) : (spanT s).length ≤ 21 := by
  have e1 := endT_len h1
  have e2 := endT_len h2
  unfold spanT
  split
  · rw [List.length_append, List.length_cons]; omega
  · omega
theorem pieces_joinL : ∀ (ps : List (List UInt8)), ps ≠ [] → (∀ p ∈ ps, ∀ c ∈ p, c ≠ 44) → ∀ f, (joinL ps).length ≤ f → piecesF f (joinL ps) = ps
  | [], h, _, _, _ => absurd rfl h
  | [x], _, h, f, _ => by
    cases f with
    | zero => rfl
    | succ f => unfold piecesF; rw [joinL, cutB_none 44 x (h x (by simp))]; rfl
  | x :: y :: r, _, h, f, hf => by
    rw [joinL, List.length_append, List.length_cons] at hf
    cases f with
    | zero => omega
    | succ f =>
      unfold piecesF
      rw [joinL, cutB_some 44 x _ (h x (by simp))]
      simp only [if_true]
      rw [pieces_joinL (y :: r) (by simp) (fun p hp => h p (List.mem_cons_of_mem _ hp)) f (by omega)]
      all_goals simp
    all_goals simp
theorem joinL_len : ∀ (ps : List (List UInt8)), (∀ p ∈ ps, p.length ≤ 21) → (joinL ps).length ≤ 22 * ps.length
  | [], _ => by simp [joinL]
  | [x], h => by have := h x (by simp); simp [joinL]; omega
  | x :: y :: r, h => by
    have h1 := h x (by simp)
    have h2 := joinL_len (y :: r) (fun p hp => h p (List.mem_cons_of_mem _ hp))
    rw [joinL, List.length_append, List.length_cons]
    simp only [List.length_cons] at h2 ⊢
    omega
    all_goals simp
/-- What is written is parsed as it was. -/
theorem parse_write {l : List Sp} (h0 : l ≠ []) (h1 : l.length ≤ 1024) (hf : ∀ x ∈ l, x.1 ≤ 4294967295 ∧ x.2 ≤ 4294967295) : parseP (writeP l) = (l, 0) ∧ (writeP l).length ≤ 22528 := by
  have hp : piecesL (writeP l) = l.map spanT := by
    unfold piecesL writeP
    refine pieces_joinL _ (by simpa using h0) (fun p hp c hc => ?_) _ (Nat.le_refl _)
    obtain ⟨s, _, rfl⟩ := List.mem_map.1 hp
    exact spanT_mem hc
  refine ⟨?_, ?_⟩
  · unfold parseP
    rw [hp, if_pos (by rw [List.all_eq_true]; intro p hp2; obtain ⟨s, hs, rfl⟩ := List.mem_map.1 hp2; rw [spanP_spanT (hf s hs).1 (hf s hs).2]), if_pos (by rw [List.length_map]; exact h1), List.map_map]
    have : l.map ((fun p => (spanP p).1) ∘ spanT) = l.map id := List.map_congr_left (fun s hs => by show (spanP (spanT s)).1 = s; rw [spanP_spanT (hf s hs).1 (hf s hs).2])
    rw [this, List.map_id]
  · unfold writeP
    have := joinL_len (l.map spanT) (fun p hp2 => by obtain ⟨s, hs, rfl⟩ := List.mem_map.1 hp2; exact spanT_len (hf s hs).1 (hf s hs).2)
    rw [List.length_map] at this
    omega
end Go.Proofs.Nst
