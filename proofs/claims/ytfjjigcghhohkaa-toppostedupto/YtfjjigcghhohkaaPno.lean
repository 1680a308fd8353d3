/-
  What a packed list's reader tells rises, fits, and is as long as told: plain mathematics.
-/
import Derived.Test.YtfjjigcghhohkaaPna
set_option linter.unusedVariables false
namespace Go.Proofs.Pna
open Go.Proofs.Num Go.Proofs.Dct

/-- The numbers rise from a on; b is one more than the last one. -/
def Up : Nat → List Nat → Nat → Prop
  | a, [], b => b = a
  | a, x :: r, b => a ≤ x ∧ Up (x + 1) r b
theorem Up.append : ∀ {l k : List Nat} {a b c : Nat}, Up a l b → Up b k c → Up a (l ++ k) c
  | [], k, a, b, c, h1, h2 => by cases h1; exact h2
  | x :: r, k, a, b, c, h1, h2 => ⟨h1.1, Up.append h1.2 h2⟩
theorem Up.le : ∀ {l : List Nat} {a b : Nat}, Up a l b → a ≤ b
  | [], a, b, h => by cases h; exact Nat.le_refl _
  | x :: r, a, b, h => by have := Up.le h.2; have := h.1; omega
theorem Up.mem : ∀ {l : List Nat} {a b : Nat}, Up a l b → ∀ x ∈ l, a ≤ x ∧ x < b
  | [], a, b, h, x, hx => by cases hx
  | y :: r, a, b, h, x, hx => by
    rcases List.mem_cons.1 hx with rfl | hx
    · have := Up.le h.2; exact ⟨h.1, by omega⟩
    · have h1 := Up.mem h.2 x hx
      have := h.1
      exact ⟨by omega, h1.2⟩
theorem Up.pairwise : ∀ {l : List Nat} {a b : Nat}, Up a l b → l.Pairwise (· < ·)
  | [], a, b, h => List.Pairwise.nil
  | y :: r, a, b, h => List.Pairwise.cons (fun x hx => by have := Up.mem h.2 x hx; omega) (Up.pairwise h.2)
theorem Up.split : ∀ {l k : List Nat} {a c : Nat}, Up a (l ++ k) c → ∃ b, Up a l b ∧ Up b k c
  | [], k, a, c, h => ⟨a, rfl, h⟩
  | x :: r, k, a, c, h => by
    obtain ⟨b, h1, h2⟩ := Up.split h.2
    exact ⟨b, ⟨h.1, h1⟩, h2⟩
theorem failS_ok {r : RS} {e : Nat} (h : (failS r e).er = 0) : r.er = 0 ∧ e = 0 := by
  unfold failS at h
  split at h
  · rename_i h0; exact ⟨h0, h⟩
  · rename_i h0; exact absurd h h0
theorem takeS_ok {r : RS} {b : Nat} (h : (takeS r b).2.er = 0) : r.er = 0 ∧ r.least ≤ (takeS r b).1 ∧ (takeS r b).2.least = (takeS r b).1 + 1 ∧ (takeS r b).1 = r.least + b := by
  unfold takeS at *
  split at h
  · have := (failS_ok h).2; omega
  · rename_i h0
    rw [if_neg h0]
    exact ⟨h, by simp, rfl, rfl⟩
theorem numS_ok {T : List UInt8} {r : RS} (h : (numS T r).2.er = 0) : r.er = 0 := by
  unfold numS at h
  split at h
  · rename_i h0; exact h0
  · exact h
theorem restF_up (T : List UInt8) : ∀ (k : Nat) (r : RS), (restF T k r).2.er = 0 → r.er = 0 ∧ Up r.least (restF T k r).1 (restF T k r).2.least
  | 0, r, h => ⟨h, rfl⟩
  | k + 1, r, h => by
    obtain ⟨h1, h2⟩ := restF_up T k (oneS T r).2 h
    obtain ⟨h3, h4, h5, _⟩ := takeS_ok h1
    refine ⟨numS_ok h3, ?_, ?_⟩
    · rw [numS_least] at h4; exact h4
    · have h6 : (oneS T r).2.least = (oneS T r).1 + 1 := h5
      rw [← h6]; exact h2
theorem endS_ok {w : Bool} {s : Nat} {i : RS} (h : (endS w s i).er = 0) : i.er = 0 ∧ i.pos = s := by
  unfold endS at h
  simp only at h
  by_cases h5 : i.er = 5 ∧ w = true
  · simp only [if_pos h5] at h
    split at h
    · have := (failS_ok h).2; omega
    · simp at h
  · simp only [if_neg h5] at h
    split at h
    · have := (failS_ok h).2; omega
    · rename_i hp; exact ⟨h, by simpa using hp⟩
theorem restS_up {T : List UInt8} {r : RS} {many : Nat} (h : (restS T r many).2.er = 0) : r.er = 0 ∧ Up r.least (restS T r many).1 (restS T r many).2.least := by
  have h1 : (failS (numS T r).2 (endS (decide ((numS T r).1 ≤ (T.drop (numS T r).2.pos).length)) (numS T r).1 (restF (innerT T (numS T r).2 (numS T r).1) many ⟨0, (numS T r).2.least, (numS T r).2.er⟩).2).er).er = 0 := h
  obtain ⟨h2, h3⟩ := failS_ok h1
  obtain ⟨h4, _⟩ := endS_ok h3
  obtain ⟨_, h5⟩ := restF_up _ _ _ h4
  refine ⟨numS_ok h2, ?_⟩
  have h6 : (restS T r many).2.least = (restF (innerT T (numS T r).2 (numS T r).1) many ⟨0, (numS T r).2.least, (numS T r).2.er⟩).2.least := (endS_pos _ _ _).2
  rw [h6, ← numS_least T r]
  exact h5
theorem firstS_ok {T : List UInt8} {r : RS} (h : (firstS T r).2.er = 0) : r.er = 0 ∧ r.least ≤ (firstS T r).1 ∧ (firstS T r).2.least = (firstS T r).1 + 1 := by
  unfold firstS at *
  split at h
  · rename_i h0
    rw [if_pos h0]
    obtain ⟨h1, h2, h3, _⟩ := takeS_ok h
    rw [numS_least] at h2
    exact ⟨numS_ok h1, h2, h3⟩
  · rename_i h0
    rw [if_neg h0]
    obtain ⟨h1, h2, h3, _⟩ := takeS_ok h
    rw [numS_least] at h2
    exact ⟨numS_ok h1, h2, h3⟩
theorem midS_ok {T : List UInt8} {r : RS} {many : Nat} (h : (midS T r many).er = 0) : r.er = 0 ∧ (midS T r many).least = r.least ∧ (numS T r).1 = many := by
  unfold midS at *
  split at h
  · rename_i h0
    rw [if_pos h0]
    exact ⟨numS_ok h, numS_least T r, h0⟩
  · have := (failS_ok h).2; omega
theorem blockS_up {T : List UInt8} {r : RS} {many : Nat} (h : (blockS T r many).2.er = 0) : r.er = 0 ∧ Up r.least (blockS T r many).1 (blockS T r many).2.least := by
  obtain ⟨h1, h2⟩ := restS_up (T := T) (r := midS T (firstS T r).2 many) (many := many - 1) h
  obtain ⟨h3, h4, _⟩ := midS_ok h1
  obtain ⟨h5, h6, h7⟩ := firstS_ok h3
  refine ⟨h5, h6, ?_⟩
  rw [h4, h7] at h2
  exact h2
theorem blockS_len' {T : List UInt8} {r : RS} {many : Nat} (h : 1 ≤ many) : (blockS T r many).1.length = many := by
  show (restF _ (many - 1) _).1.length + 1 = many
  rw [restF_len]
  omega
/-- All numbers that the blocks have. -/
def flatB (l : List (Nat × List Nat)) : List Nat := l.flatMap (·.2)
theorem flatB_cons (p : Nat × List Nat) (l : List (Nat × List Nat)) : flatB (p :: l) = p.2 ++ flatB l := by simp [flatB]
theorem flatB_snoc (p : Nat × List Nat) (l : List (Nat × List Nat)) : flatB (l ++ [p]) = flatB l ++ p.2 := by simp [flatB]
structure Told (a left : Nat) (T : List UInt8) (q : List (Nat × List Nat) × RS) : Prop where
  up : Up a (flatB q.1) q.2.least ∨ q.2.er ≠ 0
  up' : ∃ b, b ≤ 4294967296 ∧ Up a (flatB q.1) b
  len : ∀ p ∈ q.1, 1 ≤ p.2.length ∧ p.2.length ≤ 32
  few : (flatB q.1).length ≤ left
  all : q.2.er = 0 → (flatB q.1).length = left
  inn : In T q.2
theorem blocksF_told (T : List UInt8) : ∀ (f left : Nat) (r : RS), left < f → In T r → Told r.least left T (blocksF T f left r)
  | 0, left, r, h, _ => absurd h (by omega)
  | f + 1, left, r, h, hi => by
    rw [blocksF]
    by_cases h0 : left = 0
    · rw [if_pos h0]
      subst h0
      exact ⟨.inl rfl, ⟨r.least, hi.least, rfl⟩, by simp, by simp [flatB], by simp [flatB], hi⟩
    · rw [if_neg h0]
      simp only
      by_cases he : (blockS T r (min left 32)).2.er ≠ 0
      · rw [if_pos he]
        exact ⟨.inr he, ⟨r.least, hi.least, rfl⟩, by simp, by simp [flatB], fun h => absurd h he, hi.block _⟩
      · rw [if_neg he]
        obtain ⟨_, hu⟩ := blockS_up (T := T) (r := r) (many := min left 32) (by simpa using he)
        have hl := blockS_len' (T := T) (r := r) (many := min left 32) (by omega)
        have ih := blocksF_told T f (left - min left 32) (blockS T r (min left 32)).2 (by omega) (hi.block _)
        refine ⟨?_, ?_, ?_, ?_, ?_, ih.inn⟩
        · rcases ih.up with h1 | h1
          · exact .inl (by rw [flatB_cons]; exact hu.append h1)
          · exact .inr h1
        · obtain ⟨b, h1, h2⟩ := ih.up'
          exact ⟨b, h1, by rw [flatB_cons]; exact hu.append h2⟩
        · intro p hp
          rcases List.mem_cons.1 hp with rfl | hp
          · simp only; omega
          · exact ih.len p hp
        · rw [flatB_cons, List.length_append, hl]
          have := ih.few
          omega
        · intro h1
          rw [flatB_cons, List.length_append, hl]
          have := ih.all h1
          omega
theorem readS_told (T : List UInt8) : Told (countS T ⟨0, 0, 0⟩).2.least (countS T ⟨0, 0, 0⟩).1 T (readS T) :=
  blocksF_told T _ _ _ (by omega) (In.count ⟨Nat.zero_le _, by simp⟩)
theorem readS_few (T : List UInt8) : (flatB (readS T).1).length ≤ 65536 := by
  have := (readS_told T).few
  have h2 : (countS T ⟨0, 0, 0⟩).1 ≤ 65536 := by unfold countS; split; exact Nat.zero_le _; omega
  omega
theorem readS_fit (T : List UInt8) : ∀ n ∈ flatB (readS T).1, n ≤ 4294967295 := by
  obtain ⟨b, h1, h2⟩ := (readS_told T).up'
  intro n hn
  have := h2.mem n hn
  omega
theorem readS_rise (T : List UInt8) : (flatB (readS T).1).Pairwise (· < ·) := by
  obtain ⟨b, h1, h2⟩ := (readS_told T).up'
  exact h2.pairwise
theorem len_flatB : ∀ (l : List (Nat × List Nat)), (∀ p ∈ l, 1 ≤ p.2.length) → l.length ≤ (flatB l).length
  | [], _ => Nat.le_refl _
  | p :: r, h => by
    have h1 := h p List.mem_cons_self
    have h2 := len_flatB r (fun q hq => h q (List.mem_cons_of_mem _ hq))
    rw [flatB_cons, List.length_append, List.length_cons]
    omega
theorem readS_blocks (T : List UInt8) : (readS T).1.length ≤ 65536 := Nat.le_trans (len_flatB _ (fun p hp => ((readS_told T).len p hp).1)) (readS_few T)
theorem readS_each (T : List UInt8) : ∀ p ∈ (readS T).1, p.2.length ≤ 65536 ∧ (∀ y ∈ p.2, y ≤ 4294967295) ∧ p.2.Pairwise (· < ·) := by
  intro p hp
  refine ⟨by have := ((readS_told T).len p hp).2; omega, fun y hy => readS_fit T y (List.mem_flatMap.2 ⟨p, hp, hy⟩), ?_⟩
  have := readS_rise T
  exact List.Pairwise.sublist (List.sublist_flatten_of_mem (List.mem_map_of_mem (f := (·.2)) hp)) (by simpa [flatB, List.flatMap] using this)
end Go.Proofs.Pna
