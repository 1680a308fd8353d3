/-
  Commands and tokens as lists of bytes: plain mathematics, no program.
-/
import Derived.Lib.Strings
set_option linter.unusedVariables false
set_option linter.unusedSimpArgs false
namespace Go.Proofs.Lx

/-- What is ahead of a byte, and behind it. -/
def cutB (k : UInt8) : List UInt8 → Option (List UInt8 × List UInt8)
  | [] => none
  | c :: r => if c = k then some ([], r) else (cutB k r).map fun p => (c :: p.1, p.2)
theorem cutB_some {k : UInt8} : ∀ {s n v : List UInt8}, cutB k s = some (n, v) → s = n ++ k :: v ∧ k ∉ n
  | [], n, v, h => by simp [cutB] at h
  | c :: r, n, v, h => by
    simp only [cutB] at h
    by_cases hc : c = k
    · rw [if_pos hc] at h
      injection h with h; injection h with h1 h2
      subst h1 h2 hc; simp
    · rw [if_neg hc, Option.map_eq_some_iff] at h
      obtain ⟨⟨n', v'⟩, h1, h2⟩ := h
      injection h2 with h2 h3
      subst h2 h3
      obtain ⟨h4, h5⟩ := cutB_some h1
      refine ⟨by rw [h4]; rfl, ?_⟩
      simp only [List.mem_cons, not_or]
      exact ⟨fun h => hc h.symm, h5⟩
theorem cutB_none {k : UInt8} : ∀ {s : List UInt8}, cutB k s = none → k ∉ s
  | [], _ => by simp
  | c :: r, h => by
    simp only [cutB] at h
    by_cases hc : c = k
    · rw [if_pos hc] at h; cases h
    · rw [if_neg hc, Option.map_eq_none_iff] at h
      simp only [List.mem_cons, not_or]
      exact ⟨fun h => hc h.symm, cutB_none h⟩
theorem cutB_of {k : UInt8} {n v : List UInt8} (h : k ∉ n) : cutB k (n ++ k :: v) = some (n, v) := by
  induction n with
  | nil => simp [cutB]
  | cons c r ih =>
    simp only [List.mem_cons, not_or] at h
    simp only [List.cons_append, cutB]
    rw [if_neg (fun e => h.1 e.symm), ih h.2]; rfl
theorem cutB_out {k : UInt8} {n : List UInt8} (h : k ∉ n) : cutB k n = none := by
  induction n with
  | nil => rfl
  | cons c r ih =>
    simp only [List.mem_cons, not_or] at h
    simp only [cutB]
    rw [if_neg (fun e => h.1 e.symm), ih h.2]; rfl

/-- Without the byte c at its end. -/
def trimE (l : List UInt8) (c : UInt8) : List UInt8 := if l.getLast? = some c then l.dropLast else l
theorem trimE_len (l : List UInt8) (c : UInt8) : (trimE l c).length ≤ l.length := by
  unfold trimE; split <;> simp
theorem hasSuf (l : List UInt8) (c : UInt8) : Lib.hasSuffix l [c] = decide (l.getLast? = some c) := by
  unfold Lib.hasSuffix
  rcases List.eq_nil_or_concat l with rfl | ⟨r, d, rfl⟩
  · simp [List.isSuffixOf, List.isPrefixOf]
  · simp only [List.concat_eq_append, List.getLast?_append, List.getLast?_singleton, Option.or_some, Option.getD_some, Option.some.injEq, List.isSuffixOf, List.reverse_append, List.reverse_cons, List.reverse_nil, List.nil_append, List.singleton_append, List.isPrefixOf, Bool.and_true]
    simp only [List.getLast?_singleton, Option.some_or, Option.some.injEq]
    by_cases h : c = d
    · subst h; simp
    · have h' : ¬ d = c := fun e => h e.symm
      simp [h, h']
theorem trimSuf (l : List UInt8) (c : UInt8) : Lib.trimSuffix l [c] = trimE l c := by
  unfold Lib.trimSuffix trimE
  rw [hasSuf]
  by_cases h : l.getLast? = some c
  · simp [h, List.dropLast_eq_take]
  · simp [h]
theorem trimE_take (l : List UInt8) (c : UInt8) : trimE l c = l.take (trimE l c).length := by
  unfold trimE; split
  · rw [List.dropLast_eq_take, List.length_take]; congr 1; omega
  · simp

/-- The number that digits say, put behind n. -/
def digs : List UInt8 → Nat → Option Nat
  | [], n => some n
  | c :: r, n => if 48 ≤ c.toNat ∧ c.toNat ≤ 57 then digs r (10 * n + (c.toNat - 48)) else none
def numD (d : List UInt8) : Option Nat := if d = [] ∨ 9 < d.length ∨ (d.head? = some 48 ∧ d ≠ [48]) then none else digs d 0
/-- What is announced by what stands behind the bracket. -/
def annB (r : List UInt8) : Option Nat := if r.getLast? = some 125 then numD (trimE r.dropLast 43) else none
/-- What stands behind the last bracket. -/
def lastB : List UInt8 → Option (List UInt8)
  | [] => none
  | c :: r => match lastB r with | some q => some q | none => if c = 123 then some r else none
def annL (l : List UInt8) : Option Nat := (lastB l).bind annB
theorem digs_lt : ∀ (d : List UInt8) (n : Nat) (m : Nat), digs d n = some m → m < (n + 1) * 10 ^ d.length
  | [], n, m, h => by simp [digs] at h; subst h; simp
  | c :: r, n, m, h => by
    simp only [digs] at h
    split at h
    · have := digs_lt r _ m h
      have h2 : (10 * n + (c.toNat - 48) + 1) * 10 ^ r.length ≤ ((n + 1) * 10) * 10 ^ r.length := Nat.mul_le_mul_right _ (by omega)
      rw [List.length_cons, Nat.pow_succ, Nat.mul_comm (10 ^ r.length) 10, ← Nat.mul_assoc]
      omega
    · cases h
theorem numD_lt {d : List UInt8} {m : Nat} (h : numD d = some m) : m < 1000000000 := by
  unfold numD at h
  split at h
  · cases h
  · rename_i hn
    have := digs_lt d 0 m h
    have h9 : d.length ≤ 9 := by
      rcases Nat.lt_or_ge 9 d.length with h | h
      · exact absurd (Or.inr (Or.inl h)) hn
      · exact h
    have : 10 ^ d.length ≤ 10 ^ 9 := Nat.pow_le_pow_right (by decide) h9
    omega
theorem annB_lt {r : List UInt8} {m : Nat} (h : annB r = some m) : m < 1000000000 := by
  unfold annB at h; split at h
  · exact numD_lt h
  · cases h
theorem annL_lt {l : List UInt8} {m : Nat} (h : annL l = some m) : m < 1000000000 := by
  unfold annL at h
  cases hl : lastB l with
  | none => rw [hl] at h; cases h
  | some q => rw [hl] at h; exact annB_lt h

theorem lastB_some : ∀ {l q : List UInt8}, lastB l = some q → ∃ p, l = p ++ 123 :: q ∧ 123 ∉ q
  | [], q, h => by simp [lastB] at h
  | c :: r, q, h => by
    simp only [lastB] at h
    cases hr : lastB r with
    | some q' =>
      rw [hr] at h; injection h with h; subst h
      obtain ⟨p, h1, h2⟩ := lastB_some hr
      exact ⟨c :: p, by rw [h1]; rfl, h2⟩
    | none =>
      rw [hr] at h
      simp only at h
      split at h
      · rename_i hc; injection h with h; subst h hc
        refine ⟨[], rfl, ?_⟩
        exact lastB_none' hr
      · cases h
where
  lastB_none' : ∀ {l : List UInt8}, lastB l = none → (123 : UInt8) ∉ l
  | [], _ => by simp
  | c :: r, h => by
    simp only [lastB] at h
    cases hr : lastB r with
    | some q' => rw [hr] at h; cases h
    | none =>
      rw [hr] at h
      simp only at h
      split at h
      · cases h
      · rename_i hc
        simp only [List.mem_cons, not_or]
        exact ⟨fun e => hc e.symm, lastB_none' hr⟩
theorem lastB_none {l : List UInt8} (h : lastB l = none) : (123 : UInt8) ∉ l := lastB_some.lastB_none' h
theorem lastB_out : ∀ {l : List UInt8}, (123 : UInt8) ∉ l → lastB l = none
  | [], _ => rfl
  | c :: r, h => by
    simp only [List.mem_cons, not_or] at h
    simp only [lastB, lastB_out h.2]
    rw [if_neg (fun e => h.1 e.symm)]
theorem lastB_of {q : List UInt8} (h : (123 : UInt8) ∉ q) : ∀ (p : List UInt8), lastB (p ++ 123 :: q) = some q
  | [] => by simp [lastB, lastB_out h]
  | c :: p => by simp only [List.cons_append, lastB, lastB_of h p]

/-- The document's way: the end first, then the bracket. -/
def annR (l : List UInt8) : Option Nat := if l.getLast? = some 125 then (lastB (trimE l.dropLast 43)).bind numD else none
theorem trimE_app (p q : List UInt8) (c d : UInt8) (h : c ≠ d) : trimE (p ++ d :: q) c = p ++ d :: trimE q c := by
  unfold trimE
  rcases List.eq_nil_or_concat q with rfl | ⟨r, x, rfl⟩
  · simp [h.symm]
  · have : (p ++ d :: r.concat x).getLast? = some x := by
      rw [List.concat_eq_append, List.getLast?_append, ← List.cons_append, List.getLast?_append]; simp
    rw [this]
    simp only [List.concat_eq_append, List.getLast?_append, List.getLast?_singleton, Option.or_some, Option.getD_some, Option.some.injEq]
    by_cases hx : x = c
    · subst hx; simp
      rw [← List.cons_append, List.dropLast_concat]
    · simp [hx]
theorem annR_eq (l : List UInt8) : annR l = annL l := by
  unfold annR annL
  cases hl : lastB l with
  | none =>
    have hn := lastB_none hl
    split
    · rw [lastB_out]; rfl
      intro h
      unfold trimE at h
      split at h
      · exact hn (List.dropLast_subset _ (List.dropLast_subset _ h))
      · exact hn (List.dropLast_subset _ h)
    · rfl
  | some q =>
    obtain ⟨p, rfl, hq⟩ := lastB_some hl
    simp only [Option.bind_some]
    unfold annB
    rcases List.eq_nil_or_concat q with rfl | ⟨r, x, rfl⟩
    · simp
    · have hg : (p ++ 123 :: r.concat x).getLast? = some x := by
        rw [List.concat_eq_append, List.getLast?_append, ← List.cons_append, List.getLast?_append]; simp
      have hg2 : (r.concat x).getLast? = some x := by simp
      rw [hg, hg2]
      by_cases hx : x = 125
      · subst hx
        rw [if_pos rfl, if_pos rfl]
        have h1 : (p ++ 123 :: r.concat 125).dropLast = p ++ 123 :: r := by
          rw [List.concat_eq_append, ← List.cons_append, ← List.append_assoc, List.dropLast_concat]
        rw [h1, trimE_app _ _ _ _ (by decide), lastB_of]
        · simp
        · intro h
          apply hq
          rw [List.concat_eq_append, List.mem_append]; left
          unfold trimE at h
          split at h
          · exact List.dropLast_subset _ h
          · exact h
      · rw [if_neg (by simp [hx]), if_neg (by simp [hx])]

/-- The end of a command's text, where what is behind it begins, and the error: of the rest r of a text, of which 'at' bytes are read, with so many bytes of lines, and so many literals. -/
def nextA : Nat → Nat → List UInt8 → Nat → Nat → Nat × Nat × Nat
  | 0, _, _, _, _ => (0, 0, 5)
  | n + 1, at_, r, lines, lits => match cutB 10 r with
    | none => (0, 0, if 8192 < lines + r.length then 15 else 5)
    | some (l0, more) => match annL (trimE l0 13) with
      | none => if 8192 < lines + (trimE l0 13).length ∨ 16 < lits then (0, 0, 15) else (at_ + (trimE l0 13).length, at_ + l0.length + 1, 0)
      | some b => if 8192 < lines + (trimE l0 13).length ∨ 65536 < b ∨ 16 < lits + 1 then (0, 0, 15) else if more.length < b then (0, 0, 5)
        else nextA n (at_ + l0.length + 1 + b) (more.drop b) (lines + (trimE l0 13).length) (lits + 1)
def nextL (s : List UInt8) : Nat × Nat × Nat := nextA (s.length + 1) 0 s 0 0

theorem nextA_le : ∀ (n at_ : Nat) (r : List UInt8) (lines lits : Nat), (nextA n at_ r lines lits).2.2 = 0 → (nextA n at_ r lines lits).1 < (nextA n at_ r lines lits).2.1 ∧ at_ < (nextA n at_ r lines lits).2.1 ∧ (nextA n at_ r lines lits).2.1 ≤ at_ + r.length
  | 0, at_, r, lines, lits, h => by simp [nextA] at h
  | n + 1, at_, r, lines, lits, h => by
    unfold nextA at h ⊢
    cases hc : cutB 10 r with
    | none => rw [hc] at h; simp only at h; split at h <;> cases h
    | some p =>
      obtain ⟨l0, more⟩ := p
      rw [hc] at h
      obtain ⟨hr, _⟩ := cutB_some hc
      have ht := trimE_len l0 13
      have hlen : r.length = l0.length + 1 + more.length := by rw [hr]; simp; omega
      simp only at h ⊢
      cases ha : annL (trimE l0 13) with
      | none =>
        rw [ha] at h; simp only at h ⊢
        split at h
        · cases h
        · rename_i hh
          rw [if_neg hh]; simp only; omega
      | some b =>
        rw [ha] at h; simp only at h ⊢
        split at h
        · cases h
        · rename_i h1
          split at h
          · cases h
          · rename_i h2
            rw [if_neg h1, if_neg h2]
            have := nextA_le n _ _ _ _ h
            rw [List.length_drop] at this
            omega
theorem nextA_err : ∀ (n at_ : Nat) (r : List UInt8) (lines lits : Nat), (nextA n at_ r lines lits).2.2 ≠ 0 → (nextA n at_ r lines lits).1 = 0 ∧ (nextA n at_ r lines lits).2.1 = 0
  | 0, at_, r, lines, lits, h => by simp [nextA]
  | n + 1, at_, r, lines, lits, h => by
    unfold nextA at h ⊢
    cases hc : cutB 10 r with
    | none => simp
    | some p =>
      obtain ⟨l0, more⟩ := p
      rw [hc] at h
      simp only at h ⊢
      cases ha : annL (trimE l0 13) with
      | none =>
        rw [ha] at h; simp only at h ⊢
        split
        · simp
        · rename_i hh; rw [if_neg hh] at h; simp at h
      | some b =>
        rw [ha] at h; simp only at h ⊢
        split
        · simp
        · rename_i h1
          rw [if_neg h1] at h
          split
          · simp
          · rename_i h2
            rw [if_neg h2] at h
            exact nextA_err n _ _ _ _ h

theorem nextA_fuel : ∀ (n m at_ : Nat) (r : List UInt8) (lines lits : Nat), r.length < n → r.length < m → nextA n at_ r lines lits = nextA m at_ r lines lits
  | 0, _, _, _, _, _, h, _ => by omega
  | _ + 1, 0, _, _, _, _, _, h => by omega
  | n + 1, m + 1, at_, r, lines, lits, h1, h2 => by
    unfold nextA
    cases hc : cutB 10 r with
    | none => rfl
    | some p =>
      obtain ⟨l0, more⟩ := p
      obtain ⟨hr, _⟩ := cutB_some hc
      have hlen : r.length = l0.length + 1 + more.length := by rw [hr]; simp; omega
      simp only
      cases annL (trimE l0 13) with
      | none => rfl
      | some b =>
        simp only
        rw [nextA_fuel n m _ _ _ _ (by rw [List.length_drop]; omega) (by rw [List.length_drop]; omega)]
theorem nextA_ge {n at_ : Nat} {r : List UInt8} {lines lits : Nat} : (nextA n at_ r lines lits).2.2 = 0 → at_ ≤ (nextA n at_ r lines lits).1 ∧ (nextA n at_ r lines lits).1 ≤ at_ + r.length := by
  induction n generalizing at_ r lines lits with
  | zero => intro h; simp [nextA] at h
  | succ n ih =>
    intro h
    unfold nextA at h ⊢
    cases hc : cutB 10 r with
    | none => rw [hc] at h; simp only at h; split at h <;> cases h
    | some p =>
      obtain ⟨l0, more⟩ := p
      rw [hc] at h
      obtain ⟨hr, _⟩ := cutB_some hc
      have ht := trimE_len l0 13
      have hlen : r.length = l0.length + 1 + more.length := by rw [hr]; simp; omega
      simp only at h ⊢
      cases ha : annL (trimE l0 13) with
      | none =>
        rw [ha] at h; simp only at h ⊢
        split at h
        · cases h
        · rename_i hh
          rw [if_neg hh]; simp only; omega
      | some b =>
        rw [ha] at h; simp only at h ⊢
        split at h
        · cases h
        · rename_i h1
          split at h
          · cases h
          · rename_i h2
            rw [if_neg h1, if_neg h2]
            have := ih h
            rw [List.length_drop] at this
            omega
/-- Whatever stands behind a whole command, it is told first. -/
theorem nextA_more : ∀ (n at_ : Nat) (r m : List UInt8) (lines lits : Nat), (nextA n at_ r lines lits).2.2 = 0 → nextA n at_ (r ++ m) lines lits = nextA n at_ r lines lits
  | 0, at_, r, m, lines, lits, h => by simp [nextA] at h
  | n + 1, at_, r, m, lines, lits, h => by
    unfold nextA at h ⊢
    cases hc : cutB 10 r with
    | none => rw [hc] at h; simp only at h; split at h <;> cases h
    | some p =>
      obtain ⟨l0, more⟩ := p
      rw [hc] at h
      obtain ⟨hr, hn⟩ := cutB_some hc
      rw [show cutB 10 (r ++ m) = some (l0, more ++ m) by rw [hr, List.append_assoc, List.cons_append, cutB_of hn]]
      simp only at h ⊢
      cases ha : annL (trimE l0 13) with
      | none => rfl
      | some b =>
        rw [ha] at h; simp only at h ⊢
        split at h
        · cases h
        · rename_i h1
          split at h
          · cases h
          · rename_i h2
            rw [if_neg h1, if_neg h1, if_neg h2, if_neg (by rw [List.length_append]; omega), List.drop_append_of_le_length (by omega)]
            exact nextA_more n _ _ m _ _ h
/-- A command's text with an end is one. -/
theorem nextA_own : ∀ (n at_ : Nat) (r m : List UInt8) (lines lits a x : Nat), nextA n at_ r lines lits = (a, x, 0) → nextA n at_ (r.take (a - at_) ++ 13 :: 10 :: m) lines lits = (a, a + 2, 0)
  | 0, at_, r, m, lines, lits, a, x, h => by simp [nextA] at h
  | n + 1, at_, r, m, lines, lits, a, x, h => by
    have hge := nextA_ge (n := n + 1) (at_ := at_) (r := r) (lines := lines) (lits := lits) (by rw [h])
    unfold nextA at h ⊢
    cases hc : cutB 10 r with
    | none => rw [hc] at h; simp only at h; split at h <;> simp at h
    | some p =>
      obtain ⟨l0, more⟩ := p
      rw [hc] at h
      obtain ⟨hr, hn⟩ := cutB_some hc
      have ht := trimE_len l0 13
      have hlen : r.length = l0.length + 1 + more.length := by rw [hr]; simp; omega
      simp only at h
      cases ha : annL (trimE l0 13) with
      | none =>
        rw [ha] at h; simp only at h
        split at h
        · simp at h
        · rename_i hh
          injection h with h1 h2
          subst h1
          have e1 : r.take (at_ + (trimE l0 13).length - at_) = trimE l0 13 := by
            rw [show at_ + (trimE l0 13).length - at_ = (trimE l0 13).length by omega, hr, List.take_append_of_le_length ht, ← trimE_take]
          have hn2 : (10 : UInt8) ∉ trimE l0 13 ++ [13] := by
            rw [List.mem_append]
            rintro (h | h)
            · rw [trimE_take] at h; exact hn (List.mem_of_mem_take h)
            · simp at h
          have e2 : trimE (trimE l0 13 ++ [13]) 13 = trimE l0 13 := by
            rw [trimE, if_pos (by simp), List.dropLast_concat]
          rw [e1, show trimE l0 13 ++ 13 :: 10 :: m = (trimE l0 13 ++ [13]) ++ 10 :: m by simp, cutB_of hn2]
          simp only [e2, ha]
          rw [if_neg hh, List.length_append]
          simp; omega
      | some b =>
        rw [ha] at h; simp only at h
        split at h
        · simp at h
        · rename_i h1
          split at h
          · simp at h
          · rename_i h2
            have hg := nextA_ge (n := n) (at_ := at_ + l0.length + 1 + b) (r := more.drop b) (lines := lines + (trimE l0 13).length) (lits := lits + 1) (by rw [h])
            rw [h] at hg
            simp only at hg
            have e1 : r.take (a - at_) = l0 ++ 10 :: (more.take b ++ (more.drop b).take (a - (at_ + l0.length + 1 + b))) := by
              obtain ⟨k, hk⟩ : ∃ k, a - at_ = l0.length + 1 + b + k := ⟨a - at_ - (l0.length + 1 + b), by omega⟩
              rw [hk, show a - (at_ + l0.length + 1 + b) = k by omega, ← List.take_add, hr, List.take_append, List.take_of_length_le (by omega), show l0.length + 1 + b + k - l0.length = (b + k) + 1 by omega, List.take_succ_cons]
            rw [e1, List.append_assoc, List.cons_append, cutB_of hn]
            simp only [ha]
            have hb : (more.take b).length = b := by rw [List.length_take]; omega
            rw [if_neg h1, if_neg (by simp only [List.length_append]; omega), List.append_assoc, List.drop_append_of_le_length (by omega), List.drop_of_length_le (by omega), List.nil_append]
            exact nextA_own n _ _ m _ _ a x h
theorem nextL_more {s : List UInt8} (m : List UInt8) (h : (nextL s).2.2 = 0) : nextL (s ++ m) = nextL s := by
  unfold nextL at *
  rw [nextA_fuel _ ((s ++ m).length + 1) 0 s 0 0 (by omega) (by rw [List.length_append]; omega)] at h ⊢
  exact nextA_more _ _ _ _ _ _ h
theorem nextL_own {s : List UInt8} (m : List UInt8) {a x : Nat} (h : nextL s = (a, x, 0)) : nextL (s.take a ++ 13 :: 10 :: m) = (a, a + 2, 0) := by
  unfold nextL at *
  rw [nextA_fuel _ (s.length + m.length + 3) 0 s 0 0 (by omega) (by omega)] at h
  rw [nextA_fuel _ (s.length + m.length + 3) 0 _ 0 0 (by omega) (by simp; omega)]
  exact nextA_own _ 0 s m 0 0 a x h
theorem nextL_le {s : List UInt8} {a x : Nat} (h : nextL s = (a, x, 0)) : a < x ∧ x ≤ s.length := by
  have := nextA_le (s.length + 1) 0 s 0 0 (by rw [show nextA (s.length + 1) 0 s 0 0 = _ from h])
  rw [show nextA (s.length + 1) 0 s 0 0 = _ from h] at this
  simp only at this; omega
end Go.Proofs.Lx
