/-
  Tokens as lists of bytes: plain mathematics, no program.
-/
import Derived.Test.YtafegjbhaofgiaaDoorLxm
import Derived.Lib.ItoaNum
set_option linter.unusedVariables false
set_option linter.unusedSimpArgs false
namespace Go.Proofs.Lx

/-- A token: its kind (1 a word, 2 a text, 3 and 4 brackets) and its text. -/
abbrev Tok := Nat × List UInt8

def isA (c : UInt8) : Bool := decide (33 ≤ c.toNat ∧ c.toNat ≤ 126 ∧ c.toNat ≠ 40 ∧ c.toNat ≠ 41 ∧ c.toNat ≠ 34 ∧ c.toNat ≠ 123)
/-- How many bytes of an atom are ahead. -/
def atomL : List UInt8 → Nat
  | [] => 0
  | c :: r => if isA c then atomL r + 1 else 0
/-- How many spaces are ahead. -/
def spL : List UInt8 → Nat
  | [] => 0
  | c :: r => if c = 32 then spL r + 1 else 0
/-- What stands in a quoted text, behind its first mark, and how many bytes it has there, with its last mark. -/
def quoA : List UInt8 → Option (List UInt8 × Nat)
  | [] => none
  | c :: r =>
    if c = 34 then some ([], 1) else if c = 13 ∨ c = 10 then none
    else if c = 92 then match r with
      | [] => none
      | d :: r' => if d = 34 ∨ d = 92 then (quoA r').map fun p => (d :: p.1, p.2 + 2) else none
    else (quoA r).map fun p => (c :: p.1, p.2 + 1)
/-- A literal's bytes, and how many bytes it has with what announces it. -/
def litA (s : List UInt8) : Option (List UInt8 × Nat) :=
  match cutB 10 s with
  | none => none
  | some (l0, more) => match annB ((trimE l0 13).drop 1) with
    | none => none
    | some b => if more.length < b then none else some (more.take b, l0.length + 1 + b)
/-- The token that a text begins with, and how many bytes it has. -/
def tokA : List UInt8 → Option (Tok × Nat)
  | [] => none
  | c :: r =>
    if c = 40 then some ((3, [40]), 1) else if c = 41 then some ((4, [41]), 1)
    else if c = 34 then (quoA r).map fun p => ((2, p.1), p.2 + 1)
    else if c = 123 then (litA (c :: r)).map fun p => ((2, p.1), p.2)
    else if atomL (c :: r) = 0 then none else some ((1, (c :: r).take (atomL (c :: r))), atomL (c :: r))
def mayT (a b : Nat) : Bool := decide (a = 3 ∨ b = 4 ∨ (a = 4 ∧ b = 3))
def toksA : Nat → List UInt8 → Nat → Option (List Tok)
  | 0, _, _ => none
  | n + 1, r, ahead =>
    if spL r = r.length then some []
    else match tokA (r.drop (spL r)) with
      | none => none
      | some (t, z) => if spL r = 0 ∧ mayT ahead t.1 = false then none else (toksA n (r.drop (spL r + z)) t.1).map (t :: ·)
def tokensL (s : List UInt8) : List Tok × Nat :=
  match toksA (s.length + 1) s 3 with
  | none => ([], 7)
  | some l => if 4096 < l.length then ([], 15) else (l, 0)

/-- May a byte be quoted? -/
def isQ (c : UInt8) : Bool := decide (c.toNat ≤ 126 ∧ (32 ≤ c.toNat ∨ c.toNat = 9))
def escL (c : UInt8) : List UInt8 := if c = 34 ∨ c = 92 then [92, c] else [c]
def quoteL (t : List UInt8) : Option (List UInt8) := if t.all isQ then some (34 :: (t.flatMap escL ++ [34])) else none
/-- The decimal digits of a number. -/
abbrev decL (u : Nat) : List UInt8 := Lib.decDigits u
def strA (t : List UInt8) : Option (List UInt8) := match quoteL t with
  | some q => some q
  | none => if t.length ≤ 999999999 then some (123 :: (decL t.length ++ [125, 13, 10] ++ t)) else none
def textA (t : Tok) : Option (List UInt8) :=
  if t.1 = 1 then (if t.2 ≠ [] ∧ t.2.all isA then some t.2 else none) else if t.1 = 2 then strA t.2
  else if t.1 = 3 then (if t.2 = [40] then some [40] else none) else if t.1 = 4 then (if t.2 = [41] then some [41] else none) else none
/-- What is written of tokens, behind one of the kind 'ahead' (0: there is none). -/
def writeA : Nat → List Tok → Option (List UInt8)
  | _, [] => some []
  | ahead, t :: l => match textA t with
    | none => none
    | some x => (writeA t.1 l).map fun y => (if ahead ≠ 0 ∧ ahead ≠ 3 ∧ t.1 ≠ 4 then [32] else []) ++ x ++ y
def writeL (l : List Tok) : Option (List UInt8) := if 4096 < l.length then none else writeA 0 l

theorem atomL_len : ∀ l : List UInt8, atomL l ≤ l.length
  | [] => by simp [atomL]
  | c :: r => by have := atomL_len r; simp only [atomL]; split <;> simp <;> omega
theorem spL_len : ∀ l : List UInt8, spL l ≤ l.length
  | [] => by simp [spL]
  | c :: r => by have := spL_len r; simp only [spL]; split <;> simp <;> omega
theorem quoA_len : ∀ {l : List UInt8} {t : List UInt8} {z : Nat}, quoA l = some (t, z) → 1 ≤ z ∧ z ≤ l.length ∧ t.length < z
  | [], t, z, h => by simp [quoA] at h
  | [c], t, z, h => by
    simp only [quoA] at h
    split at h
    · injection h with h; injection h with h1 h2; subst h1 h2; simp
    · split at h
      · cases h
      · split at h <;> simp at h
  | c :: d :: r, t, z, h => by
    rw [quoA] at h
    split at h
    · injection h with h; injection h with h1 h2; subst h1 h2; simp
    · split at h
      · cases h
      · split at h
        · split at h
          · rw [Option.map_eq_some_iff] at h
            obtain ⟨⟨t', z'⟩, h1, h2⟩ := h
            injection h2 with h2 h3
            subst h2 h3
            have := quoA_len h1
            simp; omega
          · cases h
        · rw [Option.map_eq_some_iff] at h
          obtain ⟨⟨t', z'⟩, h1, h2⟩ := h
          injection h2 with h2 h3
          subst h2 h3
          have := quoA_len h1
          simp at this ⊢; omega
theorem litA_len {l t : List UInt8} {z : Nat} (h : litA l = some (t, z)) : 1 ≤ z ∧ z ≤ l.length ∧ t.length < z := by
  unfold litA at h
  cases hc : cutB 10 l with
  | none => rw [hc] at h; cases h
  | some p =>
    obtain ⟨l0, more⟩ := p
    obtain ⟨hr, _⟩ := cutB_some hc
    rw [hc] at h
    simp only at h
    cases ha : annB ((trimE l0 13).drop 1) with
    | none => rw [ha] at h; cases h
    | some b =>
      rw [ha] at h; simp only at h
      split at h
      · cases h
      · injection h with h; injection h with h1 h2
        subst h1 h2
        rw [hr]; simp; omega
theorem tokA_len {l : List UInt8} {t : Tok} {z : Nat} (h : tokA l = some (t, z)) : 1 ≤ z ∧ z ≤ l.length ∧ t.2.length ≤ z ∧ 1 ≤ t.1 ∧ t.1 ≤ 4 := by
  cases l with
  | nil => simp [tokA] at h
  | cons c r =>
    simp only [tokA] at h
    split at h
    · injection h with h; injection h with h1 h2; subst h1 h2; simp
    split at h
    · injection h with h; injection h with h1 h2; subst h1 h2; simp
    split at h
    · rw [Option.map_eq_some_iff] at h
      obtain ⟨⟨t', z'⟩, h1, h2⟩ := h
      injection h2 with h2 h3
      subst h2 h3
      have := quoA_len h1
      simp; omega
    split at h
    · rw [Option.map_eq_some_iff] at h
      obtain ⟨⟨t', z'⟩, h1, h2⟩ := h
      injection h2 with h2 h3
      subst h2 h3
      have := litA_len h1
      simp at this ⊢; omega
    split at h
    · cases h
    · injection h with h; injection h with h1 h2; subst h1 h2
      have := atomL_len (c :: r)
      simp at this ⊢; omega
theorem toksA_fuel : ∀ (n m : Nat) (r : List UInt8) (a : Nat), r.length < n → r.length < m → toksA n r a = toksA m r a
  | 0, _, _, _, h, _ => by omega
  | _ + 1, 0, _, _, _, h => by omega
  | n + 1, m + 1, r, a, h1, h2 => by
    unfold toksA
    by_cases hs : spL r = r.length
    · rw [if_pos hs, if_pos hs]
    · rw [if_neg hs, if_neg hs]
      cases ht : tokA (r.drop (spL r)) with
      | none => rfl
      | some p =>
        obtain ⟨t, z⟩ := p
        have := tokA_len ht
        have hl := spL_len r
        rw [List.length_drop] at this
        simp only
        rw [toksA_fuel n m _ _ (by rw [List.length_drop]; omega) (by rw [List.length_drop]; omega)]
theorem toksA_len : ∀ (n : Nat) (r : List UInt8) (a : Nat) (l : List Tok), toksA n r a = some l → l.length ≤ r.length ∧ ∀ t ∈ l, t.2.length ≤ r.length ∧ t.1 ≤ 4
  | 0, r, a, l, h => by simp [toksA] at h
  | n + 1, r, a, l, h => by
    unfold toksA at h
    split at h
    · injection h with h; subst h; simp
    · cases ht : tokA (r.drop (spL r)) with
      | none => rw [ht] at h; cases h
      | some p =>
        obtain ⟨t, z⟩ := p
        have h3 := tokA_len ht
        rw [List.length_drop] at h3
        rw [ht] at h; simp only at h
        split at h
        · cases h
        · rw [Option.map_eq_some_iff] at h
          obtain ⟨l', h1, h2⟩ := h
          subst h2
          have := toksA_len n _ _ _ h1
          rw [List.length_drop] at this
          refine ⟨by simp; omega, fun x hx => ?_⟩
          rcases List.mem_cons.1 hx with rfl | hx
          · omega
          · have := this.2 x hx; omega
theorem tokensL_len (s : List UInt8) : (tokensL s).1.length ≤ 4096 ∧ ∀ t ∈ (tokensL s).1, t.2.length ≤ s.length ∧ t.1 ≤ 4 := by
  unfold tokensL
  cases h : toksA (s.length + 1) s 3 with
  | none => simp
  | some l =>
    simp only
    split
    · simp
    · exact ⟨by simp only; omega, (toksA_len _ _ _ _ h).2⟩
end Go.Proofs.Lx
