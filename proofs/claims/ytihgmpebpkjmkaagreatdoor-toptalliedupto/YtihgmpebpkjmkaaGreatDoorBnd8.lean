/-
  Tokens as lists of bytes: plain mathematics, no program.
-/
import Derived.Test.YtihgmpebpkjmkaaGreatDoorLxm
import Derived.Lib.ItoaNum
set_option linter.unusedVariables false
set_option linter.unusedSimpArgs false
namespace Go.Proofs.Lx

/-- A token: its kind (1 a word, 2 a text, 3 and 4 brackets) and its text. -/
abbrev Tok := Nat × List UInt8

def isA (c : UInt8) : Bool := decide (33 ≤ c.toNat ∧ c.toNat ≤ 126 ∧ c.toNat ≠ 40 ∧ c.toNat ≠ 41 ∧ c.toNat ≠ 34 ∧ c.toNat ≠ 123)
/-- How many bytes of an atom are ahead. -/
def atomL : List UInt8 → Nat
  | [] => 0
  | c :: r => if isA c then atomL r + 1 else 0
/-- How many spaces are ahead. -/
def spL : List UInt8 → Nat
  | [] => 0
  | c :: r => if c = 32 then spL r + 1 else 0
/-- What stands in a quoted text, behind its first mark, and how many bytes it has there, with its last mark. -/
def quoA : List UInt8 → Option (List UInt8 × Nat)
  | [] => none
  | c :: r =>
    if c = 34 then some ([], 1) else if c = 13 ∨ c = 10 then none
    else if c = 92 then match r with
      | [] => none
      | d :: r' => if d = 34 ∨ d = 92 then (quoA r').map fun p => (d :: p.1, p.2 + 2) else none
    else (quoA r).map fun p => (c :: p.1, p.2 + 1)
/-- A literal's bytes, and how many bytes it has with what announces it. -/
def litA (s : List UInt8) : Option (List UInt8 × Nat) :=
  match cutB 10 s with
  | none => none
  | some (l0, more) => match annB ((trimE l0 13).drop 1) with
    | none => none
    | some b => if more.length < b then none else some (more.take b, l0.length + 1 + b)
/-- The token that a text begins with, and how many bytes it has. -/
def tokA : List UInt8 → Option (Tok × Nat)
  | [] => none
  | c :: r =>
    if c = 40 then some ((3, [40]), 1) else if c = 41 then some ((4, [41]), 1)
    else if c = 34 then (quoA r).map fun p => ((2, p.1), p.2 + 1)
    else if c = 123 then (litA (c :: r)).map fun p => ((2, p.1), p.2)
    else if atomL (c :: r) = 0 then none else some ((1, (c :: r).take (atomL (c :: r))), atomL (c :: r))
def mayT (a b : Nat) : Bool := decide (a = 3 ∨ b = 4 ∨ (a = 4 ∧ b = 3))
def toksA : Nat → List UInt8 → Nat → Option (List Tok)
  | 0, _, _ => none
  | n + 1, r, ahead =>
    if spL r = r.length then some []
    else match tokA (r.drop (spL r)) with
      | none => none
      | some (t, z) => if spL r = 0 ∧ mayT ahead t.1 = false then none else (toksA n (r.drop (spL r + z)) t.1).map (t :: ·)
def tokensL (s : List UInt8) : List Tok × Nat :=
  match toksA (s.length + 1) s 3 with
  | none => ([], 7)
  | some l => if 4096 < l.length then ([], 15) else (l, 0)

/-- May a byte be quoted? -/
def isQ (c : UInt8) : Bool := decide (c.toNat ≤ 126 ∧ (32 ≤ c.toNat ∨ c.toNat = 9))
def escL (c : UInt8) : List UInt8 := if c = 34 ∨ c = 92 then [92, c] else [c]
def quoteL (t : List UInt8) : Option (List UInt8) := if t.all isQ then some (34 :: (t.flatMap escL ++ [34])) else none
/-- The decimal digits of a number. -/
abbrev decL (u : Nat) : List UInt8 := Lib.decDigits u
def strA (t : List UInt8) : Option (List UInt8) := match quoteL t with
  | some q => some q
  | none => if t.length ≤ 999999999 then some (123 :: (decL t.length ++ [125, 13, 10] ++ t)) else none
def textA (t : Tok) : Option (List UInt8) :=
  if t.1 = 1 then (if t.2 ≠ [] ∧ t.2.all isA then some t.2 else none) else if t.1 = 2 then strA t.2
  else if t.1 = 3 then (if t.2 = [40] then some [40] else none) else if t.1 = 4 then (if t.2 = [41] then some [41] else none) else none
/-- What is written of tokens, behind one of the kind 'ahead' (0: there is none). -/
def writeA : Nat → List Tok → Option (List UInt8)
  | _, [] => some []
  | ahead, t :: l => match textA t with
    | none => none
    | some x => (writeA t.1 l).map fun y => (if ahead ≠ 0 ∧ ahead ≠ 3 ∧ t.1 ≠ 4 then [32] else []) ++ x ++ y
def writeL (l : List Tok) : Option (List UInt8) := if 4096 < l.length then none else writeA 0 l

theorem atomL_len : ∀ l : List UInt8, atomL l ≤ l.length
  | [] => by simp [atomL]
  | c :: r => by have := atomL_len r; simp only [atomL]; split <;> simp <;> omega
theorem spL_len : ∀ l : List UInt8, spL l ≤ l.length
  | [] => by simp [spL]
  | c :: r => by have := spL_len r; simp only [spL]; split <;> simp <;> omega
theorem quoA_len : ∀ {l : List UInt8} {t : List UInt8} {z : Nat}, quoA l = some (t, z) → 1 ≤ z ∧ z ≤ l.length ∧ t.length < z
  | [], t, z, h => by simp [quoA] at h
  | [c], t, z, h => by
    simp only [quoA] at h
    split at h
    · injection h with h; injection h with h1 h2; subst h1 h2; simp
    · split at h
      · cases h
      · split at h <;> simp at h
  | c :: d :: r, t, z, h => by
    rw [quoA] at h
    split at h
    · injection h with h; injection h with h1 h2; subst h1 h2; simp
    · split at h
      · cases h
      · split at h
        · split at h
          · rw [Option.map_eq_some_iff] at h
            obtain ⟨⟨t', z'⟩, h1, h2⟩ := h
            injection h2 with h2 h3
            subst h2 h3
            have := quoA_len h1
            simp; omega
          · cases h
        · rw [Option.map_eq_some_iff] at h
          obtain ⟨⟨t', z'⟩, h1, h2⟩ := h
          injection h2 with h2 h3
          subst h2 h3
          have := quoA_len h1
          simp at this ⊢; omega
theorem litA_len {l t : List UInt8} {z : Nat} (h : litA l = some (t, z)) : 1 ≤ z ∧ z ≤ l.length ∧ t.length < z := by
  unfold litA at h
  cases hc : cutB 10 l with
  | none => rw [hc] at h; cases h
  | some p =>
    obtain ⟨l0, more⟩ := p
    obtain ⟨hr, _⟩ := cutB_some hc
    rw [hc] at h
    simp only at h
    cases ha : annB ((trimE l0 13).drop 1) with
    | none => rw [ha] at h; cases h
    | some b =>
      rw [ha] at h; simp only at h
      split at h
      · cases h
      · injection h with h; injection h with h1 h2
        subst h1 h2
        rw [hr]; simp; omega
theorem tokA_len {l : List UInt8} {t : Tok} {z : Nat} (h : tokA l = some (t, z)) : 1 ≤ z ∧ z ≤ l.length ∧ t.2.length ≤ z ∧ 1 ≤ t.1 ∧ t.1 ≤ 4 := by
  cases l with
  | nil => simp [tokA] at h
  | cons c r =>
    simp only [tokA] at h
    split at h
    · injection h with h; injection h with h1 h2; subst h1 h2; simp
    split at h
    · injection h with h; injection h with h1 h2; subst h1 h2; simp
    split at h
    · rw [Option.map_eq_some_iff] at h
      obtain ⟨⟨t', z'⟩, h1, h2⟩ := h
      injection h2 with h2 h3
      subst h2 h3
      have := quoA_len h1
      simp; omega
    split at h
    · rw [Option.map_eq_some_iff] at h
      obtain ⟨⟨t', z'⟩, h1, h2⟩ := h
      injection h2 with h2 h3
      subst h2 h3
      have := litA_len h1
      simp at this ⊢; omega
    split at h
    · cases h
    · injection h with h; injection h with h1 h2; subst h1 h2
      have := atomL_len (c :: r)
      simp at this ⊢; omega
theorem toksA_fuel : ∀ (n m : Nat) (r : List UInt8) (a : Nat), r.length < n → r.length < m → toksA n r a = toksA m r a
  | 0, _, _, _, h, _ => by omega
  | _ + 1, 0, _, _, _, h => by omega
  | n + 1, m + 1, r, a, h1, h2 => by
    unfold toksA
    by_cases hs : spL r = r.length
    · rw [if_pos hs, if_pos hs]
    · rw [if_neg hs, if_neg hs]
      cases ht : tokA (r.drop (spL r)) with
      | none => rfl
      | some p =>
        obtain ⟨t, z⟩ := p
        have := tokA_len ht
        have hl := spL_len r
        rw [List.length_drop] at this
        simp only
        rw [toksA_fuel n m _ _ (by rw [List.length_drop]; omega) (by rw [List.length_drop]; omega)]
theorem toksA_len : ∀ (n : Nat) (r : List UInt8) (a : Nat) (l : List Tok), toksA n r a = some l → l.length ≤ r.length ∧ ∀ t ∈ l, t.2.length ≤ r.length ∧ t.1 ≤ 4
  | 0, r, a, l, h => by simp [toksA] at h
  | n + 1, r, a, l, h => by
    unfold toksA at h
    split at h
    · injection h with h; subst h; simp
    · cases ht : tokA (r.drop (spL r)) with
      | none => rw [ht] at h; cases h
      | some p =>
        obtain ⟨t, z⟩ := p
        have h3 := tokA_len ht
        rw [List.length_drop] at h3
        rw [ht] at h; simp only at h
        split at h
        · cases h
        · rw [Option.map_eq_some_iff] at h
          obtain ⟨l', h1, h2⟩ := h
          subst h2
          have := toksA_len n _ _ _ h1
          rw [List.length_drop] at this
          refine ⟨by simp; omega, fun x hx => ?_⟩
          rcases List.mem_cons.1 hx with rfl | hx
          · omega
          · have := this.2 x hx; omega
theorem tokensL_len (s : List UInt8) : (tokensL s).1.length ≤ 4096 ∧ ∀ t ∈ (tokensL s).1, t.2.length ≤ s.length ∧ t.1 ≤ 4 := by
  unfold tokensL
  cases h : toksA (s.length + 1) s 3 with
  | none => simp
  | some l =>
    simp only
    split
    · simp
    · exact ⟨by simp only; omega, (toksA_len _ _ _ _ h).2⟩
end Go.Proofs.Lx

/-
  Tokens that are written are told as they are, and so are tokens with more spaces: plain mathematics.
-/
set_option linter.unusedVariables false
set_option linter.unusedSimpArgs false
namespace Go.Proofs.Lx

theorem decL_small {u : Nat} (h : u < 10) : decL u = [UInt8.ofNat (48 + u)] := Lib.decDigits_one h
theorem decL_big {u : Nat} (h : ¬ u < 10) : decL u = decL (u / 10) ++ [UInt8.ofNat (48 + u % 10)] := by rw [decL, Lib.decDigits, dif_neg h]
theorem digs_snoc : ∀ (l : List UInt8) (c : UInt8) (n : Nat), digs (l ++ [c]) n = (digs l n).bind fun m => digs [c] m
  | [], c, n => rfl
  | d :: l, c, n => by
    simp only [List.cons_append, digs]
    split
    · rw [digs_snoc l c _]; rfl
    · rfl
theorem nat48 {k : Nat} (h : k < 10) : (UInt8.ofNat (48 + k)).toNat = 48 + k := by simp; omega
theorem digs_one {k : Nat} (h : k < 10) (n : Nat) : digs [UInt8.ofNat (48 + k)] n = some (10 * n + k) := by
  simp only [digs, nat48 h]
  rw [if_pos (by omega)]; congr 1; omega
theorem digs_dec (u : Nat) : digs (decL u) 0 = some u := by
  induction u using Nat.strongRecOn with
  | _ u ih =>
    by_cases h : u < 10
    · rw [decL_small h, digs_one h]; simp
    · rw [decL_big h, digs_snoc, ih (u / 10) (by omega), Option.bind_some, digs_one (by omega)]
      congr 1; omega
theorem decL_ne (u : Nat) : decL u ≠ [] := by
  by_cases h : u < 10
  · rw [decL_small h]; simp
  · rw [decL_big h]; simp
theorem decL_head (u : Nat) : (decL u).head? = some 48 → u = 0 := by
  induction u using Nat.strongRecOn with
  | _ u ih =>
    by_cases h : u < 10
    · rw [decL_small h]
      simp only [List.head?_cons, Option.some.injEq]
      intro hh
      have := congrArg UInt8.toNat hh
      rw [nat48 h] at this
      simp at this; omega
    · rw [decL_big h, List.head?_append]
      intro hh
      cases hd : (decL (u / 10)).head? with
      | none => exact absurd (List.head?_eq_none_iff.1 hd) (decL_ne _)
      | some c =>
        rw [hd] at hh
        simp only [Option.some_or] at hh
        have := ih (u / 10) (by omega) (by rw [hd, hh])
        omega
theorem decL_len : ∀ (k u : Nat), u < 10 ^ (k + 1) → (decL u).length ≤ k + 1
  | 0, u, h => by rw [decL_small (by simpa using h)]; simp
  | k + 1, u, h => by
    by_cases hs : u < 10
    · rw [decL_small hs]; simp
    · rw [decL_big hs, List.length_append]
      have : u / 10 < 10 ^ (k + 1) := by
        rw [Nat.pow_succ] at h
        exact Nat.div_lt_of_lt_mul (by omega)
      have := decL_len k _ this
      simp; omega
theorem decL_mem (u : Nat) : ∀ c ∈ decL u, 48 ≤ c.toNat ∧ c.toNat ≤ 57 := by
  induction u using Nat.strongRecOn with
  | _ u ih =>
    intro c hc
    by_cases h : u < 10
    · rw [decL_small h, List.mem_singleton] at hc; subst hc; rw [nat48 h]; omega
    · rw [decL_big h, List.mem_append, List.mem_singleton] at hc
      rcases hc with hc | rfl
      · exact ih (u / 10) (by omega) c hc
      · rw [nat48 (by omega)]; omega
theorem numD_dec (u : Nat) (h : u ≤ 999999999) : numD (decL u) = some u := by
  unfold numD
  rw [if_neg, digs_dec]
  rintro (h1 | h1 | ⟨h1, h2⟩)
  · exact decL_ne u h1
  · have := decL_len 8 u (by omega); omega
  · have := decL_head u h1
    subst this
    exact h2 (decL_small (by omega))

theorem isA_not {c : UInt8} (h : isA c = true) : c ≠ 40 ∧ c ≠ 41 ∧ c ≠ 34 ∧ c ≠ 123 ∧ c ≠ 32 := by
  unfold isA at h
  rw [decide_eq_true_iff] at h
  refine ⟨?_, ?_, ?_, ?_, ?_⟩ <;> (rintro rfl; simp at h)
theorem atomL_all : ∀ {t : List UInt8}, t.all isA = true → ∀ y : List UInt8, (∀ c r, y = c :: r → isA c = false) → atomL (t ++ y) = t.length
  | [], _, y, hy => by
    cases y with
    | nil => rfl
    | cons c r => simp [atomL, hy c r rfl]
  | c :: t, h, y, hy => by
    rw [List.all_cons, Bool.and_eq_true] at h
    simp only [List.cons_append, atomL, h.1, if_true, List.length_cons, atomL_all h.2 y hy]
theorem quoA_esc : ∀ {t : List UInt8}, t.all isQ = true → ∀ y : List UInt8, quoA (t.flatMap escL ++ 34 :: y) = some (t, (t.flatMap escL).length + 1)
  | [], _, y => by
    simp only [List.flatMap_nil, List.nil_append, List.length_nil]
    rw [quoA.eq_def]
    simp
  | c :: t, h, y => by
    rw [List.all_cons, Bool.and_eq_true] at h
    have ih := quoA_esc h.2 y
    have hc := h.1
    unfold isQ at hc
    rw [decide_eq_true_iff] at hc
    rw [List.flatMap_cons, List.append_assoc]
    by_cases he : c = 34 ∨ c = 92
    · rw [show escL c = [92, c] by rw [escL, if_pos he]]
      simp only [List.cons_append, List.nil_append, quoA]
      rw [if_neg (by decide), if_neg (by decide), if_pos trivial, if_pos he, ih]
      simp
    · rw [show escL c = [c] by rw [escL, if_neg he]]
      have h1 : ¬ c = 34 := fun e => he (Or.inl e)
      have h2 : ¬ c = 92 := fun e => he (Or.inr e)
      have h3 : ¬ (c = 13 ∨ c = 10) := by rintro (rfl | rfl) <;> simp at hc
      simp only [List.cons_append, List.nil_append]
      rw [quoA.eq_def]
      simp only
      rw [if_neg h1, if_neg h3, if_neg h2, ih]
      simp
theorem litA_of (t y : List UInt8) (h : t.length ≤ 999999999) : litA (123 :: (decL t.length ++ [125, 13, 10] ++ t) ++ y) = some (t, (123 :: (decL t.length ++ [125, 13, 10] ++ t)).length) := by
  have hm : (10 : UInt8) ∉ (123 :: (decL t.length ++ [125, 13])) := by
    simp only [List.mem_cons, List.mem_append, not_or]
    refine ⟨by decide, fun hd => ?_, by decide, by decide, by simp⟩
    have := decL_mem _ _ hd
    simp at this
  have e : 123 :: (decL t.length ++ [125, 13, 10] ++ t) ++ y = (123 :: (decL t.length ++ [125, 13])) ++ 10 :: (t ++ y) := by simp
  rw [e]
  unfold litA
  rw [cutB_of hm]
  have e2 : trimE (123 :: (decL t.length ++ [125, 13])) 13 = 123 :: (decL t.length ++ [125]) := by
    rw [show 123 :: (decL t.length ++ [125, 13]) = (123 :: (decL t.length ++ [125])) ++ [13] by simp]
    rw [trimE, if_pos (by rw [List.getLast?_append]; simp), List.dropLast_concat]
  have e3 : annB (decL t.length ++ [125]) = some t.length := by
    unfold annB
    rw [if_pos (by simp), List.dropLast_concat]
    rw [trimE, if_neg, numD_dec _ h]
    intro hl
    have := decL_mem _ _ (List.mem_of_getLast? hl)
    simp at this
  simp only [e2, List.drop_succ_cons, List.drop_zero, e3]
  rw [if_neg (by simp)]
  simp; omega
theorem textA_tok {t : Tok} {x : List UInt8} (h : textA t = some x) (y : List UInt8) (hy : t.1 = 1 → ∀ c r, y = c :: r → isA c = false) : tokA (x ++ y) = some (t, x.length) := by
  obtain ⟨k, t⟩ := t
  unfold textA at h
  simp only at h hy
  split at h
  · rename_i hk
    subst hk
    split at h
    · rename_i ht
      injection h with h; subst h
      cases t with
      | nil => exact absurd rfl ht.1
      | cons c r =>
        have ha := atomL_all ht.2 y (hy rfl)
        have hc := ht.2
        rw [List.all_cons, Bool.and_eq_true] at hc
        obtain ⟨h1, h2, h3, h4, h5⟩ := isA_not hc.1
        simp only [List.cons_append, tokA] at ha ⊢
        rw [if_neg h1, if_neg h2, if_neg h3, if_neg h4, ha]
        simp
    · cases h
  split at h
  · rename_i hk
    subst hk
    unfold strA at h
    cases hq : quoteL t with
    | some q =>
      rw [hq] at h; simp only at h; injection h with h; subst h
      unfold quoteL at hq
      split at hq
      · rename_i ha
        injection hq with hq; subst hq
        simp only [List.cons_append, List.append_assoc, tokA]
        rw [if_neg (by decide), if_neg (by decide), if_pos trivial, List.nil_append, quoA_esc ha y]
        simp
      · cases hq
    | none =>
      rw [hq] at h; simp only at h
      split at h
      · rename_i hl
        injection h with h; subst h
        have := litA_of t y hl
        simp only [List.cons_append] at this ⊢
        unfold tokA
        simp only
        rw [if_neg (by decide), if_neg (by decide), if_neg (by decide), if_pos trivial, this]
        simp
      · cases h
  split at h
  · rename_i hk
    subst hk
    split at h
    · rename_i ht; injection h with h; subst h ht; simp [tokA]
    · cases h
  split at h
  · rename_i hk
    subst hk
    split at h
    · rename_i ht; injection h with h; subst h ht; simp [tokA]
    · cases h
  · cases h
theorem textA_kind {t : Tok} {x : List UInt8} (h : textA t = some x) : 1 ≤ t.1 ∧ t.1 ≤ 4 := by
  have := textA_tok h [] (fun _ c r hc => by cases hc)
  have := tokA_len this
  omega
theorem textA_head {t : Tok} {x : List UInt8} (h : textA t = some x) : ∃ c r, x = c :: r ∧ c ≠ 32 := by
  obtain ⟨k, t⟩ := t
  unfold textA at h
  simp only at h
  split at h
  · split at h
    · rename_i ht
      injection h with h; subst h
      cases t with
      | nil => exact absurd rfl ht.1
      | cons c r =>
        have hc := ht.2
        rw [List.all_cons, Bool.and_eq_true] at hc
        exact ⟨c, r, rfl, (isA_not hc.1).2.2.2.2⟩
    · cases h
  split at h
  · unfold strA at h
    cases hq : quoteL t with
    | some q =>
      rw [hq] at h; simp only at h; injection h with h; subst h
      unfold quoteL at hq
      split at hq
      · injection hq with hq; subst hq; exact ⟨34, _, rfl, by decide⟩
      · cases hq
    | none =>
      rw [hq] at h; simp only at h
      split at h
      · injection h with h; subst h; exact ⟨123, _, rfl, by decide⟩
      · cases h
  split at h
  · split at h
    · injection h with h; subst h; exact ⟨40, [], rfl, by decide⟩
    · cases h
  split at h
  · split at h
    · injection h with h; subst h; exact ⟨41, [], rfl, by decide⟩
    · cases h
  · cases h
theorem spL_rep (k : Nat) (x : List UInt8) (h : ∃ c r, x = c :: r ∧ c ≠ 32) : spL (List.replicate k 32 ++ x) = k := by
  induction k with
  | zero =>
    obtain ⟨c, r, rfl, hc⟩ := h
    simp [spL, hc]
  | succ k ih => simp [List.replicate_succ, spL, ih]
theorem spL_only (k : Nat) : spL (List.replicate k 32) = k := by
  induction k with
  | zero => rfl
  | succ k ih => simp [List.replicate_succ, spL, ih]
/-- What stands at the beginning of what is written behind a token. -/
theorem writeA_head {l : List Tok} {y : List UInt8} (h : writeA 1 l = some y) : ∀ c r, y = c :: r → isA c = false := by
  intro c r hy
  cases l with
  | nil => simp [writeA] at h; subst h; cases hy
  | cons t l =>
    simp only [writeA] at h
    cases ht : textA t with
    | none => rw [ht] at h; cases h
    | some x =>
      rw [ht] at h
      simp only [Option.map_eq_some_iff] at h
      obtain ⟨z, h1, h2⟩ := h
      by_cases h4 : t.1 = 4
      · have hx : x = [41] := by
          obtain ⟨k, t⟩ := t
          simp only at h4; subst h4
          unfold textA at ht
          simp only at ht
          rw [if_neg (by decide), if_neg (by decide), if_neg (by decide), if_pos trivial] at ht
          split at ht
          · injection ht with ht; exact ht.symm
          · cases ht
        rw [if_neg (by simp [h4]), hx] at h2
        rw [hy] at h2
        injection h2 with h2 _
        subst h2; decide
      · rw [if_pos ⟨by decide, by decide, h4⟩, hy] at h2
        injection h2 with h2 _
        subst h2; decide
/-- Written tokens are told as they are. -/
theorem toks_write : ∀ (l : List Tok) (a : Nat) (y : List UInt8) (n : Nat), a ≤ 4 → writeA a l = some y → y.length < n → toksA n y (if a = 0 then 3 else a) = some l
  | [], a, y, n, ha, h, hn => by
    simp only [writeA] at h
    injection h with h; subst h
    obtain ⟨m, rfl⟩ : ∃ m, n = m + 1 := ⟨n - 1, by simp at hn; omega⟩
    simp [toksA, spL]
  | t :: l, a, y, n, ha, h, hn => by
    simp only [writeA] at h
    cases ht : textA t with
    | none => rw [ht] at h; cases h
    | some x =>
      rw [ht] at h
      simp only [Option.map_eq_some_iff] at h
      obtain ⟨z, h1, rfl⟩ := h
      obtain ⟨m, rfl⟩ : ∃ m, n = m + 1 := ⟨n - 1, by omega⟩
      have hk := textA_kind ht
      have hh := textA_head ht
      have htok := textA_tok ht z (fun h1' => writeA_head (by rw [← h1', h1]))
      have hx := tokA_len htok
      have hhz : ∃ c r, x ++ z = c :: r ∧ c ≠ 32 := by obtain ⟨c, r, rfl, hc⟩ := hh; exact ⟨c, r ++ z, rfl, hc⟩
      unfold toksA
      by_cases hs : a ≠ 0 ∧ a ≠ 3 ∧ t.1 ≠ 4
      · rw [if_pos hs] at hn ⊢
        have hsp : spL ([32] ++ x ++ z) = 1 := by rw [List.append_assoc]; exact spL_rep 1 (x ++ z) hhz
        have hl3 : ([32] ++ x ++ z).length = 1 + (x ++ z).length := by simp; omega
        have hd1 : ([32] ++ x ++ z).drop 1 = x ++ z := by simp
        rw [hsp, if_neg (by omega), hd1, htok]
        simp only
        have hd2 : ([32] ++ x ++ z).drop (1 + x.length) = z := by rw [← List.drop_drop, hd1]; simp
        rw [if_neg (by simp), hd2]
        have ih := toks_write l t.1 z m (by omega) h1 (by simp at hn; omega)
        rw [if_neg (by omega)] at ih
        rw [ih]; rfl
      · rw [if_neg hs] at hn ⊢
        have hsp : spL ([] ++ x ++ z) = 0 := by rw [List.nil_append]; exact spL_rep 0 (x ++ z) hhz
        have hl3 : ([] ++ x ++ z).length = (x ++ z).length := by simp
        have hd1 : ([] ++ x ++ z).drop 0 = x ++ z := by simp
        rw [hsp, if_neg (by omega), hd1, htok]
        simp only
        have hmay : mayT (if a = 0 then 3 else a) t.1 = true := by
          unfold mayT
          rw [decide_eq_true_iff]
          split <;> omega
        have hd2 : ([] ++ x ++ z).drop (0 + x.length) = z := by simp
        rw [if_neg (by rw [hmay]; simp), hd2]
        have ih := toks_write l t.1 z m (by omega) h1 (by simp at hn; omega)
        rw [if_neg (by omega)] at ih
        rw [ih]; rfl
theorem tokens_write {l : List Tok} {y : List UInt8} (h : writeL l = some y) : tokensL y = (l, 0) := by
  unfold writeL at h
  split at h
  · cases h
  · rename_i hl
    have := toks_write l 0 y (y.length + 1) (by omega) h (by omega)
    rw [if_pos rfl] at this
    unfold tokensL
    rw [this]
    simp only
    rw [if_neg hl]
theorem tokens_quote {s q : List UInt8} (h : quoteL s = some q) : tokensL q = ([(2, s)], 0) := by
  apply tokens_write
  unfold writeL
  rw [if_neg (by simp)]
  simp [writeA, textA, strA, h]
/-- Tokens with spaces ahead, between and behind. -/
def gapped (g : Nat) : List (List UInt8) → List UInt8
  | [] => []
  | x :: l => x ++ List.replicate (g + 1) 32 ++ gapped g l
theorem toks_gap (g : Nat) : ∀ (l : List Tok) (xs : List (List UInt8)) (k a n : Nat), l.map textA = xs.map some → (1 ≤ k ∨ a = 3) → k + (gapped g xs).length < n → toksA n (List.replicate k 32 ++ gapped g xs) a = some l
  | [], [], k, a, n, h, hk, hn => by
    obtain ⟨m, rfl⟩ : ∃ m, n = m + 1 := ⟨n - 1, by omega⟩
    simp [toksA, gapped, spL_only]
  | [], x :: xs, k, a, n, h, hk, hn => by simp at h
  | t :: l, [], k, a, n, h, hk, hn => by simp at h
  | t :: l, x :: xs, k, a, n, h, hk, hn => by
    simp only [List.map_cons, List.cons.injEq] at h
    obtain ⟨ht, hl⟩ := h
    obtain ⟨m, rfl⟩ : ∃ m, n = m + 1 := ⟨n - 1, by omega⟩
    have hk' := textA_kind ht
    have hh := textA_head ht
    have htok := textA_tok ht (List.replicate (g + 1) 32 ++ gapped g xs) (fun _ c r hc => by
      rw [List.replicate_succ, List.cons_append] at hc
      injection hc with hc _; subst hc; decide)
    have hx := tokA_len htok
    simp only [gapped] at hn ⊢
    rw [List.append_assoc] at hn ⊢
    have hhz : ∃ c r, x ++ (List.replicate (g + 1) 32 ++ gapped g xs) = c :: r ∧ c ≠ 32 := by obtain ⟨c, r, rfl, hc⟩ := hh; exact ⟨c, _, rfl, hc⟩
    unfold toksA
    have hd1 : (List.replicate k 32 ++ (x ++ (List.replicate (g + 1) 32 ++ gapped g xs))).drop k = x ++ (List.replicate (g + 1) 32 ++ gapped g xs) := List.drop_left' (by simp)
    have hl3 : (List.replicate k (32 : UInt8) ++ (x ++ (List.replicate (g + 1) 32 ++ gapped g xs))).length = k + (x ++ (List.replicate (g + 1) 32 ++ gapped g xs)).length := by simp
    rw [spL_rep k _ hhz, if_neg (by omega), hd1, htok]
    simp only
    rw [if_neg (by
      rintro ⟨h0, h1⟩
      rcases hk with hk | hk
      · omega
      · subst hk; simp [mayT] at h1)]
    have hd2 : (List.replicate k 32 ++ (x ++ (List.replicate (g + 1) 32 ++ gapped g xs))).drop (k + x.length) = List.replicate (g + 1) 32 ++ gapped g xs := by rw [← List.drop_drop, hd1, List.drop_left' rfl]
    rw [hd2]
    rw [toks_gap g l xs (g + 1) t.1 m hl (Or.inl (by omega)) (by simp at hn ⊢; omega)]
    rfl
theorem tokens_gap (g : Nat) (l : List Tok) (xs : List (List UInt8)) (h : l.map textA = xs.map some) (hl : l.length ≤ 4096) : tokensL (List.replicate g 32 ++ gapped g xs) = (l, 0) := by
  unfold tokensL
  rw [toks_gap g l xs g 3 _ h (Or.inr rfl) (by simp)]
  simp only
  rw [if_neg (by omega)]
end Go.Proofs.Lx
