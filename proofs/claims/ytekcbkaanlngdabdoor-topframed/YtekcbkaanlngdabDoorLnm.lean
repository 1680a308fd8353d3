/-
  Lists that rise, as bytes, in plain mathematics: the bytes of a list, the list that bytes begin with, and that the two are each other's way back.
-/
import Derived.Test.YtekcbkaanlngdabDoorNum
namespace Go.Proofs.Num

/-- The bytes of numbers that rise, the first one at least 'least': of each one how many numbers are between. -/
def gaps (least : Nat) : List Nat → Option (List UInt8)
  | [] => some []
  | n :: r => if n < least then none else (gaps (n + 1) r).map (putL (n - least) ++ ·)

/-- A list's bytes and the error's number. -/
def listR (l : List Nat) : List UInt8 × Nat :=
  if 65536 < l.length then ([], 1) else match gaps 0 l with
    | none => ([], 12)
    | some b => (putL l.length ++ b, 0)

/-- c numbers, the first one at least 'least', read from bytes: the numbers and how many bytes they have, or the error's number. -/
def readGaps : Nat → Nat → List UInt8 → Except Nat (List Nat × Nat)
  | 0, _, _ => .ok ([], 0)
  | c + 1, least, s =>
    if (scanL s).2.2 ≠ 0 then .error (scanL s).2.2
    else if 4294967295 < (scanL s).1 ∨ 4294967295 < least + (scanL s).1 then .error 7
    else match readGaps c (least + (scanL s).1 + 1) (s.drop (scanL s).2.1) with
      | .error e => .error e
      | .ok (l, k) => .ok ((least + (scanL s).1) :: l, (scanL s).2.1 + k)

/-- The list that bytes begin with, and how many bytes it has, or the error's number. -/
def readR (s : List UInt8) : Except Nat (List Nat × Nat) :=
  if (scanL s).2.2 ≠ 0 then .error (scanL s).2.2
  else if 65536 < (scanL s).1 then .error 1
  else match readGaps (scanL s).1 0 (s.drop (scanL s).2.1) with
    | .error e => .error e
    | .ok (l, k) => .ok (l, (scanL s).2.1 + k)

/-- What is read so far, and what will be. -/
def after (acc : List Nat) (at_ : Nat) : Except Nat (List Nat × Nat) → Except Nat (List Nat × Nat)
  | .error e => .error e
  | .ok (l, k) => .ok (acc ++ l, at_ + k)

theorem after_nil (r : Except Nat (List Nat × Nat)) (k : Nat) : after [] k r = match r with
    | .error e => .error e
    | .ok (l, j) => .ok (l, k + j) := by
  cases r <;> rfl

theorem after_step (acc : List Nat) (a least c : Nat) (s : List UInt8) (h0 : (scanL s).2.2 = 0) (h1 : ¬ (4294967295 < (scanL s).1 ∨ 4294967295 < least + (scanL s).1)) :
    after acc a (readGaps (c + 1) least s) = after (acc ++ [least + (scanL s).1]) (a + (scanL s).2.1) (readGaps c (least + (scanL s).1 + 1) (s.drop (scanL s).2.1)) := by
  rw [readGaps, if_neg (by simp [h0]), if_neg h1]
  cases readGaps c (least + (scanL s).1 + 1) (s.drop (scanL s).2.1) with
  | error e => rfl
  | ok p => simp [after, Nat.add_assoc]

/-- The bytes of a list are read as it, whatever stands behind them. -/
theorem readGaps_gaps (r : List UInt8) : ∀ (l : List Nat) (least : Nat) (b : List UInt8), (∀ n ∈ l, n ≤ 4294967295) → gaps least l = some b →
    readGaps l.length least (b ++ r) = .ok (l, b.length) := by
  intro l
  induction l with
  | nil => intro least b _ h; simp [gaps] at h; subst h; rfl
  | cons n l ih =>
    intro least b hl h
    simp only [gaps] at h
    by_cases hn : n < least
    · simp [hn] at h
    · rw [if_neg hn] at h
      obtain ⟨b', hb', rfl⟩ := Option.map_eq_some_iff.1 h
      have hn32 : n ≤ 4294967295 := hl n (by simp)
      have hs : scanL (putL (n - least) ++ b' ++ r) = (n - least, (putL (n - least)).length, 0) := by rw [List.append_assoc]; exact scanL_put _ _ (by omega)
      rw [List.length_cons, readGaps, hs]
      simp only
      rw [if_neg (by simp), if_neg (by omega), show least + (n - least) = n by omega, List.append_assoc, List.drop_left', ih (n + 1) b' (fun m hm => hl m (by simp [hm])) hb']
      · simp
      · rfl

theorem readR_listR (l : List Nat) (b r : List UInt8) (hl : ∀ n ∈ l, n ≤ 4294967295) (h : listR l = (b, 0)) : readR (b ++ r) = .ok (l, b.length) := by
  unfold listR at h
  by_cases h6 : 65536 < l.length
  · simp [h6] at h
  · rw [if_neg h6] at h
    cases hg : gaps 0 l with
    | none => simp [hg] at h
    | some g =>
      simp [hg] at h
      subst h
      have hs : scanL (putL l.length ++ g ++ r) = (l.length, (putL l.length).length, 0) := by rw [List.append_assoc]; exact scanL_put _ _ (by omega)
      unfold readR
      rw [hs]
      simp only
      rw [if_neg (by simp), if_neg h6, List.append_assoc, List.drop_left', readGaps_gaps r l 0 g hl hg]
      · simp
      · rfl

/-- What is read rises, and has its bytes. -/
theorem readGaps_ok : ∀ (c least : Nat) (s : List UInt8) (l : List Nat) (k : Nat), readGaps c least s = .ok (l, k) →
    l.length = c ∧ gaps least l = some (s.take k) ∧ k ≤ s.length ∧ ∀ n ∈ l, n ≤ 4294967295 := by
  intro c
  induction c with
  | zero =>
    intro least s l k h
    simp [readGaps] at h
    obtain ⟨rfl, rfl⟩ := h
    simp [gaps]
  | succ c ih =>
    intro least s l k h
    rw [readGaps] at h
    by_cases h0 : (scanL s).2.2 ≠ 0
    · rw [if_pos h0] at h; simp at h
    · rw [if_neg h0] at h
      by_cases h1 : 4294967295 < (scanL s).1 ∨ 4294967295 < least + (scanL s).1
      · rw [if_pos h1] at h; simp at h
      · rw [if_neg h1] at h
        obtain ⟨m, j, hmj⟩ : ∃ m j, scanL s = (m, j, 0) := ⟨(scanL s).1, (scanL s).2.1, by
          have : (scanL s).2.2 = 0 := by simpa using h0
          rw [← this]⟩
        rw [hmj] at h h1
        simp only at h h1
        obtain ⟨hs, hj, hm, _⟩ := scanL_ok hmj
        cases hr : readGaps c (least + m + 1) (s.drop j) with
        | error e => rw [hr] at h; simp at h
        | ok p =>
          obtain ⟨l', k'⟩ := p
          rw [hr] at h
          simp only [Except.ok.injEq, Prod.mk.injEq] at h
          obtain ⟨rfl, rfl⟩ := h
          obtain ⟨i1, i2, i3, i4⟩ := ih _ _ _ _ hr
          have hsl : j ≤ s.length := by
            have := congrArg List.length hs
            simp at this
            have := putL_pos m
            omega
          have htake : s.take (j + k') = putL m ++ (s.drop j).take k' := by
            have hjt : s.take j = putL m := by rw [hs, hj, List.take_left']; rfl
            rw [List.take_add, hjt]
          refine ⟨by simp [i1], ?_, ?_, ?_⟩
          · rw [gaps, if_neg (by omega), i2, htake]
            simp
          · simp at i3; omega
          · intro n hn
            rcases List.mem_cons.1 hn with rfl | hn
            · omega
            · exact i4 n hn

theorem readR_ok {s : List UInt8} {l : List Nat} {k : Nat} (h : readR s = .ok (l, k)) :
    listR l = (s.take k, 0) ∧ k ≤ s.length ∧ (∀ n ∈ l, n ≤ 4294967295) ∧ l.length ≤ 65536 ∧ ∃ b, gaps 0 l = some b := by
  unfold readR at h
  by_cases h0 : (scanL s).2.2 ≠ 0
  · rw [if_pos h0] at h; simp at h
  · rw [if_neg h0] at h
    by_cases h1 : 65536 < (scanL s).1
    · rw [if_pos h1] at h; simp at h
    · rw [if_neg h1] at h
      obtain ⟨m, j, hmj⟩ : ∃ m j, scanL s = (m, j, 0) := ⟨(scanL s).1, (scanL s).2.1, by
        have : (scanL s).2.2 = 0 := by simpa using h0
        rw [← this]⟩
      rw [hmj] at h h1
      simp only at h h1
      obtain ⟨hs, hj, hm, _⟩ := scanL_ok hmj
      cases hr : readGaps m 0 (s.drop j) with
      | error e => rw [hr] at h; simp at h
      | ok p =>
        obtain ⟨l', k'⟩ := p
        rw [hr] at h
        simp only [Except.ok.injEq, Prod.mk.injEq] at h
        obtain ⟨rfl, rfl⟩ := h
        obtain ⟨i1, i2, i3, i4⟩ := readGaps_ok _ _ _ _ _ hr
        have hsl : j ≤ s.length := by
          have := congrArg List.length hs
          simp at this
          have := putL_pos m
          omega
        have htake : s.take (j + k') = putL m ++ (s.drop j).take k' := by
          have hjt : s.take j = putL m := by rw [hs, hj, List.take_left']; rfl
          rw [List.take_add, hjt]
        refine ⟨?_, ?_, i4, by omega, ⟨_, i2⟩⟩
        · unfold listR
          rw [if_neg (by omega), i2, i1, htake]
        · simp at i3; omega

theorem readGaps_err : ∀ (c least : Nat) (s : List UInt8) (e : Nat), readGaps c least s = .error e → e = 5 ∨ e = 7 := by
  intro c
  induction c with
  | zero => intro least s e h; simp [readGaps] at h
  | succ c ih =>
    intro least s e h
    rw [readGaps] at h
    by_cases h0 : (scanL s).2.2 ≠ 0
    · rw [if_pos h0] at h
      simp at h
      rcases scanL_no s with h' | h' | h'
      · exact absurd h' h0
      · rw [h'] at h; exact Or.inl h.symm
      · rw [h'] at h; exact Or.inr h.symm
    · rw [if_neg h0] at h
      split at h
      · simp at h; exact Or.inr h.symm
      · split at h
        · rename_i e' hr
          simp at h
          subst h
          exact ih _ _ _ hr
        · simp at h

theorem readR_err {s : List UInt8} {e : Nat} (h : readR s = .error e) : e ≠ 0 ∧ e ≤ 7 := by
  unfold readR at h
  by_cases h0 : (scanL s).2.2 ≠ 0
  · rw [if_pos h0] at h
    simp at h
    rcases scanL_no s with h' | h' | h'
    · exact absurd h' h0
    · rw [h'] at h; simp at h; omega
    · rw [h'] at h; simp at h; omega
  · rw [if_neg h0] at h
    split at h
    · simp at h; omega
    · split at h
      · rename_i e' hr
        simp at h
        subst h
        have := readGaps_err _ _ _ _ hr
        omega
      · simp at h

/-- Numbers with bytes rise. -/
theorem gaps_rise : ∀ (l : List Nat) (least : Nat) (b : List UInt8), gaps least l = some b → (∀ n ∈ l, least ≤ n) ∧ ∀ i (h : i + 1 < l.length), l[i] < l[i + 1] := by
  intro l
  induction l with
  | nil => intro least b _; simp
  | cons n l ih =>
    intro least b h
    simp only [gaps] at h
    by_cases hn : n < least
    · simp [hn] at h
    · rw [if_neg hn] at h
      obtain ⟨b', hb', _⟩ := Option.map_eq_some_iff.1 h
      obtain ⟨h1, h2⟩ := ih _ _ hb'
      refine ⟨?_, ?_⟩
      · intro m hm
        rcases List.mem_cons.1 hm with rfl | hm
        · omega
        · have := h1 m hm; omega
      · intro i hi
        cases i with
        | zero =>
          have := h1 (l[0]'(by simp at hi; omega)) (List.getElem_mem _)
          simp only [List.getElem_cons_zero, List.getElem_cons_succ]
          omega
        | succ i =>
          simp only [List.getElem_cons_succ]
          exact h2 i (by simp at hi; omega)

theorem gaps_length : ∀ (l : List Nat) (least : Nat) (b : List UInt8), (∀ n ∈ l, n ≤ 4294967295) → gaps least l = some b → b.length ≤ 10 * l.length := by
  intro l
  induction l with
  | nil => intro least b _ h; simp [gaps] at h; subst h; simp
  | cons n l ih =>
    intro least b hl h
    simp only [gaps] at h
    by_cases hn : n < least
    · simp [hn] at h
    · rw [if_neg hn] at h
      obtain ⟨b', hb', rfl⟩ := Option.map_eq_some_iff.1 h
      have := ih _ _ (fun m hm => hl m (by simp [hm])) hb'
      have h32 := hl n (by simp)
      have := putL_len10 (n := n - least) (by omega)
      simp
      omega
end Go.Proofs.Num
