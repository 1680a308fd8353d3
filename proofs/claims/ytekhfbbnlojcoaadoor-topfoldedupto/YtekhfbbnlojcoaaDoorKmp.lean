/-
  Looking for a list in numbers that come one by one, in plain mathematics: with how many of the list the numbers so far end, and what that is behind the next one.
-/
namespace Go.Proofs.Kmp

/-- As many of p as k are what t ends with. -/
def Bor (p t : List Int) (k : Nat) : Prop := k ≤ p.length ∧ p.take k <:+ t
/-- No more of p than h are what t ends with. -/
def Top (p t : List Int) (h : Nat) : Prop := Bor p t h ∧ ∀ k, Bor p t k → k ≤ h
/-- Where to go on, of each place below m. -/
def Back (p : List Int) (back : List Nat) (m : Nat) : Prop := ∀ i, i < m → ∃ b, back[i]? = some b ∧ Top p ((p.take (i + 1)).drop 1) b

theorem suffix_of_both {a b t : List Int} (ha : a <:+ t) (hb : b <:+ t) (h : a.length ≤ b.length) : a <:+ b :=
  List.suffix_of_suffix_length_le ha hb h
theorem bor_zero (p t : List Int) : Bor p t 0 := ⟨Nat.zero_le _, by simp⟩
theorem top_nil (p : List Int) : Top p [] 0 := by
  refine ⟨bor_zero p _, fun k hk => ?_⟩
  have h1 := hk.1
  have := hk.2.length_le
  rw [List.length_take, List.length_nil] at this
  omega
theorem top_le {p t : List Int} {h : Nat} (ht : Top p t h) : h ≤ p.length := ht.1.1
theorem top_len {p t : List Int} {h : Nat} (ht : Top p t h) : h ≤ t.length := by
  have := ht.1.2.length_le
  have h1 := ht.1.1
  simp at this
  omega
theorem back_lt {p : List Int} {i b : Nat} (ht : Top p ((p.take (i + 1)).drop 1) b) : b ≤ i := by
  have := top_len ht
  simp at this
  omega

/-- Those below h that t ends with are those that the first h of p end with. -/
theorem bor_down {p t : List Int} {h k : Nat} (hh : Bor p t h) (hk : Bor p t k) (hlt : k < h) : Bor p ((p.take h).drop 1) k := by
  have h1 := hh.1
  refine ⟨hk.1, ?_⟩
  have hs : p.take k <:+ p.take h := suffix_of_both hk.2 hh.2 (by simp; omega)
  refine suffix_of_both hs (List.drop_suffix _ _) ?_
  simp
  omega
theorem bor_up {p t : List Int} {h k : Nat} (hh : Bor p t h) (hk : Bor p ((p.take h).drop 1) k) : Bor p t k :=
  ⟨hk.1, (hk.2.trans (List.drop_suffix _ _)).trans hh.2⟩

/-- One number more: what it may be. -/
theorem bor_snoc {p t : List Int} {n : Int} {k : Nat} : Bor p (t ++ [n]) (k + 1) ↔ Bor p t k ∧ p[k]? = some n := by
  constructor
  · rintro ⟨h1, h2⟩
    have hk : k < p.length := by omega
    rw [List.take_succ_eq_append_getElem hk] at h2
    have e : p[k] = n := by
      obtain ⟨s, hs⟩ := h2
      rw [← List.append_assoc] at hs
      have := (List.append_inj' hs rfl).2
      simpa using this
    refine ⟨⟨by omega, ?_⟩, by rw [List.getElem?_eq_getElem hk, e]⟩
    obtain ⟨s, hs⟩ := h2
    rw [← List.append_assoc] at hs
    exact ⟨s, (List.append_inj' hs rfl).1⟩
  · rintro ⟨⟨h1, s, hs⟩, h3⟩
    obtain ⟨hk, e⟩ := List.getElem?_eq_some_iff.mp h3
    refine ⟨hk, s, ?_⟩
    rw [List.take_succ_eq_append_getElem hk, e, ← List.append_assoc, hs]

/-- While it is looked for where to go on: all above h that t ends with go on with another number. -/
def Look (p t : List Int) (n : Int) (h : Nat) : Prop := Bor p t h ∧ ∀ k, Bor p t k → h < k → p[k]? ≠ some n
theorem look_start {p t : List Int} {n : Int} {h : Nat} (ht : Top p t h) : Look p t n h :=
  ⟨ht.1, fun k hk hlt => absurd (ht.2 k hk) (by omega)⟩
theorem look_down {p t : List Int} {n : Int} {h b : Nat} (hl : Look p t n h) (h0 : 0 < h) (hb : Top p ((p.take (h - 1 + 1)).drop 1) b) (hne : p[h]? ≠ some n) : Look p t n b ∧ b < h := by
  have e : h - 1 + 1 = h := by omega
  rw [e] at hb
  have hbt := bor_up hl.1 hb.1
  have hlt : b < h := by
    have := top_len hb
    simp at this
    omega
  refine ⟨⟨hbt, fun k hk hlt => ?_⟩, hlt⟩
  by_cases h1 : h < k
  · exact hl.2 k hk h1
  · by_cases h2 : k = h
    · subst h2; exact hne
    · have := hb.2 k (bor_down hl.1 hk (by omega))
      omega
theorem look_hit {p t : List Int} {n : Int} {h : Nat} (hl : Look p t n h) (he : p[h]? = some n) : Top p (t ++ [n]) (h + 1) := by
  refine ⟨bor_snoc.mpr ⟨hl.1, he⟩, fun k hk => ?_⟩
  match k with
  | 0 => omega
  | k + 1 =>
    obtain ⟨h1, h2⟩ := bor_snoc.mp hk
    by_cases h3 : h < k
    · exact absurd h2 (hl.2 k h1 h3)
    · omega
theorem look_miss {p t : List Int} {n : Int} (hl : Look p t n 0) (he : p[0]? ≠ some n) : Top p (t ++ [n]) 0 := by
  refine ⟨bor_zero _ _, fun k hk => ?_⟩
  match k with
  | 0 => omega
  | k + 1 =>
    obtain ⟨h1, h2⟩ := bor_snoc.mp hk
    match k with
    | 0 => exact absurd h2 he
    | k + 1 => exact absurd h2 (hl.2 _ h1 (by omega))
theorem top_full {p t : List Int} {h : Nat} (ht : Top p t h) : decide (h = p.length) = decide (p <:+ t) := by
  apply decide_eq_decide.mpr
  constructor
  · intro e
    have := ht.1.2
    rw [e, List.take_length] at this
    exact this
  · intro hs
    have := ht.2 p.length ⟨Nat.le_refl _, by rwa [List.take_length]⟩
    have := ht.1.1
    omega

/-- How many of t's beginnings, those of at least k numbers, p ends. -/
def cnt (p t : List Int) : List Int → Nat
  | [] => 0
  | n :: r => (if p <:+ t ++ [n] then 1 else 0) + cnt p (t ++ [n]) r
theorem cnt_le (p : List Int) : ∀ (r t : List Int), cnt p t r ≤ r.length
  | [], _ => Nat.le_refl _
  | n :: r, t => by
    have := cnt_le p r (t ++ [n])
    simp only [cnt, List.length_cons]
    split <;> omega
/-- The same, up to a place. -/
theorem cnt_snoc (p : List Int) : ∀ (r t : List Int) (n : Int), cnt p t (r ++ [n]) = cnt p t r + (if p <:+ t ++ r ++ [n] then 1 else 0)
  | [], t, n => by simp [cnt]
  | m :: r, t, n => by
    simp only [List.cons_append, cnt]
    rw [cnt_snoc p r (t ++ [m]) n]
    simp only [List.append_assoc, List.cons_append, List.nil_append]
    omega
/-- At how many places something stands, from one place on: by definition. -/
def places (p : List Int) : List Int → Nat
  | [] => if p = [] then 1 else 0
  | n :: r => (if p <+: n :: r then 1 else 0) + places p r
theorem places_nil : ∀ l : List Int, places [] l = l.length + 1
  | [] => rfl
  | n :: r => by simp [places, places_nil r]; omega
theorem places_short (p : List Int) : ∀ l : List Int, l.length < p.length → places p l = 0
  | [], h => by
    have : p ≠ [] := by rintro rfl; simp at h
    simp [places, this]
  | n :: r, h => by
    simp only [List.length_cons] at h
    rw [places, places_short p r (by omega), if_neg]
    intro hp
    have := hp.length_le
    simp only [List.length_cons] at this
    omega
theorem places_snoc (p : List Int) (hp : p ≠ []) : ∀ (l : List Int) (n : Int), places p (l ++ [n]) = places p l + (if p <:+ l ++ [n] then 1 else 0)
  | [], n => by
    simp only [List.nil_append, places, if_neg hp]
    have : (p <+: [n]) ↔ (p <:+ [n]) := by
      constructor
      · intro h
        have e : p = [n] := by
          have hl := h.length_le
          exact h.eq_of_length (by cases p with | nil => exact absurd rfl hp | cons a q => simp at hl ⊢; simp [hl])
        rw [e]; exact List.suffix_refl _
      · intro h
        have e : p = [n] := by
          have hl := h.length_le
          exact h.eq_of_length (by cases p with | nil => exact absurd rfl hp | cons a q => simp at hl ⊢; simp [hl])
        rw [e]; exact List.prefix_refl _
    simp only [this]
    omega
  | m :: l, n => by
    simp only [List.cons_append, places]
    rw [places_snoc p hp l n]
    by_cases hw : p.length = (m :: (l ++ [n])).length
    · have e1 : (p <+: m :: (l ++ [n])) ↔ p = m :: (l ++ [n]) := ⟨fun h => h.eq_of_length hw, fun h => h ▸ List.prefix_refl _⟩
      have e2 : (p <:+ m :: (l ++ [n])) ↔ p = m :: (l ++ [n]) := ⟨fun h => h.eq_of_length hw, fun h => h ▸ List.suffix_refl _⟩
      have e3 : ¬ (p <+: m :: l) := fun h => by have := h.length_le; simp at this hw; omega
      have e4 : ¬ (p <:+ l ++ [n]) := fun h => by have := h.length_le; simp at this hw; omega
      simp only [e1, e2, e3, e4, if_false]
      omega
    · have e1 : (p <+: m :: (l ++ [n])) ↔ (p <+: m :: l) := by
        constructor
        · intro h
          have hl := h.length_le
          exact List.prefix_of_prefix_length_le h ⟨[n], by simp⟩ (by simp at hl hw ⊢; omega)
        · intro h
          exact h.trans ⟨[n], by simp⟩
      have e2 : (p <:+ m :: (l ++ [n])) ↔ (p <:+ l ++ [n]) := by
        constructor
        · intro h
          have hl := h.length_le
          exact List.suffix_of_suffix_length_le h (List.suffix_cons _ _) (by simp at hl hw ⊢; omega)
        · intro h
          exact h.trans (List.suffix_cons _ _)
      simp only [e1, e2]
      omega
theorem cnt_places (p : List Int) (hp : p ≠ []) : ∀ (r t : List Int), cnt p t r + places p t = places p (t ++ r)
  | [], t => by simp [cnt]
  | n :: r, t => by
    have h1 := cnt_places p hp r (t ++ [n])
    rw [places_snoc p hp t n] at h1
    simp only [cnt]
    rw [show t ++ n :: r = t ++ [n] ++ r by simp, ← h1]
    omega
theorem places_zero (p : List Int) (hp : p ≠ []) : places p [] = 0 := by simp [places, hp]
theorem cnt_all (p l : List Int) (hp : p ≠ []) : cnt p [] l = places p l := by
  have := cnt_places p hp l []
  rw [places_zero p hp] at this
  simpa using this
theorem places_pos (p : List Int) : ∀ l : List Int, 0 < places p l ↔ p <:+: l
  | [] => by
    simp only [places]
    constructor
    · intro h
      split at h
      · rename_i e; subst e; exact List.infix_refl _
      · omega
    · intro h
      have : p = [] := by simpa using h
      rw [if_pos this]; omega
  | n :: r => by
    have ih := places_pos p r
    simp only [places]
    constructor
    · intro h
      split at h
      · rename_i e; exact e.isInfix
      · have := ih.mp (by omega)
        exact this.trans (List.suffix_cons _ _).isInfix
    · intro h
      rcases List.infix_cons_iff.mp h with h | h
      · rw [if_pos h]; omega
      · have := ih.mpr h; omega
/-- More of it stands no oftener. -/
theorem places_more (p : List Int) (m : Int) : ∀ l : List Int, places (p ++ [m]) l ≤ places p l
  | [] => by simp [places]
  | n :: r => by
    have := places_more p m r
    simp only [places]
    by_cases h : p ++ [m] <+: n :: r
    · rw [if_pos h, if_pos ((List.prefix_append _ _).trans h)]; omega
    · rw [if_neg h]; omega
end Go.Proofs.Kmp
