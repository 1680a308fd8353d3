/-
  Sets of numbers as spans: plain mathematics.
-/
set_option linter.unusedVariables false
namespace Go.Proofs.Nst

/-- A span: its two ends. -/
abbrev Sp := Nat × Nat
def endN (most n : Nat) : Nat := if n = 0 then most else n
def ordS (most : Nat) (s : Sp) : Sp := (min (endN most s.1) (endN most s.2), max (endN most s.1) (endN most s.2))
def inB (n : Nat) (s : Sp) : Bool := decide (s.1 ≤ n) && decide (n ≤ s.2)
/-- A number is one of those of plain spans. -/
def memS (n : Nat) (l : List Sp) : Bool := l.any (inB n)
def hasS (most n : Nat) (l : List Sp) : Bool := memS n (l.map (ordS most))
def putS (l : List Sp) (s : Sp) : List Sp := match l.getLast? with
  | none => [s]
  | some b => if b.2 + 1 < s.1 then l ++ [s] else l.dropLast ++ [(b.1, max b.2 s.2)]
/-- Spans that rise and do not touch. -/
structure Apart (l : List Sp) : Prop where
  ok : ∀ s ∈ l, s.1 ≤ s.2
  up : l.Pairwise (fun a b => a.2 + 1 < b.1)

theorem inB_iff {n : Nat} {s : Sp} : inB n s = true ↔ s.1 ≤ n ∧ n ≤ s.2 := by simp [inB]
theorem memS_iff {n : Nat} {l : List Sp} : memS n l = true ↔ ∃ s ∈ l, s.1 ≤ n ∧ n ≤ s.2 := by
  unfold memS
  rw [List.any_eq_true]
  simp only [inB_iff]
theorem memS_nil (n : Nat) : memS n [] = false := rfl
theorem memS_append (n : Nat) (l r : List Sp) : memS n (l ++ r) = (memS n l || memS n r) := by simp [memS]
theorem memS_one (n : Nat) (s : Sp) : memS n [s] = inB n s := by simp [memS]
theorem memS_cons (n : Nat) (s : Sp) (r : List Sp) : memS n (s :: r) = (inB n s || memS n r) := by simp [memS]
theorem bool_ext {a b : Bool} (h : a = true ↔ b = true) : a = b := by cases a <;> cases b <;> simp_all
theorem Apart.tail {a : Sp} {l : List Sp} (h : Apart (a :: l)) : Apart l := ⟨fun s hs => h.ok s (List.mem_cons_of_mem _ hs), (List.pairwise_cons.1 h.up).2⟩
theorem Apart.above {a : Sp} {l : List Sp} (h : Apart (a :: l)) {n : Nat} (hn : memS n l = true) : a.2 + 1 < n := by
  obtain ⟨s, hs, h1, _⟩ := memS_iff.1 hn
  have := (List.pairwise_cons.1 h.up).1 s hs
  omega
/-- Just one list of spans that do not touch has the numbers. -/
theorem apart_unique : ∀ (l r : List Sp), Apart l → Apart r → (∀ n, memS n l = memS n r) → l = r
  | [], [], _, _, _ => rfl
  | [], b :: r, _, hr, h => by
    have h1 := h b.1
    have h2 : memS b.1 (b :: r) = true := memS_iff.2 ⟨b, List.mem_cons_self, Nat.le_refl _, hr.ok b List.mem_cons_self⟩
    rw [h2, memS_nil] at h1
    cases h1
  | a :: l, [], hl, _, h => by
    have h1 := h a.1
    have h2 : memS a.1 (a :: l) = true := memS_iff.2 ⟨a, List.mem_cons_self, Nat.le_refl _, hl.ok a List.mem_cons_self⟩
    rw [h2, memS_nil] at h1
    cases h1
  | a :: l, b :: r, hl, hr, h => by
    have ha := hl.ok a List.mem_cons_self
    have hb := hr.ok b List.mem_cons_self
    have fa : ∀ n, memS n (a :: l) = true ↔ (a.1 ≤ n ∧ n ≤ a.2) ∨ memS n l = true := fun n => by rw [memS_cons, Bool.or_eq_true, inB_iff]
    have fb : ∀ n, memS n (b :: r) = true ↔ (b.1 ≤ n ∧ n ≤ b.2) ∨ memS n r = true := fun n => by rw [memS_cons, Bool.or_eq_true, inB_iff]
    have ab : ∀ n, memS n l = true → a.2 + 1 < n := fun n hn => hl.above hn
    have bb : ∀ n, memS n r = true → b.2 + 1 < n := fun n hn => hr.above hn
    have hh : ∀ n, ((a.1 ≤ n ∧ n ≤ a.2) ∨ memS n l = true) ↔ ((b.1 ≤ n ∧ n ≤ b.2) ∨ memS n r = true) := fun n => by rw [← fa, ← fb, h n]
    have e1 : a.1 = b.1 := by
      have h1 := (hh a.1).1 (.inl ⟨Nat.le_refl _, ha⟩)
      have h2 := (hh b.1).2 (.inl ⟨Nat.le_refl _, hb⟩)
      have h3 : b.1 ≤ a.1 := by rcases h1 with h1 | h1; exact h1.1; have := bb _ h1; omega
      have h4 : a.1 ≤ b.1 := by rcases h2 with h2 | h2; exact h2.1; have := ab _ h2; omega
      omega
    have e2 : a.2 = b.2 := by
      rcases Nat.lt_trichotomy a.2 b.2 with hlt | he | hgt
      · have h1 := (hh (a.2 + 1)).2 (.inl ⟨by omega, by omega⟩)
        rcases h1 with h1 | h1
        · omega
        · have := ab _ h1; omega
      · exact he
      · have h1 := (hh (b.2 + 1)).1 (.inl ⟨by omega, by omega⟩)
        rcases h1 with h1 | h1
        · omega
        · have := bb _ h1; omega
    have hab : a = b := Prod.ext e1 e2
    rw [hab, apart_unique l r hl.tail hr.tail (fun n => by
      apply bool_ext
      constructor
      · intro h1
        have h2 := ab _ h1
        rcases (hh n).1 (.inr h1) with h3 | h3
        · omega
        · exact h3
      · intro h1
        have h2 := bb _ h1
        rcases (hh n).2 (.inr h1) with h3 | h3
        · omega
        · exact h3)]

theorem putS_nil (s : Sp) : putS [] s = [s] := rfl
theorem putS_far {l : List Sp} {b s : Sp} (h : b.2 + 1 < s.1) : putS (l ++ [b]) s = l ++ [b] ++ [s] := by
  unfold putS
  rw [List.getLast?_append]
  simp [h]
theorem putS_near {l : List Sp} {b s : Sp} (h : ¬ b.2 + 1 < s.1) : putS (l ++ [b]) s = l ++ [(b.1, max b.2 s.2)] := by
  unfold putS
  rw [List.getLast?_append]
  simp [h]
theorem snoc_cases (l : List Sp) : l = [] ∨ ∃ r b, l = r ++ [b] := by
  rcases List.eq_nil_or_concat l with h | ⟨r, b, h⟩
  · exact .inl h
  · exact .inr ⟨r, b, by simpa using h⟩
/-- What is put keeps spans apart, and adds just its numbers. -/
theorem putS_apart {l : List Sp} {s : Sp} (hl : Apart l) (hs : s.1 ≤ s.2) (hb : ∀ a ∈ l, a.1 ≤ s.1) : Apart (putS l s) ∧ (∀ n, memS n (putS l s) = (memS n l || inB n s)) ∧ (∀ a ∈ putS l s, a.1 ≤ s.1) := by
  rcases snoc_cases l with rfl | ⟨r, b, rfl⟩
  · refine ⟨⟨fun a ha => ?_, by simp [putS_nil]⟩, fun n => by simp [putS_nil, memS_one, memS_nil], fun a ha => ?_⟩
    · simp [putS_nil] at ha; rw [ha]; exact hs
    · simp [putS_nil] at ha; rw [ha]; exact Nat.le_refl _
  · have hbb := hl.ok b (by simp)
    have hb1 := hb b (by simp)
    obtain ⟨p1, p2, p3⟩ := List.pairwise_append.1 hl.up
    by_cases h : b.2 + 1 < s.1
    · rw [putS_far h]
      refine ⟨⟨fun a ha => ?_, ?_⟩, fun n => by rw [memS_append, memS_one], fun a ha => ?_⟩
      · rcases List.mem_append.1 ha with ha | ha
        · exact hl.ok a ha
        · simp at ha; rw [ha]; exact hs
      · rw [List.pairwise_append]
        refine ⟨hl.up, by simp, fun a ha c hc => ?_⟩
        simp at hc
        subst hc
        rcases List.mem_append.1 ha with ha | ha
        · have := p3 a ha b (by simp); omega
        · simp at ha; rw [ha]; exact h
      · rcases List.mem_append.1 ha with ha | ha
        · exact hb a ha
        · simp at ha; rw [ha]; exact Nat.le_refl _
    · rw [putS_near h]
      refine ⟨⟨fun a ha => ?_, ?_⟩, fun n => ?_, fun a ha => ?_⟩
      · rcases List.mem_append.1 ha with ha | ha
        · exact hl.ok a (by simp [ha])
        · simp at ha; rw [ha]; simp only; omega
      · rw [List.pairwise_append]
        refine ⟨p1, by simp, fun a ha c hc => ?_⟩
        simp at hc
        subst hc
        exact p3 a ha b (by simp)
      · rw [memS_append, memS_one, memS_append, memS_one, Bool.or_assoc]
        congr 1
        apply bool_ext
        rw [Bool.or_eq_true, inB_iff, inB_iff, inB_iff]
        simp only
        omega
      · rcases List.mem_append.1 ha with ha | ha
        · exact hb a (by simp [ha])
        · simp at ha; rw [ha]; exact hb1
/-- Spans put one behind the other, as they rise by their lesser ends. -/
def putAll (l : List Sp) : List Sp := l.foldl putS []
theorem putAll_from : ∀ (r l : List Sp), Apart l → (∀ s ∈ r, s.1 ≤ s.2) → r.Pairwise (fun a b => a.1 ≤ b.1) → (∀ a ∈ l, ∀ s ∈ r, a.1 ≤ s.1) → Apart (r.foldl putS l) ∧ ∀ n, memS n (r.foldl putS l) = (memS n l || memS n r)
  | [], l, hl, _, _, _ => ⟨hl, fun n => by simp [memS_nil]⟩
  | s :: r, l, hl, ho, hp, hb => by
    obtain ⟨h1, h2, h3⟩ := putS_apart hl (ho s List.mem_cons_self) (fun a ha => hb a ha s List.mem_cons_self)
    obtain ⟨q1, q2⟩ := List.pairwise_cons.1 hp
    obtain ⟨h4, h5⟩ := putAll_from r (putS l s) h1 (fun x hx => ho x (List.mem_cons_of_mem _ hx)) q2 (fun a ha x hx => Nat.le_trans (h3 a ha) (q1 x hx))
    refine ⟨h4, fun n => ?_⟩
    rw [List.foldl_cons, h5, h2, memS_cons, Bool.or_assoc]
theorem putAll_ok {r : List Sp} (ho : ∀ s ∈ r, s.1 ≤ s.2) (hp : r.Pairwise (fun a b => a.1 ≤ b.1)) : Apart (putAll r) ∧ ∀ n, memS n (putAll r) = memS n r := by
  obtain ⟨h1, h2⟩ := putAll_from r [] ⟨by simp, by simp⟩ ho hp (by simp)
  exact ⟨h1, fun n => (h2 n).trans (by rw [memS_nil, Bool.false_or])⟩
/-- The spans apart with the numbers of some spans. -/
def apartS (most : Nat) (l : List Sp) : List Sp := putAll ((l.map (ordS most)).mergeSort (fun a b => decide (a.1 ≤ b.1)))
theorem ord_ok (most : Nat) (l : List Sp) : ∀ s ∈ l.map (ordS most), s.1 ≤ s.2 := by
  intro s hs
  obtain ⟨x, _, rfl⟩ := List.mem_map.1 hs
  simp only [ordS]
  omega
theorem memS_perm {l r : List Sp} (h : l.Perm r) (n : Nat) : memS n l = memS n r := by
  apply bool_ext
  rw [memS_iff, memS_iff]
  simp only [h.mem_iff]
theorem apartS_ok (most : Nat) (l : List Sp) : Apart (apartS most l) ∧ ∀ n, memS n (apartS most l) = hasS most n l := by
  have hp := List.mergeSort_perm (l.map (ordS most)) (fun a b => decide (a.1 ≤ b.1))
  have hs := List.pairwise_mergeSort (le := fun (a b : Sp) => decide (a.1 ≤ b.1)) (fun a b c h1 h2 => by simp at *; omega) (fun a b => by simp; omega) (l.map (ordS most))
  obtain ⟨h1, h2⟩ := putAll_ok (fun s h => ord_ok most l s (hp.mem_iff.1 h)) (hs.imp (by intro a b h; simpa using h))
  exact ⟨h1, fun n => (h2 n).trans (memS_perm hp n)⟩
/-- However the spans are sorted, what is put is the same. -/
theorem apartS_sorted {most : Nat} {l r : List Sp} (hp : r.Perm (l.map (ordS most))) (hs : r.Pairwise (fun a b => a.1 ≤ b.1)) : putAll r = apartS most l := by
  obtain ⟨h1, h2⟩ := putAll_ok (fun s h => ord_ok most l s (hp.mem_iff.1 h)) hs
  obtain ⟨h3, h4⟩ := apartS_ok most l
  refine apart_unique _ _ h1 h3 (fun n => ?_)
  rw [h2, h4, memS_perm hp]
  rfl
/-- How many numbers spans have, each counted for itself. -/
def cntS (l : List Sp) : Nat := (l.map (fun s => s.2 - s.1 + 1)).sum
theorem cntS_append (l r : List Sp) : cntS (l ++ r) = cntS l + cntS r := by simp [cntS]
theorem cntS_one (s : Sp) : cntS [s] = s.2 - s.1 + 1 := by simp [cntS]
/-- Numbers as spans. -/
def packS (ns : List Nat) : List Sp := putAll (ns.map (fun n => (n, n)))
theorem packS_snoc (ns : List Nat) (n : Nat) : packS (ns ++ [n]) = putS (packS ns) (n, n) := by simp [packS, putAll, List.foldl_append]
theorem packS_last : ∀ (k : Nat) (ns : List Nat), ns.length = k → ns.Pairwise (· < ·) → cntS (packS ns) = ns.length ∧ (packS ns = [] ↔ ns = []) ∧ (∀ s ∈ packS ns, s.1 ≤ s.2) ∧ ∀ r b m, packS ns = r ++ [b] → ns.getLast? = some m → b.2 = m
  | 0, ns, hk, hp => by
    have h0 : ns = [] := List.length_eq_zero_iff.1 hk
    subst h0
    exact ⟨rfl, by simp [packS, putAll], by simp [packS, putAll], fun r b m h1 h2 => by simp at h2⟩
  | k + 1, ns, hk, hp => by
    obtain ⟨ms, n, rfl⟩ : ∃ ms n, ns = ms ++ [n] := by
      rcases List.eq_nil_or_concat ns with h | ⟨r, b, h⟩
      · rw [h] at hk; simp at hk
      · exact ⟨r, b, by simpa using h⟩
    obtain ⟨p1, _, p3⟩ := List.pairwise_append.1 hp
    obtain ⟨i1, i2, i3, i4⟩ := packS_last k ms (by simp at hk; omega) p1
    rw [packS_snoc]
    rcases snoc_cases (packS ms) with h | ⟨r, b, h⟩
    · rw [h, putS_nil]
      have hms := i2.1 h
      subst hms
      refine ⟨by simp [cntS], by simp, by simp, fun r b m h1 h2 => ?_⟩
      simp at h2
      subst h2
      rcases r with _ | ⟨c, r⟩
      · simp at h1; rw [← h1]
      · simp at h1
    · have hb := i3 b (by rw [h]; simp)
      obtain ⟨m, hm⟩ : ∃ m, ms.getLast? = some m := by
        cases hh : ms.getLast? with
        | none => rw [List.getLast?_eq_none_iff] at hh; rw [i2.2 hh] at h; simp at h
        | some m => exact ⟨m, rfl⟩
      have hbm := i4 r b m h hm
      have hlt : m < n := p3 m (List.mem_of_getLast? hm) n (by simp)
      rw [h] at i1 i3 ⊢
      by_cases hf : b.2 + 1 < n
      · rw [putS_far hf]
        refine ⟨by rw [cntS_append, i1, cntS_one]; simp, by simp, fun s hs => ?_, fun r' b' m' h1 h2 => ?_⟩
        · rcases List.mem_append.1 hs with hs | hs
          · exact i3 s hs
          · simp at hs; rw [hs]; exact Nat.le_refl _
        · simp at h2
          have := List.append_inj' h1 rfl
          simp at this
          rw [← this.2, ← h2]
      · rw [putS_near hf]
        rw [cntS_append, cntS_one] at i1
        refine ⟨by rw [cntS_append, cntS_one]; simp; omega, by simp, fun s hs => ?_, fun r' b' m' h1 h2 => ?_⟩
        · rcases List.mem_append.1 hs with hs | hs
          · exact i3 s (by simp [hs])
          · simp at hs; rw [hs]; simp only; omega
        · simp at h2
          have := List.append_inj' h1 rfl
          simp at this
          rw [← this.2, ← h2]
          simp only
          omega
theorem packS_cnt {ns : List Nat} (h : ns.Pairwise (· < ·)) : cntS (packS ns) = ns.length := (packS_last _ ns rfl h).1
theorem packS_ok {ns : List Nat} (h : ns.Pairwise (· < ·)) : Apart (packS ns) ∧ ∀ n, memS n (packS ns) = decide (n ∈ ns) := by
  obtain ⟨h1, h2⟩ := putAll_ok (r := ns.map (fun n => (n, n))) (fun s hs => by obtain ⟨x, _, rfl⟩ := List.mem_map.1 hs; exact Nat.le_refl _)
    (List.pairwise_map.2 (h.imp (fun hh => Nat.le_of_lt hh)))
  refine ⟨h1, fun n => (h2 n).trans ?_⟩
  apply bool_ext
  rw [memS_iff, decide_eq_true_eq]
  constructor
  · rintro ⟨s, hs, h3, h4⟩
    obtain ⟨x, hx, rfl⟩ := List.mem_map.1 hs
    simp only at h3 h4
    have : n = x := by omega
    rw [this]; exact hx
  · intro hn
    exact ⟨(n, n), List.mem_map.2 ⟨n, hn, rfl⟩, Nat.le_refl _, Nat.le_refl _⟩
/-- Ends that stand for themselves. -/
theorem ord_self {most : Nat} {s : Sp} (h : s.1 ≤ s.2) (h0 : most = 0 ∨ 1 ≤ s.1) : ordS most s = s := by
  unfold ordS endN
  apply Prod.ext
  · simp only
    split <;> split <;> omega
  · simp only
    split <;> split <;> omega
theorem map_self {most : Nat} {l : List Sp} (h : ∀ s ∈ l, s.1 ≤ s.2) (h0 : most = 0 ∨ ∀ s ∈ l, 1 ≤ s.1) : l.map (ordS most) = l := by
  have : l.map (ordS most) = l.map id := List.map_congr_left (fun s hs => ord_self (h s hs) (h0.imp id (fun h => h s hs)))
  rw [this, List.map_id]
theorem apartS_self {most : Nat} {l : List Sp} (h : Apart l) (h0 : most = 0 ∨ ∀ s ∈ l, 1 ≤ s.1) : apartS most l = l ∧ ∀ n, hasS most n l = memS n l := by
  have hm := map_self h.ok h0
  obtain ⟨h1, h2⟩ := apartS_ok most l
  have h3 : ∀ n, hasS most n l = memS n l := fun n => by unfold hasS; rw [hm]
  exact ⟨apart_unique _ _ h1 h (fun n => by rw [h2, h3]), h3⟩
theorem Apart.pos {l : List Sp} {a : Sp} {r : List Sp} (h : Apart l) (he : l = a :: r) (ha : 1 ≤ a.1) : ∀ s ∈ l, 1 ≤ s.1 := by
  subst he
  intro s hs
  rcases List.mem_cons.1 hs with rfl | hs
  · exact ha
  · have := (List.pairwise_cons.1 h.up).1 s hs
    omega
/-- 0 is among the numbers only where it is the greatest. -/
theorem zero_most {most : Nat} {l : List Sp} (h : hasS most 0 l = true) : most = 0 := by
  obtain ⟨s, hs, h1, _⟩ := memS_iff.1 h
  obtain ⟨x, _, rfl⟩ := List.mem_map.1 hs
  unfold ordS endN at h1
  simp only at h1
  split at h1 <;> split at h1 <;> omega
theorem putS_len (l : List Sp) (s : Sp) : (putS l s).length ≤ l.length + 1 := by
  rcases snoc_cases l with rfl | ⟨r, b, rfl⟩
  · simp [putS_nil]
  · by_cases h : b.2 + 1 < s.1
    · rw [putS_far h]; simp
    · rw [putS_near h]; simp
theorem putAll_len (r : List Sp) : ∀ l : List Sp, (r.foldl putS l).length ≤ l.length + r.length := by
  induction r with
  | nil => intro l; simp
  | cons s r ih => intro l; rw [List.foldl_cons, List.length_cons]; have := ih (putS l s); have := putS_len l s; omega
theorem apartS_len (most : Nat) (l : List Sp) : (apartS most l).length ≤ l.length := by
  have := putAll_len ((l.map (ordS most)).mergeSort (fun a b => decide (a.1 ≤ b.1))) []
  simpa [apartS, putAll] using this
/-- Ends are no greater than those that are told. -/
theorem memS_fit {l : List Sp} {M : Nat} (h : ∀ s ∈ l, s.2 ≤ M) (n : Nat) (hn : memS n l = true) : n ≤ M := by
  obtain ⟨s, hs, _, h2⟩ := memS_iff.1 hn
  have := h s hs
  omega
theorem apartS_fit {most : Nat} {l : List Sp} {M : Nat} (hm : most ≤ M) (h : ∀ s ∈ l, s.1 ≤ M ∧ s.2 ≤ M) : ∀ s ∈ apartS most l, s.1 ≤ M ∧ s.2 ≤ M := by
  obtain ⟨h1, h2⟩ := apartS_ok most l
  intro s hs
  have h3 := h1.ok s hs
  have h4 : memS s.2 (apartS most l) = true := memS_iff.2 ⟨s, hs, h3, Nat.le_refl _⟩
  rw [h2] at h4
  have h5 := memS_fit (l := l.map (ordS most)) (M := M) (fun x hx => by
    obtain ⟨y, hy, rfl⟩ := List.mem_map.1 hx
    have := h y hy
    unfold ordS endN
    simp only
    split <;> split <;> omega) s.2 h4
  omega
end Go.Proofs.Nst
