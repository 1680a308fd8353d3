/-
  Tokens that are written are told as they are, and so are tokens with more spaces: plain mathematics.
-/
import Derived.Test.YtafegjbhaofgiaaDoorLxt
set_option linter.unusedVariables false
set_option linter.unusedSimpArgs false
namespace Go.Proofs.Lx

theorem decL_small {u : Nat} (h : u < 10) : decL u = [UInt8.ofNat (48 + u)] := Lib.decDigits_one h
theorem decL_big {u : Nat} (h : ¬ u < 10) : decL u = decL (u / 10) ++ [UInt8.ofNat (48 + u % 10)] := by rw [decL, Lib.decDigits, dif_neg h]
theorem digs_snoc : ∀ (l : List UInt8) (c : UInt8) (n : Nat), digs (l ++ [c]) n = (digs l n).bind fun m => digs [c] m
  | [], c, n => rfl
  | d :: l, c, n => by
    simp only [List.cons_append, digs]
    split
    · rw [digs_snoc l c _]; rfl
    · rfl
theorem nat48 {k : Nat} (h : k < 10) : (UInt8.ofNat (48 + k)).toNat = 48 + k := by simp; omega
theorem digs_one {k : Nat} (h : k < 10) (n : Nat) : digs [UInt8.ofNat (48 + k)] n = some (10 * n + k) := by
  simp only [digs, nat48 h]
  rw [if_pos (by omega)]; congr 1; omega
theorem digs_dec (u : Nat) : digs (decL u) 0 = some u := by
  induction u using Nat.strongRecOn with
  | _ u ih =>
    by_cases h : u < 10
    · rw [decL_small h, digs_one h]; simp
    · rw [decL_big h, digs_snoc, ih (u / 10) (by omega), Option.bind_some, digs_one (by omega)]
      congr 1; omega
theorem decL_ne (u : Nat) : decL u ≠ [] := by
  by_cases h : u < 10
  · rw [decL_small h]; simp
  · rw [decL_big h]; simp
theorem decL_head (u : Nat) : (decL u).head? = some 48 → u = 0 := by
  induction u using Nat.strongRecOn with
  | _ u ih =>
    by_cases h : u < 10
    · rw [decL_small h]
      simp only [List.head?_cons, Option.some.injEq]
      intro hh
      have := congrArg UInt8.toNat hh
      rw [nat48 h] at this
      simp at this; omega
    · rw [decL_big h, List.head?_append]
      intro hh
      cases hd : (decL (u / 10)).head? with
      | none => exact absurd (List.head?_eq_none_iff.1 hd) (decL_ne _)
      | some c =>
        rw [hd] at hh
        simp only [Option.some_or] at hh
        have := ih (u / 10) (by omega) (by rw [hd, hh])
        omega
theorem decL_len : ∀ (k u : Nat), u < 10 ^ (k + 1) → (decL u).length ≤ k + 1
  | 0, u, h => by rw [decL_small (by simpa using h)]; simp
  | k + 1, u, h => by
    by_cases hs : u < 10
    · rw [decL_small hs]; simp
    · rw [decL_big hs, List.length_append]
      have : u / 10 < 10 ^ (k + 1) := by
        rw [Nat.pow_succ] at h
        exact Nat.div_lt_of_lt_mul (by omega)
      have := decL_len k _ this
      simp; omega
theorem decL_mem (u : Nat) : ∀ c ∈ decL u, 48 ≤ c.toNat ∧ c.toNat ≤ 57 := by
  induction u using Nat.strongRecOn with
  | _ u ih =>
    intro c hc
    by_cases h : u < 10
    · rw [decL_small h, List.mem_singleton] at hc; subst hc; rw [nat48 h]; omega
    · rw [decL_big h, List.mem_append, List.mem_singleton] at hc
      rcases hc with hc | rfl
      · exact ih (u / 10) (by omega) c hc
      · rw [nat48 (by omega)]; omega
theorem numD_dec (u : Nat) (h : u ≤ 999999999) : numD (decL u) = some u := by
  unfold numD
  rw [if_neg, digs_dec]
  rintro (h1 | h1 | ⟨h1, h2⟩)
  · exact decL_ne u h1
  · have := decL_len 8 u (by omega); omega
  · have := decL_head u h1
    subst this
    exact h2 (decL_small (by omega))

theorem isA_not {c : UInt8} (h : isA c = true) : c ≠ 40 ∧ c ≠ 41 ∧ c ≠ 34 ∧ c ≠ 123 ∧ c ≠ 32 := by
  unfold isA at h
  rw [decide_eq_true_iff] at h
  refine ⟨?_, ?_, ?_, ?_, ?_⟩ <;> (rintro rfl; simp at h)
theorem atomL_all : ∀ {t : List UInt8}, t.all isA = true → ∀ y : List UInt8, (∀ c r, y = c :: r → isA c = false) → atomL (t ++ y) = t.length
  | [], _, y, hy => by
    cases y with
    | nil => rfl
    | cons c r => simp [atomL, hy c r rfl]
  | c :: t, h, y, hy => by
    rw [List.all_cons, Bool.and_eq_true] at h
    simp only [List.cons_append, atomL, h.1, if_true, List.length_cons, atomL_all h.2 y hy]
theorem quoA_esc : ∀ {t : List UInt8}, t.all isQ = true → ∀ y : List UInt8, quoA (t.flatMap escL ++ 34 :: y) = some (t, (t.flatMap escL).length + 1)
  | [], _, y => by
    simp only [List.flatMap_nil, List.nil_append, List.length_nil]
    rw [quoA.eq_def]
    simp
  | c :: t, h, y => by
    rw [List.all_cons, Bool.and_eq_true] at h
    have ih := quoA_esc h.2 y
    have hc := h.1
    unfold isQ at hc
    rw [decide_eq_true_iff] at hc
    rw [List.flatMap_cons, List.append_assoc]
    by_cases he : c = 34 ∨ c = 92
    · rw [show escL c = [92, c] by rw [escL, if_pos he]]
      simp only [List.cons_append, List.nil_append, quoA]
      rw [if_neg (by decide), if_neg (by decide), if_pos trivial, if_pos he, ih]
      simp
    · rw [show escL c = [c] by rw [escL, if_neg he]]
      have h1 : ¬ c = 34 := fun e => he (Or.inl e)
      have h2 : ¬ c = 92 := fun e => he (Or.inr e)
      have h3 : ¬ (c = 13 ∨ c = 10) := by rintro (rfl | rfl) <;> simp at hc
      simp only [List.cons_append, List.nil_append]
      rw [quoA.eq_def]
      simp only
      rw [if_neg h1, if_neg h3, if_neg h2, ih]
      simp
theorem litA_of (t y : List UInt8) (h : t.length ≤ 999999999) : litA (123 :: (decL t.length ++ [125, 13, 10] ++ t) ++ y) = some (t, (123 :: (decL t.length ++ [125, 13, 10] ++ t)).length) := by
  have hm : (10 : UInt8) ∉ (123 :: (decL t.length ++ [125, 13])) := by
    simp only [List.mem_cons, List.mem_append, not_or]
    refine ⟨by decide, fun hd => ?_, by decide, by decide, by simp⟩
    have := decL_mem _ _ hd
    simp at this
  have e : 123 :: (decL t.length ++ [125, 13, 10] ++ t) ++ y = (123 :: (decL t.length ++ [125, 13])) ++ 10 :: (t ++ y) := by simp
  rw [e]
  unfold litA
  rw [cutB_of hm]
  have e2 : trimE (123 :: (decL t.length ++ [125, 13])) 13 = 123 :: (decL t.length ++ [125]) := by
    rw [show 123 :: (decL t.length ++ [125, 13]) = (123 :: (decL t.length ++ [125])) ++ [13] by simp]
    rw [trimE, if_pos (by rw [List.getLast?_append]; simp), List.dropLast_concat]
  have e3 : annB (decL t.length ++ [125]) = some t.length := by
    unfold annB
    rw [if_pos (by simp), List.dropLast_concat]
    rw [trimE, if_neg, numD_dec _ h]
    intro hl
    have := decL_mem _ _ (List.mem_of_getLast? hl)
    simp at this
  simp only [e2, List.drop_succ_cons, List.drop_zero, e3]
  rw [if_neg (by simp)]
  simp; omega
theorem textA_tok {t : Tok} {x : List UInt8} (h : textA t = some x) (y : List UInt8) (hy : t.1 = 1 → ∀ c r, y = c :: r → isA c = false) : tokA (x ++ y) = some (t, x.length) := by
  obtain ⟨k, t⟩ := t
  unfold textA at h
  simp only at h hy
  split at h
  · rename_i hk
    subst hk
    split at h
    · rename_i ht
      injection h with h; subst h
      cases t with
      | nil => exact absurd rfl ht.1
      | cons c r =>
        have ha := atomL_all ht.2 y (hy rfl)
        have hc := ht.2
        rw [List.all_cons, Bool.and_eq_true] at hc
        obtain ⟨h1, h2, h3, h4, h5⟩ := isA_not hc.1
        simp only [List.cons_append, tokA] at ha ⊢
        rw [if_neg h1, if_neg h2, if_neg h3, if_neg h4, ha]
        simp
    · cases h
  split at h
  · rename_i hk
    subst hk
    unfold strA at h
    cases hq : quoteL t with
    | some q =>
      rw [hq] at h; simp only at h; injection h with h; subst h
      unfold quoteL at hq
      split at hq
      · rename_i ha
        injection hq with hq; subst hq
        simp only [List.cons_append, List.append_assoc, tokA]
        rw [if_neg (by decide), if_neg (by decide), if_pos trivial, List.nil_append, quoA_esc ha y]
        simp
      · cases hq
    | none =>
      rw [hq] at h; simp only at h
      split at h
      · rename_i hl
        injection h with h; subst h
        have := litA_of t y hl
        simp only [List.cons_append] at this ⊢
        unfold tokA
        simp only
        rw [if_neg (by decide), if_neg (by decide), if_neg (by decide), if_pos trivial, this]
        simp
      · cases h
  split at h
  · rename_i hk
    subst hk
    split at h
    · rename_i ht; injection h with h; subst h ht; simp [tokA]
    · cases h
  split at h
  · rename_i hk
    subst hk
    split at h
    · rename_i ht; injection h with h; subst h ht; simp [tokA]
    · cases h
  · cases h
theorem textA_kind {t : Tok} {x : List UInt8} (h : textA t = some x) : 1 ≤ t.1 ∧ t.1 ≤ 4 := by
  have := textA_tok h [] (fun _ c r hc => by cases hc)
  have := tokA_len this
  omega
theorem textA_head {t : Tok} {x : List UInt8} (h : textA t = some x) : ∃ c r, x = c :: r ∧ c ≠ 32 := by
  obtain ⟨k, t⟩ := t
  unfold textA at h
  simp only at h
  split at h
  · split at h
    · rename_i ht
      injection h with h; subst h
      cases t with
      | nil => exact absurd rfl ht.1
      | cons c r =>
        have hc := ht.2
        rw [List.all_cons, Bool.and_eq_true] at hc
        exact ⟨c, r, rfl, (isA_not hc.1).2.2.2.2⟩
    · cases h
  split at h
  · unfold strA at h
    cases hq : quoteL t with
    | some q =>
      rw [hq] at h; simp only at h; injection h with h; subst h
      unfold quoteL at hq
      split at hq
      · injection hq with hq; subst hq; exact ⟨34, _, rfl, by decide⟩
      · cases hq
    | none =>
      rw [hq] at h; simp only at h
      split at h
      · injection h with h; subst h; exact ⟨123, _, rfl, by decide⟩
      · cases h
  split at h
  · split at h
    · injection h with h; subst h; exact ⟨40, [], rfl, by decide⟩
    · cases h
  split at h
  · split at h
    · injection h with h; subst h; exact ⟨41, [], rfl, by decide⟩
    · cases h
  · cases h
theorem spL_rep (k : Nat) (x : List UInt8) (h : ∃ c r, x = c :: r ∧ c ≠ 32) : spL (List.replicate k 32 ++ x) = k := by
  induction k with
  | zero =>
    obtain ⟨c, r, rfl, hc⟩ := h
    simp [spL, hc]
  | succ k ih => simp [List.replicate_succ, spL, ih]
theorem spL_only (k : Nat) : spL (List.replicate k 32) = k := by
  induction k with
  | zero => rfl
  | succ k ih => simp [List.replicate_succ, spL, ih]
/-- What stands at the beginning of what is written behind a token. -/
theorem writeA_head {l : List Tok} {y : List UInt8} (h : writeA 1 l = some y) : ∀ c r, y = c :: r → isA c = false := by
  intro c r hy
  cases l with
  | nil => simp [writeA] at h; subst h; cases hy
  | cons t l =>
    simp only [writeA] at h
    cases ht : textA t with
    | none => rw [ht] at h; cases h
    | some x =>
      rw [ht] at h
      simp only [Option.map_eq_some_iff] at h
      obtain ⟨z, h1, h2⟩ := h
      by_cases h4 : t.1 = 4
      · have hx : x = [41] := by
          obtain ⟨k, t⟩ := t
          simp only at h4; subst h4
          unfold textA at ht
          simp only at ht
          rw [if_neg (by decide), if_neg (by decide), if_neg (by decide), if_pos trivial] at ht
          split at ht
          · injection ht with ht; exact ht.symm
          · cases ht
        rw [if_neg (by simp [h4]), hx] at h2
        rw [hy] at h2
        injection h2 with h2 _
        subst h2; decide
      · rw [if_pos ⟨by decide, by decide, h4⟩, hy] at h2
        injection h2 with h2 _
        subst h2; decide
/-- Written tokens are told as they are. -/
theorem toks_write : ∀ (l : List Tok) (a : Nat) (y : List UInt8) (n : Nat), a ≤ 4 → writeA a l = some y → y.length < n → toksA n y (if a = 0 then 3 else a) = some l
  | [], a, y, n, ha, h, hn => by
    simp only [writeA] at h
    injection h with h; subst h
    obtain ⟨m, rfl⟩ : ∃ m, n = m + 1 := ⟨n - 1, by simp at hn; omega⟩
    simp [toksA, spL]
  | t :: l, a, y, n, ha, h, hn => by
    simp only [writeA] at h
    cases ht : textA t with
    | none => rw [ht] at h; cases h
    | some x =>
      rw [ht] at h
      simp only [Option.map_eq_some_iff] at h
      obtain ⟨z, h1, rfl⟩ := h
      obtain ⟨m, rfl⟩ : ∃ m, n = m + 1 := ⟨n - 1, by omega⟩
      have hk := textA_kind ht
      have hh := textA_head ht
      have htok := textA_tok ht z (fun h1' => writeA_head (by rw [← h1', h1]))
      have hx := tokA_len htok
      have hhz : ∃ c r, x ++ z = c :: r ∧ c ≠ 32 := by obtain ⟨c, r, rfl, hc⟩ := hh; exact ⟨c, r ++ z, rfl, hc⟩
      unfold toksA
      by_cases hs : a ≠ 0 ∧ a ≠ 3 ∧ t.1 ≠ 4
      · rw [if_pos hs] at hn ⊢
        have hsp : spL ([32] ++ x ++ z) = 1 := by rw [List.append_assoc]; exact spL_rep 1 (x ++ z) hhz
        have hl3 : ([32] ++ x ++ z).length = 1 + (x ++ z).length := by simp; omega
        have hd1 : ([32] ++ x ++ z).drop 1 = x ++ z := by simp
        rw [hsp, if_neg (by omega), hd1, htok]
        simp only
        have hd2 : ([32] ++ x ++ z).drop (1 + x.length) = z := by rw [← List.drop_drop, hd1]; simp
        rw [if_neg (by simp), hd2]
        have ih := toks_write l t.1 z m (by omega) h1 (by simp at hn; omega)
        rw [if_neg (by omega)] at ih
        rw [ih]; rfl
      · rw [if_neg hs] at hn ⊢
        have hsp : spL ([] ++ x ++ z) = 0 := by rw [List.nil_append]; exact spL_rep 0 (x ++ z) hhz
        have hl3 : ([] ++ x ++ z).length = (x ++ z).length := by simp
        have hd1 : ([] ++ x ++ z).drop 0 = x ++ z := by simp
        rw [hsp, if_neg (by omega), hd1, htok]
        simp only
        have hmay : mayT (if a = 0 then 3 else a) t.1 = true := by
          unfold mayT
          rw [decide_eq_true_iff]
          split <;> omega
        have hd2 : ([] ++ x ++ z).drop (0 + x.length) = z := by simp
        rw [if_neg (by rw [hmay]; simp), hd2]
        have ih := toks_write l t.1 z m (by omega) h1 (by simp at hn; omega)
        rw [if_neg (by omega)] at ih
        rw [ih]; rfl
theorem tokens_write {l : List Tok} {y : List UInt8} (h : writeL l = some y) : tokensL y = (l, 0) := by
  unfold writeL at h
  split at h
  · cases h
  · rename_i hl
    have := toks_write l 0 y (y.length + 1) (by omega) h (by omega)
    rw [if_pos rfl] at this
    unfold tokensL
    rw [this]
    simp only
    rw [if_neg hl]
theorem tokens_quote {s q : List UInt8} (h : quoteL s = some q) : tokensL q = ([(2, s)], 0) := by
  apply tokens_write
  unfold writeL
  rw [if_neg (by simp)]
  simp [writeA, textA, strA, h]
/-- Tokens with spaces ahead, between and behind. -/
def gapped (g : Nat) : List (List UInt8) → List UInt8
  | [] => []
  | x :: l => x ++ List.replicate (g + 1) 32 ++ gapped g l
theorem toks_gap (g : Nat) : ∀ (l : List Tok) (xs : List (List UInt8)) (k a n : Nat), l.map textA = xs.map some → (1 ≤ k ∨ a = 3) → k + (gapped g xs).length < n → toksA n (List.replicate k 32 ++ gapped g xs) a = some l
  | [], [], k, a, n, h, hk, hn => by
    obtain ⟨m, rfl⟩ : ∃ m, n = m + 1 := ⟨n - 1, by omega⟩
    simp [toksA, gapped, spL_only]
  | [], x :: xs, k, a, n, h, hk, hn => by simp at h
  | t :: l, [], k, a, n, h, hk, hn => by simp at h
  | t :: l, x :: xs, k, a, n, h, hk, hn => by
    simp only [List.map_cons, List.cons.injEq] at h
    obtain ⟨ht, hl⟩ := h
    obtain ⟨m, rfl⟩ : ∃ m, n = m + 1 := ⟨n - 1, by omega⟩
    have hk' := textA_kind ht
    have hh := textA_head ht
    have htok := textA_tok ht (List.replicate (g + 1) 32 ++ gapped g xs) (fun _ c r hc => by
      rw [List.replicate_succ, List.cons_append] at hc
      injection hc with hc _; subst hc; decide)
    have hx := tokA_len htok
    simp only [gapped] at hn ⊢
    rw [List.append_assoc] at hn ⊢
    have hhz : ∃ c r, x ++ (List.replicate (g + 1) 32 ++ gapped g xs) = c :: r ∧ c ≠ 32 := by obtain ⟨c, r, rfl, hc⟩ := hh; exact ⟨c, _, rfl, hc⟩
    unfold toksA
    have hd1 : (List.replicate k 32 ++ (x ++ (List.replicate (g + 1) 32 ++ gapped g xs))).drop k = x ++ (List.replicate (g + 1) 32 ++ gapped g xs) := List.drop_left' (by simp)
    have hl3 : (List.replicate k (32 : UInt8) ++ (x ++ (List.replicate (g + 1) 32 ++ gapped g xs))).length = k + (x ++ (List.replicate (g + 1) 32 ++ gapped g xs)).length := by simp
    rw [spL_rep k _ hhz, if_neg (by omega), hd1, htok]
    simp only
    rw [if_neg (by
      rintro ⟨h0, h1⟩
      rcases hk with hk | hk
      · omega
      · subst hk; simp [mayT] at h1)]
    have hd2 : (List.replicate k 32 ++ (x ++ (List.replicate (g + 1) 32 ++ gapped g xs))).drop (k + x.length) = List.replicate (g + 1) 32 ++ gapped g xs := by rw [← List.drop_drop, hd1, List.drop_left' rfl]
    rw [hd2]
    rw [toks_gap g l xs (g + 1) t.1 m hl (Or.inl (by omega)) (by simp at hn ⊢; omega)]
    rfl
theorem tokens_gap (g : Nat) (l : List Tok) (xs : List (List UInt8)) (h : l.map textA = xs.map some) (hl : l.length ≤ 4096) : tokensL (List.replicate g 32 ++ gapped g xs) = (l, 0) := by
  unfold tokensL
  rw [toks_gap g l xs g 3 _ h (Or.inr rfl) (by simp)]
  simp only
  rw [if_neg (by omega)]
end Go.Proofs.Lx
