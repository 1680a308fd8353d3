/-
  A tally that is told is read again, and one of numbers is right: plain mathematics.
-/
import Derived.Test.YtihgmpebpkjmkaaGreatDoorBnd6
import Derived.Test.YtihgmpebpkjmkaaGreatDoorNsw
set_option linter.unusedVariables false
set_option linter.unusedSimpArgs false
namespace Go.Proofs.YtihgmpebpkjmkaaGreatDoor
open Go.RowKit Go.Proofs.Nst

theorem nText_dec {n : Nat} (h : n ≤ 4294967295) : nText (Lib.decDigits n) = n := by
  have hp : Lib.parseUintB 32 (Lib.decDigits n) = .ok n := by
    unfold Lib.parseUintB
    rw [if_neg (dec_ne n)]
    have := dig_parse (2 ^ 32 - 1) (by decide) n (by omega) []
    rw [List.append_nil] at this
    rw [this]
    rfl
  unfold nText
  rw [hp]
theorem dec_no32 {n : Nat} : ∀ x ∈ Lib.decDigits n, x ≠ 32 := by
  intro x hx h
  have := dig_mem n x hx
  rw [h] at this
  revert this
  decide
theorem endT_no32 {n : Nat} : ∀ x ∈ endT n, x ≠ 32 := by
  unfold endT
  split
  · intro x hx; rw [List.mem_singleton] at hx; subst hx; decide
  · exact dec_no32
theorem spanT_no32 {s : Sp} : ∀ x ∈ spanT s, x ≠ 32 := by
  unfold spanT
  split
  · intro x hx
    rw [List.mem_append, List.mem_cons] at hx
    rcases hx with h | h | h
    · exact endT_no32 x h
    · subst h; decide
    · exact endT_no32 x h
  · exact endT_no32
theorem joinL_no32 : ∀ (ps : List (List UInt8)), (∀ p ∈ ps, ∀ x ∈ p, x ≠ 32) → ∀ x ∈ joinL ps, x ≠ 32
  | [], _, x, hx => by simp [joinL] at hx
  | [p], h, x, hx => by simp [joinL] at hx; exact h p (by simp) x hx
  | p :: q :: r, h, x, hx => by
    rw [joinL] at hx
    · rw [List.mem_append, List.mem_cons] at hx
      rcases hx with h9 | h9 | h9
      · exact h p (by simp) x h9
      · subst h9; decide
      · exact joinL_no32 (q :: r) (fun p' hp' => h p' (List.mem_cons_of_mem _ hp')) x h9
    · simp
theorem writeP_no32 (l : List Sp) : ∀ x ∈ writeP l, x ≠ 32 := joinL_no32 _ (fun p hp x hx => by
  obtain ⟨s, _, rfl⟩ := List.mem_map.1 hp
  exact spanT_no32 x hx)

/-- What is told behind some words, one behind the other. -/
def restT (t : Tly) : List (List UInt8 × Nat) → List UInt8
  | [] => []
  | p :: r => if textT t p.2 = [] then restT t r else p.1 ++ 32 :: (textT t p.2 ++ (if restT t r = [] then [] else 32 :: restT t r))
theorem fold_rest (t : Tly) : ∀ (ps : List (List UInt8 × Nat)) (b : List UInt8), (∀ p ∈ ps, p.1 ≠ []) → ps.foldl (stepT t) b = if restT t ps = [] then b else (if b = [] then [] else b ++ [32]) ++ restT t ps
  | [], b, _ => by simp [restT]
  | p :: r, b, h => by
    rw [List.foldl_cons, fold_rest t r _ (fun q hq => h q (List.mem_cons_of_mem _ hq))]
    have hp := h p List.mem_cons_self
    by_cases hz : textT t p.2 = []
    · have e : restT t (p :: r) = restT t r := by rw [restT, if_pos hz]
      have e2 : stepT t b p = b := by unfold stepT; rw [if_pos hz]
      rw [e, e2]
    · have e : restT t (p :: r) = p.1 ++ 32 :: (textT t p.2 ++ (if restT t r = [] then [] else 32 :: restT t r)) := by rw [restT, if_neg hz]
      have e2 : stepT t b p = (if b = [] then [] else b ++ [32]) ++ (p.1 ++ 32 :: textT t p.2) := by unfold stepT; rw [if_neg hz]
      rw [e, e2]
      have h1 : ¬ ((if b = [] then [] else b ++ [32]) ++ (p.1 ++ 32 :: textT t p.2)) = [] := by simp
      have h2 : ¬ (p.1 ++ 32 :: (textT t p.2 ++ (if restT t r = [] then [] else 32 :: restT t r))) = [] := by simp
      by_cases hr : restT t r = []
      · rw [if_pos hr, if_neg h2, if_pos hr]; simp
      · rw [if_neg hr, if_neg h2, if_neg h1, if_neg hr]; simp
/-- No word begins with another one. -/
def differ (p : List UInt8 × Nat) (ps : List (List UInt8 × Nat)) : Prop := ∀ q ∈ ps, ∀ tl, Lib.hasPrefix (q.1 ++ 32 :: tl) (p.1 ++ [32]) = false
theorem rest_other (t : Tly) (p : List UInt8 × Nat) : ∀ (ps : List (List UInt8 × Nat)), differ p ps → Lib.hasPrefix (restT t ps) (p.1 ++ [32]) = false
  | [], _ => by
    unfold Lib.hasPrefix
    cases h : p.1 with
    | nil => rfl
    | cons a r => rfl
  | q :: r, h => by
    rw [restT]
    split
    · exact rest_other t p r (fun q' hq' => h q' (List.mem_cons_of_mem _ hq'))
    · exact h q List.mem_cons_self _
theorem prefix_self (a b : List UInt8) : Lib.hasPrefix (a ++ 32 :: b) (a ++ [32]) = true := by
  unfold Lib.hasPrefix
  rw [List.isPrefixOf_iff_prefix]
  exact ⟨b, by simp⟩
/-- Reading of what is told behind some words. -/
theorem read_rest (t : Tly) (hno : ∀ k, ∀ x ∈ textT t k, x ≠ 32) : ∀ (ps : List (List UInt8 × Nat)) (x : Tly), ps.Pairwise (fun p q => ∀ tl, Lib.hasPrefix (q.1 ++ 32 :: tl) (p.1 ++ [32]) = false) →
    ps.foldl stepP (x, restT t ps) = (ps.foldl (fun x p => if textT t p.2 = [] then x else readT x p.2 (textT t p.2)) x, [])
  | [], x, _ => rfl
  | p :: r, x, h => by
    rw [List.foldl_cons, List.foldl_cons]
    rw [List.pairwise_cons] at h
    have ih := fun x => read_rest t hno r x h.2
    rw [restT]
    by_cases hz : textT t p.2 = []
    · rw [if_pos hz, if_pos hz]
      have e : stepP (x, restT t r) p = (x, restT t r) := by
        unfold stepP
        rw [if_neg]
        simp only
        rw [rest_other t p r (fun q hq => h.1 q hq)]
        simp
      rw [e]
      exact ih x
    · rw [if_neg hz, if_neg hz]
      have e : stepP (x, p.1 ++ 32 :: (textT t p.2 ++ (if restT t r = [] then [] else 32 :: restT t r))) p = (readT x p.2 (textT t p.2), restT t r) := by
        unfold stepP
        simp only
        rw [if_pos (prefix_self _ _)]
        have hd : (p.1 ++ 32 :: (textT t p.2 ++ (if restT t r = [] then [] else 32 :: restT t r))).drop (p.1.length + 1) = textT t p.2 ++ (if restT t r = [] then [] else 32 :: restT t r) := by
          rw [show p.1 ++ 32 :: (textT t p.2 ++ (if restT t r = [] then [] else 32 :: restT t r)) = (p.1 ++ [32]) ++ (textT t p.2 ++ (if restT t r = [] then [] else 32 :: restT t r)) by simp]
          rw [List.drop_left' (by simp)]
        rw [hd]
        by_cases hr : restT t r = []
        · rw [if_pos hr, List.append_nil, cutB_none 32 _ (hno _), hr]
        · rw [if_neg hr, cutB_some 32 _ _ (hno _)]
      rw [e]
      exact ih _
theorem words_apart : wordsT.Pairwise (fun p q => ∀ tl, Lib.hasPrefix (q.1 ++ 32 :: tl) (p.1 ++ [32]) = false) := by
  unfold wordsT
  simp [Lib.hasPrefix, List.isPrefixOf]
theorem body_rest (t : Tly) : bodyT t = restT t wordsT := by
  unfold bodyT
  rw [fold_rest t wordsT [] (by decide)]
  split
  · rename_i h; exact h.symm
  · simp
end Go.Proofs.YtihgmpebpkjmkaaGreatDoor

/-
  Packed numbers told one by one, and what a right tally is: plain mathematics.
-/
set_option linter.unusedVariables false
set_option linter.unusedSimpArgs false
namespace Go.Proofs.YtihgmpebpkjmkaaGreatDoor
open Go.RowKit Go.Proofs.Nst Go.Proofs.Dct

def flatN (l : List Sp) : List Nat := l.flatMap fun s => List.range' s.1 (s.2 - s.1 + 1)
theorem flatN_snoc (l : List Sp) (s : Sp) : flatN (l ++ [s]) = flatN l ++ List.range' s.1 (s.2 - s.1 + 1) := by simp [flatN]
theorem flatN_pack : ∀ (k : Nat) (ns : List Nat), ns.length = k → ns.Pairwise (· < ·) → flatN (packS ns) = ns := by
  intro k
  induction k with
  | zero =>
    intro ns h _
    rw [List.length_eq_zero_iff.1 h]
    rfl
  | succ k ih =>
    intro ns h hp
    obtain ⟨r, n, rfl⟩ : ∃ r n, ns = r ++ [n] := by
      rcases List.eq_nil_or_concat ns with h9 | ⟨r, n, h9⟩
      · rw [h9] at h; simp at h
      · exact ⟨r, n, by simpa using h9⟩
    have hr : r.length = k := by rw [List.length_append, List.length_singleton] at h; omega
    obtain ⟨p1, _, p3⟩ := List.pairwise_append.1 hp
    have hi := ih r hr p1
    obtain ⟨_, l2, l3, l4⟩ := packS_last k r hr p1
    rw [packS_snoc]
    rcases snoc_cases (packS r) with h9 | ⟨q, b, h9⟩
    · rw [h9, putS_nil]
      have : r = [] := l2.1 h9
      subst this
      simp [flatN]
    · have hne : r ≠ [] := fun e => by have := l2.2 e; rw [this] at h9; simp at h9
      obtain ⟨m, hm⟩ : ∃ m, r.getLast? = some m := by
        cases hg : r.getLast? with
        | none => rw [List.getLast?_eq_none_iff] at hg; exact absurd hg hne
        | some m => exact ⟨m, rfl⟩
      have hbm := l4 q b m h9 hm
      have hmem : m ∈ r := List.mem_of_getLast? hm
      have hmn : m < n := p3 m hmem n (by simp)
      have hbb := l3 b (by rw [h9]; simp)
      rw [h9] at hi ⊢
      by_cases hf : b.2 + 1 < n
      · rw [putS_far (s := (n, n)) hf, flatN_snoc, hi]
        simp
      · rw [putS_near (s := (n, n)) hf, flatN_snoc]
        rw [flatN_snoc] at hi
        have e : n = b.2 + 1 := by omega
        simp only
        rw [show max b.2 n = b.2 + 1 by omega, show b.2 + 1 - b.1 + 1 = (b.2 - b.1 + 1) + 1 by omega, List.range'_concat, ← List.append_assoc, hi]
        congr 1
        simp
        omega
theorem numsF_flat : ∀ (l : List Sp) (acc : List Nat), (∀ s ∈ l, 1 ≤ s.1 ∧ s.1 ≤ s.2) → acc.length + (flatN l).length ≤ 65536 → numsF acc l = some (acc ++ flatN l)
  | [], acc, _, _ => by simp [numsF, flatN]
  | s :: r, acc, h, hl => by
    have h1 := h s List.mem_cons_self
    have e : flatN (s :: r) = List.range' s.1 (s.2 - s.1 + 1) ++ flatN r := by simp [flatN]
    rw [e, List.length_append, List.length_range'] at hl
    rw [numsF, if_neg (by rintro (h9 | h9 | h9) <;> omega), e, ← List.append_assoc]
    exact numsF_flat r _ (fun x hx => h x (List.mem_cons_of_mem _ hx)) (by rw [List.length_append, List.length_range']; omega)
theorem rise_pair {ns : List Nat} (h : chk ns = 0) : ns.Pairwise (· < ·) ∧ ns.length ≤ 65536 := by
  unfold chk at h
  split at h
  · rename_i hr
    split at h
    · rename_i hl
      exact ⟨rise_of (fun j hj => ((rises_iff ns 0).1 hr).2 j hj), hl⟩
    · cases h
  · cases h
theorem packR_len (ns : List Nat) : (packR ns).1.length ≤ 1024 := by
  unfold packR
  split
  · split
    · simp
    · split
      · assumption
      · simp
  · simp
theorem packR_ok {ns : List Nat} (h : (packR ns).2 = 0) : (packR ns).1 = packS ns := by
  unfold packR at h ⊢
  split
  · rename_i h1
    rw [if_pos h1] at h
    split
    · rename_i h2; rw [if_pos h2] at h; cases h
    · rename_i h2
      rw [if_neg h2] at h
      split
      · rfl
      · rename_i h3; rw [if_neg h3] at h; cases h
  · rename_i h1; rw [if_neg h1] at h; cases h
theorem ofR_cases {w : Nat} {ns : List Nat} (h : (ofR w ns).2 = 0) : w ≤ 15 ∧ ¬ 0 ∈ ns ∧ chk ns = 0 ∧ ((ns = [] ∧ (ofR w ns).1 = ⟨w, 0, 0, 0, []⟩) ∨ (ns ≠ [] ∧ (bitW w 4 = true → (packR ns).2 = 0) ∧ (ofR w ns).1 = ofT w ns (packR ns).1)) := by
  unfold ofR at h ⊢
  by_cases h1 : 15 < w ∨ 0 ∈ ns
  · rw [if_pos h1] at h; cases h
  · rw [if_neg h1] at h
    have hw : w ≤ 15 := by rcases Nat.lt_or_ge 15 w with h9 | h9; exact absurd (.inl h9) h1; exact h9
    have hm : ¬ 0 ∈ ns := fun h9 => h1 (.inr h9)
    by_cases h2 : chk ns ≠ 0
    · rw [if_pos h2] at h; exact absurd h h2
    · rw [if_neg h2] at h
      have hc : chk ns = 0 := by omega
      rw [if_neg h1, if_neg h2]
      by_cases h3 : ns = []
      · rw [if_pos h3]
        exact ⟨hw, hm, hc, .inl ⟨h3, rfl⟩⟩
      · rw [if_neg h3] at h ⊢
        by_cases h4 : bitW w 4 = true ∧ (packR ns).2 ≠ 0
        · rw [if_pos h4] at h; cases h
        · rw [if_neg h4]
          refine ⟨hw, hm, hc, .inr ⟨h3, fun h5 => ?_, rfl⟩⟩
          rcases Nat.eq_zero_or_pos (packR ns).2 with h6 | h6
          · exact h6
          · exact absurd ⟨h5, by omega⟩ h4
/-- What a right tally is, as far as its text asks. -/
theorem right_facts {t : Tly} (h : rightT t = true) : t.want ≤ 15 ∧ wanted t = true ∧ t.all.length ≤ 1024 ∧ 0 ≤ t.many ∧ t.many ≤ 65536 := by
  have h0 := right_many h
  unfold rightT at h
  split at h
  · cases h
  · rename_i hno
    have hw15 : t.want ≤ 15 := by rcases Nat.lt_or_ge 15 t.want with h9 | h9; exact absurd (.inl h9) hno; exact h9
    have hw : wanted t = true := by
      cases hw : wanted t with
      | true => rfl
      | false => exact absurd (.inr hw) hno
    have hwu := hw
    unfold wanted at hwu
    simp only [Bool.and_eq_true, Bool.or_eq_true, decide_eq_true_eq] at hwu
    refine ⟨hw15, hw, ?_, h0, ?_⟩
    · split at h
      · unfold ofAll at h
        split at h
        · cases h
        · rename_i ns _
          simp only [Bool.and_eq_true, decide_eq_true_eq] at h
          obtain ⟨e0, _, _, _, e4⟩ := h
          rw [e4]
          rcases (ofR_cases e0).2.2.2 with ⟨_, e⟩ | ⟨_, _, e⟩
          · rw [e]; simp
          · rw [e]
            show (if bitW t.want 4 = true then (packR ns).1 else []).length ≤ 1024
            by_cases hb4 : bitW t.want 4 = true
            · rw [if_pos hb4]; exact packR_len ns
            · rw [if_neg hb4]; exact Nat.zero_le _
      · rename_i hb
        rcases hwu.2.2.1 with h9 | h9
        · exact absurd h9 hb
        · omega
    · split at h
      · unfold ofAll at h
        split at h
        · cases h
        · rename_i ns _
          simp only [Bool.and_eq_true, decide_eq_true_eq] at h
          obtain ⟨e0, e1, _⟩ := h
          rw [e1]
          have hcs := ofR_cases e0
          have hl := (rise_pair hcs.2.2.1).2
          rcases hcs.2.2.2 with ⟨_, e⟩ | ⟨_, _, e⟩
          · rw [e]; simp
          · rw [e]
            show (if bitW t.want 8 = true then (ns.length : Int) else 0) ≤ 65536
            split <;> omega
      · rw [Bool.or_eq_true] at h
        rcases h with h | h
        · unfold ofNone at h; rw [decide_eq_true_eq] at h; omega
        · unfold ofSome at h
          split at h
          · cases h
          · split at h
            · rename_i hb
              rcases hwu.2.2.2 with h9 | h9
              · rw [hb] at h9; cases h9
              · omega
            · rw [decide_eq_true_eq] at h; exact h.2.1
theorem textT_no32 (t : Tly) (k : Nat) : ∀ x ∈ textT t k, x ≠ 32 := by
  unfold textT
  split
  · exact dec_no32
  · split
    · exact dec_no32
    · split
      · unfold writeR
        split
        · simp
        · exact writeP_no32 _
      · split
        · exact dec_no32
        · simp
/-- What a right tally tells is read as it. -/
theorem back_right {t : Tly} (hf : FitT t) (ha : ∀ x ∈ t.all, FitS x) (h : rightT t = true) : parT t.want (bodyT t) = t := by
  obtain ⟨h15, hw, hal, hm0, hm1⟩ := right_facts h
  unfold wanted at hw
  simp only [Bool.and_eq_true, Bool.or_eq_true, decide_eq_true_eq] at hw
  unfold parT
  rw [body_rest, read_rest t (textT_no32 t) wordsT _ words_apart]
  obtain ⟨wt, mn, lo, hi, al⟩ := t
  obtain ⟨_, _, f2, f3⟩ := hf
  simp only at f2 f3 hal hm0 hm1 hw ha ⊢
  simp only [wordsT, List.foldl_cons, List.foldl_nil]
  have s1 : (if textT ⟨wt, mn, lo, hi, al⟩ 1 = [] then (⟨wt, 0, 0, 0, []⟩ : Tly) else readT ⟨wt, 0, 0, 0, []⟩ 1 (textT ⟨wt, mn, lo, hi, al⟩ 1)) = ⟨wt, 0, lo, 0, []⟩ := by
    by_cases z : lo = 0
    · subst z; simp [textT]
    · have e : textT ⟨wt, mn, lo, hi, al⟩ 1 = Lib.decDigits lo := by simp [textT, z]
      rw [e, if_neg (dec_ne lo)]
      simp [readT, nText_dec f2]
  rw [s1]
  have s2 : (if textT ⟨wt, mn, lo, hi, al⟩ 2 = [] then (⟨wt, 0, lo, 0, []⟩ : Tly) else readT ⟨wt, 0, lo, 0, []⟩ 2 (textT ⟨wt, mn, lo, hi, al⟩ 2)) = ⟨wt, 0, lo, hi, []⟩ := by
    by_cases z : hi = 0
    · subst z; simp [textT]
    · have e : textT ⟨wt, mn, lo, hi, al⟩ 2 = Lib.decDigits hi := by simp [textT, z]
      rw [e, if_neg (dec_ne hi)]
      simp [readT, nText_dec f3]
  rw [s2]
  have s3 : (if textT ⟨wt, mn, lo, hi, al⟩ 4 = [] then (⟨wt, 0, lo, hi, []⟩ : Tly) else readT ⟨wt, 0, lo, hi, []⟩ 4 (textT ⟨wt, mn, lo, hi, al⟩ 4)) = ⟨wt, 0, lo, hi, al⟩ := by
    by_cases z : al = []
    · subst z; simp [textT]
    · have hl0 : al.length ≠ 0 := fun e => z (List.length_eq_zero_iff.1 e)
      have e : textT ⟨wt, mn, lo, hi, al⟩ 4 = writeP al := by
        have e1 : textT ⟨wt, mn, lo, hi, al⟩ 4 = (writeR al).1 := by simp [textT, z]
        rw [e1]
        unfold writeR
        rw [if_neg (by rintro (h9 | h9); exact z h9; omega)]
      have hp := (parse_write z hal ha).1
      rw [e]
      have hne : writeP al ≠ [] := by
        intro e9
        rw [e9] at hp
        have h9 : (parseP []).2 = 0 := by rw [hp]
        revert h9
        decide
      rw [if_neg hne]
      simp [readT, hp]
  rw [s3]
  by_cases z : bitW wt 8 = true
  · have e : textT ⟨wt, mn, lo, hi, al⟩ 8 = Lib.decDigits mn.toNat := by simp [textT, z]
    rw [e, if_neg (dec_ne _)]
    have hn : nText (Lib.decDigits mn.toNat) = mn.toNat := nText_dec (by omega)
    simp [readT, hn]
    omega
  · have e : textT ⟨wt, mn, lo, hi, al⟩ 8 = [] := by simp [textT, z]
    rw [e, if_pos rfl]
    rcases hw.2.2.2 with h9 | h9
    · exact absurd h9 z
    · rw [h9]
theorem parse_right {t : Tly} (hf : FitT t) (ha : ∀ x ∈ t.all, FitS x) (h : rightT t = true) : parseT t.want (writeT t).1 = (t, 0) := by
  have e : writeT t = (bodyT t, 0) := by unfold writeT; rw [if_pos h]
  rw [e]
  unfold parseT
  have hw := (right_facts h).1
  rw [if_neg (by omega), back_right hf ha h, if_pos e]
end Go.Proofs.YtihgmpebpkjmkaaGreatDoor

/-
  A tally of numbers is right: plain mathematics.
-/
set_option linter.unusedVariables false
set_option linter.unusedSimpArgs false
namespace Go.Proofs.YtihgmpebpkjmkaaGreatDoor
open Go.RowKit Go.Proofs.Nst Go.Proofs.Dct

theorem rise_gap : ∀ (ns : List Nat), ns.Pairwise (· < ·) → ∀ a r, ns = a :: r → a + ns.length ≤ ns.getLastD 0 + 1
  | [], _, a, r, e => by simp at e
  | [x], _, a, r, e => by injection e with e1 e2; subst e1; simp
  | x :: y :: s, h, a, r, e => by
    injection e with e1 e2
    subst e1
    rw [List.pairwise_cons] at h
    have h1 := h.1 y (by simp)
    have ih := rise_gap (y :: s) h.2 y s rfl
    have e3 : (x :: y :: s).getLastD 0 = (y :: s).getLastD 0 := by simp
    rw [e3]
    simp only [List.length_cons] at ih ⊢
    omega
theorem of_right {w : Nat} {ns : List Nat} (hfit : ∀ n ∈ ns, n ≤ 4294967295) (h : (ofR w ns).2 = 0) : rightT (ofR w ns).1 = true := by
  obtain ⟨hw, hm, hc, hh⟩ := ofR_cases h
  obtain ⟨hp, hl⟩ := rise_pair hc
  rcases hh with ⟨hn, e⟩ | ⟨hn, h4, e⟩
  · rw [e]
    unfold rightT
    have hwd : wanted ⟨w, 0, 0, 0, []⟩ = true := by simp [wanted]
    rw [if_neg (by rintro (h9 | h9); exact absurd h9 (by simp only; omega); rw [hwd] at h9; cases h9)]
    split
    · unfold ofAll
      subst hn
      simp only [numsF]
      rw [e]
      simp [h]
    · simp [ofNone]
  · obtain ⟨a, r, har⟩ : ∃ a r, ns = a :: r := by
      cases ns with
      | nil => exact absurd rfl hn
      | cons a r => exact ⟨a, r, rfl⟩
    have hgap := rise_gap ns hp a r har
    have ha : a ≠ 0 := fun h9 => hm (by rw [har, h9]; simp)
    have hd : ns.headD 0 = a := by rw [har]; rfl
    have hlast : ns.getLastD 0 ≤ 4294967295 := by
      rw [List.getLastD_eq_getLast?]
      cases hg : ns.getLast? with
      | none => simp
      | some m => exact hfit m (List.mem_of_getLast? hg)
    have hlen : 1 ≤ ns.length := by rw [har]; simp
    unfold rightT
    have hwd : wanted (ofR w ns).1 = true := by
      rw [e]
      unfold wanted ofT
      simp only [Bool.and_eq_true, Bool.or_eq_true, decide_eq_true_eq]
      refine ⟨?_, ?_, ?_, ?_⟩
      · cases hb : bitW w 1 <;> simp
      · cases hb : bitW w 2 <;> simp
      · cases hb : bitW w 4 <;> simp
      · cases hb : bitW w 8 <;> simp
    have hwt : (ofR w ns).1.want = w := by rw [e]; rfl
    rw [if_neg (by rintro (h9 | h9); rw [hwt] at h9; omega; rw [hwd] at h9; cases h9), hwt]
    split
    · rename_i hb4
      have hall : (ofR w ns).1.all = packS ns := by
        rw [e]
        show (if bitW w 4 = true then (packR ns).1 else []) = packS ns
        rw [if_pos hb4, packR_ok (h4 hb4)]
      have hfl := flatN_pack _ ns rfl hp
      have hapart := (packS_ok hp).1
      have hmem := (packS_ok hp).2
      have hpos : ∀ s ∈ packS ns, 1 ≤ s.1 ∧ s.1 ≤ s.2 := by
        intro s hs
        have h1 := hapart.ok s hs
        refine ⟨?_, h1⟩
        rcases Nat.eq_zero_or_pos s.1 with h9 | h9
        · have h2 : memS 0 (packS ns) = true := memS_iff.2 ⟨s, hs, by omega, by omega⟩
          rw [hmem, decide_eq_true_eq] at h2
          exact absurd h2 hm
        · exact h9
      have hnu := numsF_flat (packS ns) [] hpos (by rw [hfl]; simpa using hl)
      rw [hfl, List.nil_append] at hnu
      unfold ofAll
      rw [hall, hnu, hwt]
      simp only
      rw [← hall]
      simp [h]
    · rename_i hb4
      rw [e, Bool.or_eq_true]
      right
      have hL : leastE (ofT w ns (packR ns).1) = if bitW w 1 = true then a else 1 := by
        unfold leastE ofT
        simp only
        rw [hd]
        by_cases hb : bitW w 1 = true
        · rw [if_pos hb, if_pos hb, if_pos hb]
        · rw [if_neg hb, if_neg hb]
      have hM : mostE (ofT w ns (packR ns).1) = if bitW w 2 = true then ns.getLastD 0 else 4294967295 := by
        unfold mostE ofT
        simp only
        by_cases hb : bitW w 2 = true
        · rw [if_pos hb, if_pos hb, if_pos hb]
        · rw [if_neg hb, if_neg hb]
      have hLa : 1 ≤ leastE (ofT w ns (packR ns).1) ∧ leastE (ofT w ns (packR ns).1) ≤ a := by rw [hL]; split <;> omega
      have hMa : ns.getLastD 0 ≤ mostE (ofT w ns (packR ns).1) := by rw [hM]; split <;> omega
      unfold ofSome
      rw [if_neg (by rintro (h9 | h9) <;> omega)]
      have hwt2 : (ofT w ns (packR ns).1).want = w := rfl
      rw [hwt2]
      by_cases hb8 : bitW w 8 = false
      · rw [if_pos hb8]
      · rw [if_neg hb8, decide_eq_true_eq]
        have hmany : (ofT w ns (packR ns).1).many = (ns.length : Int) := by
          show (if bitW w 8 = true then (ns.length : Int) else 0) = _
          rw [if_pos (by simpa using hb8)]
        rw [hmany]
        refine ⟨?_, by omega, by omega⟩
        unfold fewE
        split
        · rename_i h9
          have hb1 : bitW w 1 = true := by
            cases hb : bitW w 1 with
            | true => rfl
            | false =>
              exfalso
              apply h9.1
              show (if bitW w 1 = true then ns.headD 0 else 0) = 0
              rw [hb]; rfl
          have hb2 : bitW w 2 = true := by
            cases hb : bitW w 2 with
            | true => rfl
            | false =>
              exfalso
              apply h9.2.1
              show (if bitW w 2 = true then ns.getLastD 0 else 0) = 0
              rw [hb]; rfl
          have h10 := h9.2.2
          rw [hL, hM, if_pos hb1, if_pos hb2] at h10
          have : ns.length ≠ 1 := by
            intro h11
            rw [har] at h11 h10
            have hr : r = [] := by simpa using h11
            subst hr
            exact h10 rfl
          omega
        · omega
theorem ofR_fit {w : Nat} {ns : List Nat} (hw : w ≤ 255) (hfit : ∀ n ∈ ns, n ≤ 4294967295) : FitT (ofR w ns).1 ∧ (ofR w ns).1.all.length ≤ 1024 := by
  have hz : FitT zT ∧ zT.all.length ≤ 1024 := ⟨⟨by decide, ⟨by decide, by decide⟩, by decide, by decide⟩, by decide⟩
  by_cases h : (ofR w ns).2 = 0
  · obtain ⟨_, hm, hc, hh⟩ := ofR_cases h
    have hl := (rise_pair hc).2
    rcases hh with ⟨hn, e⟩ | ⟨hn, h4, e⟩
    · rw [e]; exact ⟨⟨hw, ⟨by show (-9223372036854775808 : Int) ≤ 0; decide, by show (0 : Int) ≤ 9223372036854775807; decide⟩, by simp, by simp⟩, by simp⟩
    · rw [e]
      have hlast : ns.getLastD 0 ≤ 4294967295 := by
        rw [List.getLastD_eq_getLast?]
        cases hg : ns.getLast? with
        | none => simp
        | some m => exact hfit m (List.mem_of_getLast? hg)
      have hhead : ns.headD 0 ≤ 4294967295 := by
        cases ns with
        | nil => simp
        | cons a r => exact hfit a (by simp)
      refine ⟨⟨hw, ?_, ?_, ?_⟩, ?_⟩
      · show -9223372036854775808 ≤ (if bitW w 8 = true then (ns.length : Int) else 0) ∧ (if bitW w 8 = true then (ns.length : Int) else 0) ≤ 9223372036854775807
        by_cases hb : bitW w 8 = true
        · rw [if_pos hb]; omega
        · rw [if_neg hb]; omega
      · show (if bitW w 1 = true then ns.headD 0 else 0) ≤ _
        split
        · exact hhead
        · omega
      · show (if bitW w 2 = true then ns.getLastD 0 else 0) ≤ _
        split
        · exact hlast
        · omega
      · show (if bitW w 4 = true then (packR ns).1 else []).length ≤ 1024
        by_cases hb4 : bitW w 4 = true
        · rw [if_pos hb4]; exact packR_len ns
        · rw [if_neg hb4]; exact Nat.zero_le _
  · have e : (ofR w ns).1 = zT := by
      unfold ofR at h ⊢
      by_cases h1 : 15 < w ∨ 0 ∈ ns
      · rw [if_pos h1]
      · rw [if_neg h1] at h ⊢
        by_cases h2 : chk ns ≠ 0
        · rw [if_pos h2]
        · rw [if_neg h2] at h ⊢
          by_cases h3 : ns = []
          · rw [if_pos h3] at h; exact absurd rfl h
          · rw [if_neg h3] at h ⊢
            by_cases h4 : bitW w 4 = true ∧ (packR ns).2 ≠ 0
            · rw [if_pos h4]
            · rw [if_neg h4] at h; exact absurd rfl h
    rw [e]; exact hz
end Go.Proofs.YtihgmpebpkjmkaaGreatDoor
