/-
  A tally that is told is read again, and one of numbers is right: plain mathematics.
-/
import Derived.Test.YtlolilhlpbpfjaaGreatDoorBnd2
import Derived.Test.YtlolilhlpbpfjaaGreatDoorNsw
import Derived.Test.YtlolilhlpbpfjaaGreatDoorTln
import Derived.Test.YtlolilhlpbpfjaaGreatDoorRows
import Derived.Lib.LaidU8
import Derived.Lib.LaidTab
import Derived.OpenShut
set_option linter.unusedVariables false
set_option linter.unusedSimpArgs false
namespace Go.Proofs.YtlolilhlpbpfjaaGreatDoor
open Go.RowKit Go.Proofs.Nst

theorem nText_dec {n : Nat} (h : n ≤ 4294967295) : nText (Lib.decDigits n) = n := by
  have hp : Lib.parseUintB 32 (Lib.decDigits n) = .ok n := by
    unfold Lib.parseUintB
    rw [if_neg (dec_ne n)]
    have := dig_parse (2 ^ 32 - 1) (by decide) n (by omega) []
    rw [List.append_nil] at this
    rw [this]
    rfl
  unfold nText
  rw [hp]
theorem dec_no32 {n : Nat} : ∀ x ∈ Lib.decDigits n, x ≠ 32 := by
  intro x hx h
  have := dig_mem n x hx
  rw [h] at this
  revert this
  decide
theorem endT_no32 {n : Nat} : ∀ x ∈ endT n, x ≠ 32 := by
  unfold endT
  split
  · intro x hx; rw [List.mem_singleton] at hx; subst hx; decide
  · exact dec_no32
theorem spanT_no32 {s : Sp} : ∀ x ∈ spanT s, x ≠ 32 := by
  unfold spanT
  split
  · intro x hx
    rw [List.mem_append, List.mem_cons] at hx
    rcases hx with h | h | h
    · exact endT_no32 x h
    · subst h; decide
    · exact endT_no32 x h
  · exact endT_no32
theorem joinL_no32 : ∀ (ps : List (List UInt8)), (∀ p ∈ ps, ∀ x ∈ p, x ≠ 32) → ∀ x ∈ joinL ps, x ≠ 32
  | [], _, x, hx => by simp [joinL] at hx
  | [p], h, x, hx => by simp [joinL] at hx; exact h p (by simp) x hx
  | p :: q :: r, h, x, hx => by
    rw [joinL] at hx
    · rw [List.mem_append, List.mem_cons] at hx
      rcases hx with h9 | h9 | h9
      · exact h p (by simp) x h9
      · subst h9; decide
      · exact joinL_no32 (q :: r) (fun p' hp' => h p' (List.mem_cons_of_mem _ hp')) x h9
    · simp
theorem writeP_no32 (l : List Sp) : ∀ x ∈ writeP l, x ≠ 32 := joinL_no32 _ (fun p hp x hx => by
  obtain ⟨s, _, rfl⟩ := List.mem_map.1 hp
  exact spanT_no32 x hx)

/-- What is told behind some words, one behind the other. -/
def restT (t : Tly) : List (List UInt8 × Nat) → List UInt8
  | [] => []
  | p :: r => if textT t p.2 = [] then restT t r else p.1 ++ 32 :: (textT t p.2 ++ (if restT t r = [] then [] else 32 :: restT t r))
theorem fold_rest (t : Tly) : ∀ (ps : List (List UInt8 × Nat)) (b : List UInt8), (∀ p ∈ ps, p.1 ≠ []) → ps.foldl (stepT t) b = if restT t ps = [] then b else (if b = [] then [] else b ++ [32]) ++ restT t ps
  | [], b, _ => by simp [restT]
  | p :: r, b, h => by
    rw [List.foldl_cons, fold_rest t r _ (fun q hq => h q (List.mem_cons_of_mem _ hq))]
    have hp := h p List.mem_cons_self
    by_cases hz : textT t p.2 = []
    · have e : restT t (p :: r) = restT t r := by rw [restT, if_pos hz]
      have e2 : stepT t b p = b := by unfold stepT; rw [if_pos hz]
      rw [e, e2]
    · have e : restT t (p :: r) = p.1 ++ 32 :: (textT t p.2 ++ (if restT t r = [] then [] else 32 :: restT t r)) := by rw [restT, if_neg hz]
      have e2 : stepT t b p = (if b = [] then [] else b ++ [32]) ++ (p.1 ++ 32 :: textT t p.2) := by unfold stepT; rw [if_neg hz]
      rw [e, e2]
      have h1 : ¬ ((if b = [] then [] else b ++ [32]) ++ (p.1 ++ 32 :: textT t p.2)) = [] := by simp
      have h2 : ¬ (p.1 ++ 32 :: (textT t p.2 ++ (if restT t r = [] then [] else 32 :: restT t r))) = [] := by simp
      by_cases hr : restT t r = []
      · rw [if_pos hr, if_neg h2, if_pos hr]; simp
      · rw [if_neg hr, if_neg h2, if_neg h1, if_neg hr]; simp
/-- No word begins with another one. -/
def differ (p : List UInt8 × Nat) (ps : List (List UInt8 × Nat)) : Prop := ∀ q ∈ ps, ∀ tl, Lib.hasPrefix (q.1 ++ 32 :: tl) (p.1 ++ [32]) = false
theorem rest_other (t : Tly) (p : List UInt8 × Nat) : ∀ (ps : List (List UInt8 × Nat)), differ p ps → Lib.hasPrefix (restT t ps) (p.1 ++ [32]) = false
  | [], _ => by
    unfold Lib.hasPrefix
    cases h : p.1 with
    | nil => rfl
    | cons a r => rfl
  | q :: r, h => by
    rw [restT]
    split
    · exact rest_other t p r (fun q' hq' => h q' (List.mem_cons_of_mem _ hq'))
    · exact h q List.mem_cons_self _
theorem prefix_self (a b : List UInt8) : Lib.hasPrefix (a ++ 32 :: b) (a ++ [32]) = true := by
  unfold Lib.hasPrefix
  rw [List.isPrefixOf_iff_prefix]
  exact ⟨b, by simp⟩
/-- Reading of what is told behind some words. -/
theorem read_rest (t : Tly) (hno : ∀ k, ∀ x ∈ textT t k, x ≠ 32) : ∀ (ps : List (List UInt8 × Nat)) (x : Tly), ps.Pairwise (fun p q => ∀ tl, Lib.hasPrefix (q.1 ++ 32 :: tl) (p.1 ++ [32]) = false) →
    ps.foldl stepP (x, restT t ps) = (ps.foldl (fun x p => if textT t p.2 = [] then x else readT x p.2 (textT t p.2)) x, [])
  | [], x, _ => rfl
  | p :: r, x, h => by
    rw [List.foldl_cons, List.foldl_cons]
    rw [List.pairwise_cons] at h
    have ih := fun x => read_rest t hno r x h.2
    rw [restT]
    by_cases hz : textT t p.2 = []
    · rw [if_pos hz, if_pos hz]
      have e : stepP (x, restT t r) p = (x, restT t r) := by
        unfold stepP
        rw [if_neg]
        simp only
        rw [rest_other t p r (fun q hq => h.1 q hq)]
        simp
      rw [e]
      exact ih x
    · rw [if_neg hz, if_neg hz]
      have e : stepP (x, p.1 ++ 32 :: (textT t p.2 ++ (if restT t r = [] then [] else 32 :: restT t r))) p = (readT x p.2 (textT t p.2), restT t r) := by
        unfold stepP
        simp only
        rw [if_pos (prefix_self _ _)]
        have hd : (p.1 ++ 32 :: (textT t p.2 ++ (if restT t r = [] then [] else 32 :: restT t r))).drop (p.1.length + 1) = textT t p.2 ++ (if restT t r = [] then [] else 32 :: restT t r) := by
          rw [show p.1 ++ 32 :: (textT t p.2 ++ (if restT t r = [] then [] else 32 :: restT t r)) = (p.1 ++ [32]) ++ (textT t p.2 ++ (if restT t r = [] then [] else 32 :: restT t r)) by simp]
          rw [List.drop_left' (by simp)]
        rw [hd]
        by_cases hr : restT t r = []
        · rw [if_pos hr, List.append_nil, cutB_none 32 _ (hno _), hr]
        · rw [if_neg hr, cutB_some 32 _ _ (hno _)]
      rw [e]
      exact ih _
theorem words_apart : wordsT.Pairwise (fun p q => ∀ tl, Lib.hasPrefix (q.1 ++ 32 :: tl) (p.1 ++ [32]) = false) := by
  unfold wordsT
  simp [Lib.hasPrefix, List.isPrefixOf]
theorem body_rest (t : Tly) : bodyT t = restT t wordsT := by
  unfold bodyT
  rw [fold_rest t wordsT [] (by decide)]
  split
  · rename_i h; exact h.symm
  · simp
end Go.Proofs.YtlolilhlpbpfjaaGreatDoor

/-
  Packed numbers told one by one, and what a right tally is: plain mathematics.
-/
set_option linter.unusedVariables false
set_option linter.unusedSimpArgs false
namespace Go.Proofs.YtlolilhlpbpfjaaGreatDoor
open Go.RowKit Go.Proofs.Nst Go.Proofs.Dct

def flatN (l : List Sp) : List Nat := l.flatMap fun s => List.range' s.1 (s.2 - s.1 + 1)
theorem flatN_snoc (l : List Sp) (s : Sp) : flatN (l ++ [s]) = flatN l ++ List.range' s.1 (s.2 - s.1 + 1) := by simp [flatN]
theorem flatN_pack : ∀ (k : Nat) (ns : List Nat), ns.length = k → ns.Pairwise (· < ·) → flatN (packS ns) = ns := by
  intro k
  induction k with
  | zero =>
    intro ns h _
    rw [List.length_eq_zero_iff.1 h]
    rfl
  | succ k ih =>
    intro ns h hp
    obtain ⟨r, n, rfl⟩ : ∃ r n, ns = r ++ [n] := by
      rcases List.eq_nil_or_concat ns with h9 | ⟨r, n, h9⟩
      · rw [h9] at h; simp at h
      · exact ⟨r, n, by simpa using h9⟩
    have hr : r.length = k := by rw [List.length_append, List.length_singleton] at h; omega
    obtain ⟨p1, _, p3⟩ := List.pairwise_append.1 hp
    have hi := ih r hr p1
    obtain ⟨_, l2, l3, l4⟩ := packS_last k r hr p1
    rw [packS_snoc]
    rcases snoc_cases (packS r) with h9 | ⟨q, b, h9⟩
    · rw [h9, putS_nil]
      have : r = [] := l2.1 h9
      subst this
      simp [flatN]
    · have hne : r ≠ [] := fun e => by have := l2.2 e; rw [this] at h9; simp at h9
      obtain ⟨m, hm⟩ : ∃ m, r.getLast? = some m := by
        cases hg : r.getLast? with
        | none => rw [List.getLast?_eq_none_iff] at hg; exact absurd hg hne
        | some m => exact ⟨m, rfl⟩
      have hbm := l4 q b m h9 hm
      have hmem : m ∈ r := List.mem_of_getLast? hm
      have hmn : m < n := p3 m hmem n (by simp)
      have hbb := l3 b (by rw [h9]; simp)
      rw [h9] at hi ⊢
      by_cases hf : b.2 + 1 < n
      · rw [putS_far (s := (n, n)) hf, flatN_snoc, hi]
        simp
      · rw [putS_near (s := (n, n)) hf, flatN_snoc]
        rw [flatN_snoc] at hi
        have e : n = b.2 + 1 := by omega
        simp only
        rw [show max b.2 n = b.2 + 1 by omega, show b.2 + 1 - b.1 + 1 = (b.2 - b.1 + 1) + 1 by omega, List.range'_concat, ← List.append_assoc, hi]
        congr 1
        simp
        omega
theorem numsF_flat : ∀ (l : List Sp) (acc : List Nat), (∀ s ∈ l, 1 ≤ s.1 ∧ s.1 ≤ s.2) → acc.length + (flatN l).length ≤ 65536 → numsF acc l = some (acc ++ flatN l)
  | [], acc, _, _ => by simp [numsF, flatN]
  | s :: r, acc, h, hl => by
    have h1 := h s List.mem_cons_self
    have e : flatN (s :: r) = List.range' s.1 (s.2 - s.1 + 1) ++ flatN r := by simp [flatN]
    rw [e, List.length_append, List.length_range'] at hl
    rw [numsF, if_neg (by rintro (h9 | h9 | h9) <;> omega), e, ← List.append_assoc]
    exact numsF_flat r _ (fun x hx => h x (List.mem_cons_of_mem _ hx)) (by rw [List.length_append, List.length_range']; omega)
theorem rise_pair {ns : List Nat} (h : chk ns = 0) : ns.Pairwise (· < ·) ∧ ns.length ≤ 65536 := by
  unfold chk at h
  split at h
  · rename_i hr
    split at h
    · rename_i hl
      exact ⟨rise_of (fun j hj => ((rises_iff ns 0).1 hr).2 j hj), hl⟩
    · cases h
  · cases h
theorem packR_len (ns : List Nat) : (packR ns).1.length ≤ 1024 := by
  unfold packR
  split
  · split
    · simp
    · split
      · assumption
      · simp
  · simp
theorem packR_ok {ns : List Nat} (h : (packR ns).2 = 0) : (packR ns).1 = packS ns := by
  unfold packR at h ⊢
  split
  · rename_i h1
    rw [if_pos h1] at h
    split
    · rename_i h2; rw [if_pos h2] at h; cases h
    · rename_i h2
      rw [if_neg h2] at h
      split
      · rfl
      · rename_i h3; rw [if_neg h3] at h; cases h
  · rename_i h1; rw [if_neg h1] at h; cases h
theorem ofR_cases {w : Nat} {ns : List Nat} (h : (ofR w ns).2 = 0) : w ≤ 15 ∧ ¬ 0 ∈ ns ∧ chk ns = 0 ∧ ((ns = [] ∧ (ofR w ns).1 = ⟨w, 0, 0, 0, []⟩) ∨ (ns ≠ [] ∧ (bitW w 4 = true → (packR ns).2 = 0) ∧ (ofR w ns).1 = ofT w ns (packR ns).1)) := by
  unfold ofR at h ⊢
  by_cases h1 : 15 < w ∨ 0 ∈ ns
  · rw [if_pos h1] at h; cases h
  · rw [if_neg h1] at h
    have hw : w ≤ 15 := by rcases Nat.lt_or_ge 15 w with h9 | h9; exact absurd (.inl h9) h1; exact h9
    have hm : ¬ 0 ∈ ns := fun h9 => h1 (.inr h9)
    by_cases h2 : chk ns ≠ 0
    · rw [if_pos h2] at h; exact absurd h h2
    · rw [if_neg h2] at h
      have hc : chk ns = 0 := by omega
      rw [if_neg h1, if_neg h2]
      by_cases h3 : ns = []
      · rw [if_pos h3]
        exact ⟨hw, hm, hc, .inl ⟨h3, rfl⟩⟩
      · rw [if_neg h3] at h ⊢
        by_cases h4 : bitW w 4 = true ∧ (packR ns).2 ≠ 0
        · rw [if_pos h4] at h; cases h
        · rw [if_neg h4]
          refine ⟨hw, hm, hc, .inr ⟨h3, fun h5 => ?_, rfl⟩⟩
          rcases Nat.eq_zero_or_pos (packR ns).2 with h6 | h6
          · exact h6
          · exact absurd ⟨h5, by omega⟩ h4
/-- What a right tally is, as far as its text asks. -/
theorem right_facts {t : Tly} (h : rightT t = true) : t.want ≤ 15 ∧ wanted t = true ∧ t.all.length ≤ 1024 ∧ 0 ≤ t.many ∧ t.many ≤ 65536 := by
  have h0 := right_many h
  unfold rightT at h
  split at h
  · cases h
  · rename_i hno
    have hw15 : t.want ≤ 15 := by rcases Nat.lt_or_ge 15 t.want with h9 | h9; exact absurd (.inl h9) hno; exact h9
    have hw : wanted t = true := by
      cases hw : wanted t with
      | true => rfl
      | false => exact absurd (.inr hw) hno
    have hwu := hw
    unfold wanted at hwu
    simp only [Bool.and_eq_true, Bool.or_eq_true, decide_eq_true_eq] at hwu
    refine ⟨hw15, hw, ?_, h0, ?_⟩
    · split at h
      · unfold ofAll at h
        split at h
        · cases h
        · rename_i ns _
          simp only [Bool.and_eq_true, decide_eq_true_eq] at h
          obtain ⟨e0, _, _, _, e4⟩ := h
          rw [e4]
          rcases (ofR_cases e0).2.2.2 with ⟨_, e⟩ | ⟨_, _, e⟩
          · rw [e]; simp
          · rw [e]
            show (if bitW t.want 4 = true then (packR ns).1 else []).length ≤ 1024
            by_cases hb4 : bitW t.want 4 = true
            · rw [if_pos hb4]; exact packR_len ns
            · rw [if_neg hb4]; exact Nat.zero_le _
      · rename_i hb
        rcases hwu.2.2.1 with h9 | h9
        · exact absurd h9 hb
        · omega
    · split at h
      · unfold ofAll at h
        split at h
        · cases h
        · rename_i ns _
          simp only [Bool.and_eq_true, decide_eq_true_eq] at h
          obtain ⟨e0, e1, _⟩ := h
          rw [e1]
          have hcs := ofR_cases e0
          have hl := (rise_pair hcs.2.2.1).2
          rcases hcs.2.2.2 with ⟨_, e⟩ | ⟨_, _, e⟩
          · rw [e]; simp
          · rw [e]
            show (if bitW t.want 8 = true then (ns.length : Int) else 0) ≤ 65536
            split <;> omega
      · rw [Bool.or_eq_true] at h
        rcases h with h | h
        · unfold ofNone at h; rw [decide_eq_true_eq] at h; omega
        · unfold ofSome at h
          split at h
          · cases h
          · split at h
            · rename_i hb
              rcases hwu.2.2.2 with h9 | h9
              · rw [hb] at h9; cases h9
              · omega
            · rw [decide_eq_true_eq] at h; exact h.2.1
theorem textT_no32 (t : Tly) (k : Nat) : ∀ x ∈ textT t k, x ≠ 32 := by
  unfold textT
  split
  · exact dec_no32
  · split
    · exact dec_no32
    · split
      · unfold writeR
        split
        · simp
        · exact writeP_no32 _
      · split
        · exact dec_no32
        · simp
/-- What a right tally tells is read as it. -/
theorem back_right {t : Tly} (hf : FitT t) (ha : ∀ x ∈ t.all, FitS x) (h : rightT t = true) : parT t.want (bodyT t) = t := by
  obtain ⟨h15, hw, hal, hm0, hm1⟩ := right_facts h
  unfold wanted at hw
  simp only [Bool.and_eq_true, Bool.or_eq_true, decide_eq_true_eq] at hw
  unfold parT
  rw [body_rest, read_rest t (textT_no32 t) wordsT _ words_apart]
  obtain ⟨wt, mn, lo, hi, al⟩ := t
  obtain ⟨_, _, f2, f3⟩ := hf
  simp only at f2 f3 hal hm0 hm1 hw ha ⊢
  simp only [wordsT, List.foldl_cons, List.foldl_nil]
  have s1 : (if textT ⟨wt, mn, lo, hi, al⟩ 1 = [] then (⟨wt, 0, 0, 0, []⟩ : Tly) else readT ⟨wt, 0, 0, 0, []⟩ 1 (textT ⟨wt, mn, lo, hi, al⟩ 1)) = ⟨wt, 0, lo, 0, []⟩ := by
    by_cases z : lo = 0
    · subst z; simp [textT]
    · have e : textT ⟨wt, mn, lo, hi, al⟩ 1 = Lib.decDigits lo := by simp [textT, z]
      rw [e, if_neg (dec_ne lo)]
      simp [readT, nText_dec f2]
  rw [s1]
  have s2 : (if textT ⟨wt, mn, lo, hi, al⟩ 2 = [] then (⟨wt, 0, lo, 0, []⟩ : Tly) else readT ⟨wt, 0, lo, 0, []⟩ 2 (textT ⟨wt, mn, lo, hi, al⟩ 2)) = ⟨wt, 0, lo, hi, []⟩ := by
    by_cases z : hi = 0
    · subst z; simp [textT]
    · have e : textT ⟨wt, mn, lo, hi, al⟩ 2 = Lib.decDigits hi := by simp [textT, z]
      rw [e, if_neg (dec_ne hi)]
      simp [readT, nText_dec f3]
  rw [s2]
  have s3 : (if textT ⟨wt, mn, lo, hi, al⟩ 4 = [] then (⟨wt, 0, lo, hi, []⟩ : Tly) else readT ⟨wt, 0, lo, hi, []⟩ 4 (textT ⟨wt, mn, lo, hi, al⟩ 4)) = ⟨wt, 0, lo, hi, al⟩ := by
    by_cases z : al = []
    · subst z; simp [textT]
    · have hl0 : al.length ≠ 0 := fun e => z (List.length_eq_zero_iff.1 e)
      have e : textT ⟨wt, mn, lo, hi, al⟩ 4 = writeP al := by
        have e1 : textT ⟨wt, mn, lo, hi, al⟩ 4 = (writeR al).1 := by simp [textT, z]
        rw [e1]
        unfold writeR
        rw [if_neg (by rintro (h9 | h9); exact z h9; omega)]
      have hp := (parse_write z hal ha).1
      rw [e]
      have hne : writeP al ≠ [] := by
        intro e9
        rw [e9] at hp
        have h9 : (parseP []).2 = 0 := by rw [hp]
        revert h9
        decide
      rw [if_neg hne]
      simp [readT, hp]
  rw [s3]
  by_cases z : bitW wt 8 = true
  · have e : textT ⟨wt, mn, lo, hi, al⟩ 8 = Lib.decDigits mn.toNat := by simp [textT, z]
    rw [e, if_neg (dec_ne _)]
    have hn : nText (Lib.decDigits mn.toNat) = mn.toNat := nText_dec (by omega)
    simp [readT, hn]
    omega
  · have e : textT ⟨wt, mn, lo, hi, al⟩ 8 = [] := by simp [textT, z]
    rw [e, if_pos rfl]
    rcases hw.2.2.2 with h9 | h9
    · exact absurd h9 z
    · rw [h9]
theorem parse_right {t : Tly} (hf : FitT t) (ha : ∀ x ∈ t.all, FitS x) (h : rightT t = true) : parseT t.want (writeT t).1 = (t, 0) := by
  have e : writeT t = (bodyT t, 0) := by unfold writeT; rw [if_pos h]
  rw [e]
  unfold parseT
  have hw := (right_facts h).1
  rw [if_neg (by omega), back_right hf ha h, if_pos e]
end Go.Proofs.YtlolilhlpbpfjaaGreatDoor

/-
  A tally of numbers is right: plain mathematics.
-/
set_option linter.unusedVariables false
set_option linter.unusedSimpArgs false
namespace Go.Proofs.YtlolilhlpbpfjaaGreatDoor
open Go.RowKit Go.Proofs.Nst Go.Proofs.Dct

theorem rise_gap : ∀ (ns : List Nat), ns.Pairwise (· < ·) → ∀ a r, ns = a :: r → a + ns.length ≤ ns.getLastD 0 + 1
  | [], _, a, r, e => by simp at e
  | [x], _, a, r, e => by injection e with e1 e2; subst e1; simp
  | x :: y :: s, h, a, r, e => by
    injection e with e1 e2
    subst e1
    rw [List.pairwise_cons] at h
    have h1 := h.1 y (by simp)
    have ih := rise_gap (y :: s) h.2 y s rfl
    have e3 : (x :: y :: s).getLastD 0 = (y :: s).getLastD 0 := by simp
    rw [e3]
    simp only [List.length_cons] at ih ⊢
    omega
theorem of_right {w : Nat} {ns : List Nat} (hfit : ∀ n ∈ ns, n ≤ 4294967295) (h : (ofR w ns).2 = 0) : rightT (ofR w ns).1 = true := by
  obtain ⟨hw, hm, hc, hh⟩ := ofR_cases h
  obtain ⟨hp, hl⟩ := rise_pair hc
  rcases hh with ⟨hn, e⟩ | ⟨hn, h4, e⟩
  · rw [e]
    unfold rightT
    have hwd : wanted ⟨w, 0, 0, 0, []⟩ = true := by simp [wanted]
    rw [if_neg (by rintro (h9 | h9); exact absurd h9 (by simp only; omega); rw [hwd] at h9; cases h9)]
    split
    · unfold ofAll
      subst hn
      simp only [numsF]
      rw [e]
      simp [h]
    · simp [ofNone]
  · obtain ⟨a, r, har⟩ : ∃ a r, ns = a :: r := by
      cases ns with
      | nil => exact absurd rfl hn
      | cons a r => exact ⟨a, r, rfl⟩
    have hgap := rise_gap ns hp a r har
    have ha : a ≠ 0 := fun h9 => hm (by rw [har, h9]; simp)
    have hd : ns.headD 0 = a := by rw [har]; rfl
    have hlast : ns.getLastD 0 ≤ 4294967295 := by
      rw [List.getLastD_eq_getLast?]
      cases hg : ns.getLast? with
      | none => simp
      | some m => exact hfit m (List.mem_of_getLast? hg)
    have hlen : 1 ≤ ns.length := by rw [har]; simp
    unfold rightT
    have hwd : wanted (ofR w ns).1 = true := by
      rw [e]
      unfold wanted ofT
      simp only [Bool.and_eq_true, Bool.or_eq_true, decide_eq_true_eq]
      refine ⟨?_, ?_, ?_, ?_⟩
      · cases hb : bitW w 1 <;> simp
      · cases hb : bitW w 2 <;> simp
      · cases hb : bitW w 4 <;> simp
      · cases hb : bitW w 8 <;> simp
    have hwt : (ofR w ns).1.want = w := by rw [e]; rfl
    rw [if_neg (by rintro (h9 | h9); rw [hwt] at h9; omega; rw [hwd] at h9; cases h9), hwt]
    split
    · rename_i hb4
      have hall : (ofR w ns).1.all = packS ns := by
        rw [e]
        show (if bitW w 4 = true then (packR ns).1 else []) = packS ns
        rw [if_pos hb4, packR_ok (h4 hb4)]
      have hfl := flatN_pack _ ns rfl hp
      have hapart := (packS_ok hp).1
      have hmem := (packS_ok hp).2
      have hpos : ∀ s ∈ packS ns, 1 ≤ s.1 ∧ s.1 ≤ s.2 := by
        intro s hs
        have h1 := hapart.ok s hs
        refine ⟨?_, h1⟩
        rcases Nat.eq_zero_or_pos s.1 with h9 | h9
        · have h2 : memS 0 (packS ns) = true := memS_iff.2 ⟨s, hs, by omega, by omega⟩
          rw [hmem, decide_eq_true_eq] at h2
          exact absurd h2 hm
        · exact h9
      have hnu := numsF_flat (packS ns) [] hpos (by rw [hfl]; simpa using hl)
      rw [hfl, List.nil_append] at hnu
      unfold ofAll
      rw [hall, hnu, hwt]
      simp only
      rw [← hall]
      simp [h]
    · rename_i hb4
      rw [e, Bool.or_eq_true]
      right
      have hL : leastE (ofT w ns (packR ns).1) = if bitW w 1 = true then a else 1 := by
        unfold leastE ofT
        simp only
        rw [hd]
        by_cases hb : bitW w 1 = true
        · rw [if_pos hb, if_pos hb, if_pos hb]
        · rw [if_neg hb, if_neg hb]
      have hM : mostE (ofT w ns (packR ns).1) = if bitW w 2 = true then ns.getLastD 0 else 4294967295 := by
        unfold mostE ofT
        simp only
        by_cases hb : bitW w 2 = true
        · rw [if_pos hb, if_pos hb, if_pos hb]
        · rw [if_neg hb, if_neg hb]
      have hLa : 1 ≤ leastE (ofT w ns (packR ns).1) ∧ leastE (ofT w ns (packR ns).1) ≤ a := by rw [hL]; split <;> omega
      have hMa : ns.getLastD 0 ≤ mostE (ofT w ns (packR ns).1) := by rw [hM]; split <;> omega
      unfold ofSome
      rw [if_neg (by rintro (h9 | h9) <;> omega)]
      have hwt2 : (ofT w ns (packR ns).1).want = w := rfl
      rw [hwt2]
      by_cases hb8 : bitW w 8 = false
      · rw [if_pos hb8]
      · rw [if_neg hb8, decide_eq_true_eq]
        have hmany : (ofT w ns (packR ns).1).many = (ns.length : Int) := by
          show (if bitW w 8 = true then (ns.length : Int) else 0) = _
          rw [if_pos (by simpa using hb8)]
        rw [hmany]
        refine ⟨?_, by omega, by omega⟩
        unfold fewE
        split
        · rename_i h9
          have hb1 : bitW w 1 = true := by
            cases hb : bitW w 1 with
            | true => rfl
            | false =>
              exfalso
              apply h9.1
              show (if bitW w 1 = true then ns.headD 0 else 0) = 0
              rw [hb]; rfl
          have hb2 : bitW w 2 = true := by
            cases hb : bitW w 2 with
            | true => rfl
            | false =>
              exfalso
              apply h9.2.1
              show (if bitW w 2 = true then ns.getLastD 0 else 0) = 0
              rw [hb]; rfl
          have h10 := h9.2.2
          rw [hL, hM, if_pos hb1, if_pos hb2] at h10
          have : ns.length ≠ 1 := by
            intro h11
            rw [har] at h11 h10
            have hr : r = [] := by simpa using h11
            subst hr
            exact h10 rfl
          omega
        · omega
theorem ofR_fit {w : Nat} {ns : List Nat} (hw : w ≤ 255) (hfit : ∀ n ∈ ns, n ≤ 4294967295) : FitT (ofR w ns).1 ∧ (ofR w ns).1.all.length ≤ 1024 := by
  have hz : FitT zT ∧ zT.all.length ≤ 1024 := ⟨⟨by decide, ⟨by decide, by decide⟩, by decide, by decide⟩, by decide⟩
  by_cases h : (ofR w ns).2 = 0
  · obtain ⟨_, hm, hc, hh⟩ := ofR_cases h
    have hl := (rise_pair hc).2
    rcases hh with ⟨hn, e⟩ | ⟨hn, h4, e⟩
    · rw [e]; exact ⟨⟨hw, ⟨by show (-9223372036854775808 : Int) ≤ 0; decide, by show (0 : Int) ≤ 9223372036854775807; decide⟩, by simp, by simp⟩, by simp⟩
    · rw [e]
      have hlast : ns.getLastD 0 ≤ 4294967295 := by
        rw [List.getLastD_eq_getLast?]
        cases hg : ns.getLast? with
        | none => simp
        | some m => exact hfit m (List.mem_of_getLast? hg)
      have hhead : ns.headD 0 ≤ 4294967295 := by
        cases ns with
        | nil => simp
        | cons a r => exact hfit a (by simp)
      refine ⟨⟨hw, ?_, ?_, ?_⟩, ?_⟩
      · show -9223372036854775808 ≤ (if bitW w 8 = true then (ns.length : Int) else 0) ∧ (if bitW w 8 = true then (ns.length : Int) else 0) ≤ 9223372036854775807
        by_cases hb : bitW w 8 = true
        · rw [if_pos hb]; omega
        · rw [if_neg hb]; omega
      · show (if bitW w 1 = true then ns.headD 0 else 0) ≤ _
        split
        · exact hhead
        · omega
      · show (if bitW w 2 = true then ns.getLastD 0 else 0) ≤ _
        split
        · exact hlast
        · omega
      · show (if bitW w 4 = true then (packR ns).1 else []).length ≤ 1024
        by_cases hb4 : bitW w 4 = true
        · rw [if_pos hb4]; exact packR_len ns
        · rw [if_neg hb4]; exact Nat.zero_le _
  · have e : (ofR w ns).1 = zT := by
      unfold ofR at h ⊢
      by_cases h1 : 15 < w ∨ 0 ∈ ns
      · rw [if_pos h1]
      · rw [if_neg h1] at h ⊢
        by_cases h2 : chk ns ≠ 0
        · rw [if_pos h2]
        · rw [if_neg h2] at h ⊢
          by_cases h3 : ns = []
          · rw [if_pos h3] at h; exact absurd rfl h
          · rw [if_neg h3] at h ⊢
            by_cases h4 : bitW w 4 = true ∧ (packR ns).2 ≠ 0
            · rw [if_pos h4]
            · rw [if_neg h4] at h; exact absurd rfl h
    rw [e]; exact hz
end Go.Proofs.YtlolilhlpbpfjaaGreatDoor

/-
  TallyHolds, walked over this seat's program.
-/
set_option linter.unusedVariables false
set_option linter.unusedSimpArgs false
namespace Go.Proofs.YtlolilhlpbpfjaaGreatDoor
open Go.RowKit Go.Proofs.Nst

theorem count_pack {ns : List Nat} (h : chk ns = 0) (hl : (packS ns).length ≤ 1024) : countR 0 (packS ns) = (ns.length, 0) := by
  obtain ⟨hp, _⟩ := rise_pair h
  unfold countR
  rw [if_pos hl, (apartS_self (packS_ok hp).1 (.inl rfl)).1, packS_cnt hp]
/-- What the tally of all that may be wanted is, and any other one beside it. -/
structure Holds2 (wt : Nat) (ns : List Nat) (a s : Tly) (k1 k2 : Nat) : Prop where
  fit : a.all.length ≤ 1024
  cnt : k1 = 0 → countR 0 a.all = (ns.length, 0) ∧ a.many = (ns.length : Int) ∧ ns.length ≤ 65536
  ends : k1 = 0 → ns ≠ [] → a.least = ns.headD 0 ∧ a.most = ns.getLastD 0
  bad : k1 = 0 → k2 ≠ 0 → 15 < wt
  ok : k1 = 0 → k2 = 0 → (s.least = 0 ∨ s.least = a.least) ∧ (s.most = 0 ∨ s.most = a.most) ∧ (s.many = 0 ∨ s.many = a.many) ∧ (s.all.length = 0 ∨ s.all.length = a.all.length)
theorem holds2 (wt : Nat) (hw : wt ≤ 255) (ns : List Nat) (hfit : ∀ n ∈ ns, n ≤ 4294967295) : Holds2 wt ns (ofR 15 ns).1 (ofR wt ns).1 (ofR 15 ns).2 (ofR wt ns).2 := by
  have b1 : bitW 15 1 = true := by decide
  have b2 : bitW 15 2 = true := by decide
  have b4 : bitW 15 4 = true := by decide
  have b8 : bitW 15 8 = true := by decide
  have e15 : ∀ P, ofT 15 ns P = ⟨15, (ns.length : Int), ns.headD 0, ns.getLastD 0, P⟩ := fun P => by unfold ofT; rw [if_pos b8, if_pos b1, if_pos b2, if_pos b4]
  refine ⟨(ofR_fit (by decide) hfit).2, fun h => ?_, fun h hne => ?_, fun h h2 => ?_, fun h h2 => ?_⟩
  · obtain ⟨_, hm, hc, hh⟩ := ofR_cases h
    have hl := (rise_pair hc).2
    rcases hh with ⟨hn, e⟩ | ⟨hn, h4, e⟩
    · rw [e, hn]; exact ⟨count_pack (ns := []) rfl (by decide), rfl, by decide⟩
    · rw [e, e15, packR_ok (h4 b4)]
      refine ⟨count_pack hc ?_, rfl, hl⟩
      rw [← packR_ok (h4 b4)]; exact packR_len ns
  · obtain ⟨_, hm, hc, hh⟩ := ofR_cases h
    rcases hh with ⟨hn, e⟩ | ⟨hn, h4, e⟩
    · exact absurd hn hne
    · rw [e, e15]; exact ⟨rfl, rfl⟩
  · obtain ⟨_, hm, hc, hh⟩ := ofR_cases h
    rcases Nat.lt_or_ge 15 wt with h9 | h9
    · exact h9
    · exfalso
      apply h2
      unfold ofR
      rw [if_neg (by rintro (h8 | h8); omega; exact hm h8), if_neg (by omega)]
      rcases hh with ⟨hn, e⟩ | ⟨hn, h4, e⟩
      · rw [if_pos hn]
      · rw [if_neg hn, if_neg (fun h8 => h8.2 (h4 b4))]
  · obtain ⟨_, hm, hc, hh⟩ := ofR_cases h
    obtain ⟨_, _, _, hh2⟩ := ofR_cases h2
    rcases hh2 with ⟨hn2, e2⟩ | ⟨hn2, h42, e2⟩
    · rw [e2]; exact ⟨.inl rfl, .inl rfl, .inl rfl, .inl rfl⟩
    · rcases hh with ⟨hn, e⟩ | ⟨hn, h4, e⟩
      · exact absurd hn hn2
      · rw [e, e2, e15]
        refine ⟨?_, ?_, ?_, ?_⟩
        · show (if bitW wt 1 = true then ns.headD 0 else 0) = 0 ∨ (if bitW wt 1 = true then ns.headD 0 else 0) = ns.headD 0
          by_cases hb : bitW wt 1 = true
          · rw [if_pos hb]; exact .inr rfl
          · rw [if_neg hb]; exact .inl rfl
        · show (if bitW wt 2 = true then ns.getLastD 0 else 0) = 0 ∨ (if bitW wt 2 = true then ns.getLastD 0 else 0) = ns.getLastD 0
          by_cases hb : bitW wt 2 = true
          · rw [if_pos hb]; exact .inr rfl
          · rw [if_neg hb]; exact .inl rfl
        · show (if bitW wt 8 = true then (ns.length : Int) else 0) = 0 ∨ (if bitW wt 8 = true then (ns.length : Int) else 0) = (ns.length : Int)
          by_cases hb : bitW wt 8 = true
          · rw [if_pos hb]; exact .inr rfl
          · rw [if_neg hb]; exact .inl rfl
        · show (if bitW wt 4 = true then (packR ns).1 else []).length = 0 ∨ (if bitW wt 4 = true then (packR ns).1 else []).length = (packR ns).1.length
          by_cases hb : bitW wt 4 = true
          · rw [if_pos hb]; exact .inr rfl
          · rw [if_neg hb]; exact .inl rfl

set_option maxHeartbeats 8000000 in
set_option maxRecDepth 100000 in
theorem tallyHolds_walk (wt : Nat) (v : Value) (ns : List Nat) (w : World) (ht : TabY w) (hn : RowN w v ns) (hw : wt ≤ 255) (hl : ns.length ≤ 1048576) :
    Calls Tryz.prog 3 #[.int .u8 (wt : Int), v] w fun e w' => e = .returned (.bool true) ∧ Below w.heap.size w w' := by
  have hfit : ∀ n ∈ ns, n ≤ 4294967295 := by obtain ⟨_, _, _, _, h9, _⟩ := id hn; exact h9
  have HH := hide (holds2 wt hw ns hfit)
  have HL := hide (livesT_any w ht)
  have HO1 := hide (fun W (hb : Below w.heap.size w W) => of_any 15 v ns W (RowN.below hn hb) hl (by decide))
  have HO2 := hide (fun W (hb : Below w.heap.size w W) => of_any wt v ns W (RowN.below hn hb) hl hw)
  obtain ⟨a, ha⟩ : ∃ a, a = (ofR 15 ns).1 := ⟨_, rfl⟩
  obtain ⟨k1, hk1⟩ : ∃ k, k = (ofR 15 ns).2 := ⟨_, rfl⟩
  obtain ⟨s, hs⟩ : ∃ a, a = (ofR wt ns).1 := ⟨_, rfl⟩
  obtain ⟨k2, hk2⟩ : ∃ k, k = (ofR wt ns).2 := ⟨_, rfl⟩
  simp only [← ha, ← hk1] at HO1
  simp only [← hs, ← hk2] at HO2
  rw [← ha, ← hk1, ← hs, ← hk2] at HH
  have HRN := hide (fun W (hb : Below w.heap.size w W) => RowN.below hn hb)
  have HN0 := hide hn
  obtain ⟨av, cv, hvv, _⟩ := id hn
  obtain ⟨T, hT⟩ : ∃ T, T = ns.length := ⟨_, rfl⟩
  rw [← hT] at hvv hl
  subst hvv
  have HTL := hide hT
  clear ht hn ha hk1 hs hk2 hfit hT
  go_enter Tryz.func3, Tryz.ntmps3
  go_wp2_with fail
  refine (unhide HL).mono ?_
  rintro e w1 ⟨rfl, b1⟩
  have HB1 := hide b1
  clear b1 HL
  go_wp2_with fail
  refine (unhide HO1 _ (unhide HB1)).mono ?_
  rintro e w2 ⟨va, rfl, ra, b2⟩
  obtain ⟨aa, ca, rfl, _⟩ := id ra
  obtain ⟨na, hna⟩ : ∃ na, na = a.all.length := ⟨_, rfl⟩
  rw [← hna] at ra ⊢
  have HNA := hide hna
  have p2 := Below.alloc (Below.refl _ w2) (Nat.le_refl _) (.cells (tlC a (.slice aa na ca)) 28)
  have HB2 := hide (belows' (belows' (unhide HB1) b2) p2)
  have HRA := hide (RowSp.below ra p2)
  have HKA := hide (Blk.new w2 28 (tlC a (.slice aa na ca)))
  clear b2 p2 ra HB1 HO1 hna
  obtain ⟨wa, ma, la, xa, ala⟩ := a
  simp only [tlV, tlC] at HB2 HRA HKA ⊢
  go_upto_region 4 with (fail)
  generalize w2.alloc (.cells #[.int .u8 (wa : Int), .int .i64 ma, .int .u32 (la : Int), .int .u32 (xa : Int), .slice aa na ca] 28) = v2 at HB2 HRA HKA ⊢
  generalize w2.heap.size = kA at HKA ⊢
  by_cases z : k1 = 0
  · have q0 : ((k1 : Int) != 0) = false := by simp [z]
    obtain ⟨hcnt, hmany, hlen⟩ := (unhide HH).cnt z
    have hends := (unhide HH).ends z
    have hbad := (unhide HH).bad z
    have hok := (unhide HH).ok z
    simp only at hcnt hmany hends hok
    have HC := hide (ncount_any (.slice aa na ca) ala 0 v2 (unhide HRA) (by decide))
    rw [hcnt] at HC
    rw [← unhide HTL] at HC hmany hlen
    have HMA := hide hmany
    have HEN := hide hends
    have HBAD := hide hbad
    have HOK := hide hok
    simp only at HC
    clear hcnt hmany hends hbad hok HH z HRA
    have m0 := (unhide HKA).cell 0
    have m1 := (unhide HKA).cell 1
    have m2 := (unhide HKA).cell 2
    have m3 := (unhide HKA).cell 3
    have m4 := (unhide HKA).cell 4
    simp only [List.getElem?_toArray, List.getElem?_cons_succ, List.getElem?_cons_zero] at m0 m1 m2 m3 m4
    go_wp2_with fail
    refine (unhide HC).mono ?_
    rintro e w3 ⟨rfl, b3⟩
    have HB3 := hide (belows' (unhide HB2) b3)
    have HK3 := hide ((unhide HKA).below b3)
    clear b3 HC HB2 HKA m0 m1 m2 m3 m4
    have m0 := (unhide HK3).cell 0
    have m1 := (unhide HK3).cell 1
    have m2 := (unhide HK3).cell 2
    have m3 := (unhide HK3).cell 3
    have m4 := (unhide HK3).cell 4
    simp only [List.getElem?_toArray, List.getElem?_cons_succ, List.getElem?_cons_zero] at m0 m1 m2 m3 m4
    have hmm := unhide HMA
    subst hmm
    have wT : IntKind.u64.wrap (T : Int) = (T : Int) := by rw [IntKind.wrap_u64]; omega
    go_upto_region 7 with (fail)
    go_cut [65] from 26 to 64 (fun q wx => q = .bool false ∧ Below w.heap.size w wx ∧ Below w3.heap.size w3 wx)
    case first =>
      by_cases zT : T = 0
      · have qT : ¬ 0 < T := by omega
        have qT2 : ¬ (T : Int) > 0 := by omega
        have HZT := hide zT
        clear zT
        go_quiet (fail)
        go_wp2
        go_meet
        exact ⟨rfl, below_dr (unhide HB3) _, below_dr (Below.refl _ _) _⟩
      · have hns : ns ≠ [] := fun e => zT (by rw [unhide HTL, e]; rfl)
        obtain ⟨hla, hxa⟩ := unhide HEN hns
        have hT1 : T - 1 < ns.length := by have := unhide HTL; omega
        have hx0 : ns[0]? = some la := by rw [hla, List.headD_eq_head?_getD, List.head?_eq_getElem?, List.getElem?_eq_getElem (show 0 < ns.length by omega)]; rfl
        have hxl : ns[T - 1]? = some xa := by
          rw [hxa, List.getLastD_eq_getLast?, List.getLast?_eq_getElem?, ← unhide HTL, List.getElem?_eq_getElem hT1]; rfl
        have hn0 := unhide HN0
        obtain ⟨b, off, rfl, r0⟩ := RowN.num hn0 hx0
        obtain ⟨b', off', hbb, rL⟩ := RowN.num hn0 hxl
        injection hbb with hbb
        injection hbb with e7 e8
        subst e7 e8
        have c0 := r0 w3 (unhide HB3)
        have cL := rL w3 (unhide HB3)
        rw [Nat.add_zero] at c0
        have hIT : IntKind.i64.wrap ((T : Int) - 1) = ((T - 1 : Nat) : Int) := by rw [IntKind.wrap_i64]; omega
        have hI0 := fun W => index_runN b off T cv 0 0 rfl (by omega) W
        have hIL := fun W => index_runN b off T cv (T - 1) ((T - 1 : Nat) : Int) rfl (by omega) W
        have qT : 0 < T := by omega
        have qT2 : (T : Int) > 0 := by omega
        have q8 : ((la : Int) != (la : Int)) = false := by simp
        clear hla hxa hx0 hxl hn0 r0 rL hns zT hT1
        go_quiet (fail)
        go_wp2
        go_meet
        exact ⟨rfl, below_dr (unhide HB3) _, below_dr (Below.refl _ _) _⟩
    case rest =>
    obtain ⟨rfl, hB4, hB34⟩ := hcut
    have HB4 := hide hB4
    have HK4 := hide ((unhide HK3).below hB34)
    clear hB4 hB34 HB3 HK3 m0 m1 m2 m3 m4
    go_wp2_with fail
    refine (unhide HO2 _ (unhide HB4)).mono ?_
    rintro e w5 ⟨vs, rfl, rs, b5⟩
    obtain ⟨sa, cs, rfl, _⟩ := id rs
    obtain ⟨n2, hn2⟩ : ∃ n2, n2 = s.all.length := ⟨_, rfl⟩
    rw [← hn2] at rs ⊢
    have HN2 := hide hn2
    have p5 := Below.alloc (Below.refl _ w5) (Nat.le_refl _) (.cells (tlC s (.slice sa n2 cs)) 28)
    have HB5 := hide (belows' (belows' (unhide HB4) b5) p5)
    have HK5 := hide (((unhide HK4).below b5).below p5)
    have HKS := hide (Blk.new w5 28 (tlC s (.slice sa n2 cs)))
    clear b5 p5 rs HB4 HK4 HO2 hn2
    obtain ⟨ws, ms, ls, xs, als⟩ := s
    simp only [tlV, tlC] at HB5 HK5 HKS ⊢
    go_upto_region 10 with (fail)
    generalize w5.alloc (.cells #[.int .u8 (ws : Int), .int .i64 ms, .int .u32 (ls : Int), .int .u32 (xs : Int), .slice sa n2 cs] 28) = v5 at HB5 HK5 HKS ⊢
    generalize w5.heap.size = kS at HKS ⊢
    by_cases z2 : k2 = 0
    · have q2 : ((k2 : Int) != 0) = false := by simp [z2]
      obtain ⟨o1, o2, o3, o4⟩ := unhide HOK z2
      simp only at o1 o2 o3 o4
      have e4 : n2 = 0 ∨ n2 = na := by
        have h1 := unhide HN2
        have h2 := unhide HNA
        simp only at h1 h2
        omega
      have e1 : ls = 0 ∨ ls = la := o1
      have e2 : xs = 0 ∨ xs = xa := o2
      have e3 : ms = 0 ∨ ms = (T : Int) := o3
      clear z2 HOK HBAD HNA HN2 HEN HMA o1 o2 o3 o4 wT HRN HN0
      have m0 := (unhide HK5).cell 0
      have m1 := (unhide HK5).cell 1
      have m2 := (unhide HK5).cell 2
      have m3 := (unhide HK5).cell 3
      have m4 := (unhide HK5).cell 4
      simp only [List.getElem?_toArray, List.getElem?_cons_succ, List.getElem?_cons_zero] at m0 m1 m2 m3 m4
      have j0 := (unhide HKS).cell 0
      have j1 := (unhide HKS).cell 1
      have j2 := (unhide HKS).cell 2
      have j3 := (unhide HKS).cell 3
      have j4 := (unhide HKS).cell 4
      simp only [List.getElem?_toArray, List.getElem?_cons_succ, List.getElem?_cons_zero] at j0 j1 j2 j3 j4
      by_cases z1 : ls = 0
      · have y1 : ((ls : Int) == 0) = true := by simp [z1]
        clear e1 z1
        by_cases z2 : xs = 0
        · have y2 : ((xs : Int) == 0) = true := by simp [z2]
          clear e2 z2
          by_cases z3 : ms = 0
          · have y3 : (ms == 0) = true := by simp [z3]
            clear e3 z3
            by_cases z4 : n2 = 0
            · have y4 : ((n2 : Int) == 0) = true := by simp [z4]
              clear e4 z4
              go_wp2
              go_ret
              exact ⟨rfl, unhide HB5⟩
            · have y4 : ((n2 : Int) == 0) = false := by simp; omega
              have x4 : ((n2 : Int) == (na : Int)) = true := by rcases e4 with h9 | h9; exact absurd h9 z4; rw [h9]; simp
              clear e4 z4
              go_wp2
              go_ret
              exact ⟨rfl, unhide HB5⟩
          · have y3 : (ms == 0) = false := by simp; omega
            have x3 : (ms == (T : Int)) = true := by rcases e3 with h9 | h9; exact absurd h9 z3; rw [h9]; simp
            clear e3 z3
            by_cases z4 : n2 = 0
            · have y4 : ((n2 : Int) == 0) = true := by simp [z4]
              clear e4 z4
              go_wp2
              go_ret
              exact ⟨rfl, unhide HB5⟩
            · have y4 : ((n2 : Int) == 0) = false := by simp; omega
              have x4 : ((n2 : Int) == (na : Int)) = true := by rcases e4 with h9 | h9; exact absurd h9 z4; rw [h9]; simp
              clear e4 z4
              go_wp2
              go_ret
              exact ⟨rfl, unhide HB5⟩
        · have y2 : ((xs : Int) == 0) = false := by simp; omega
          have x2 : ((xs : Int) == (xa : Int)) = true := by rcases e2 with h9 | h9; exact absurd h9 z2; rw [h9]; simp
          clear e2 z2
          by_cases z3 : ms = 0
          · have y3 : (ms == 0) = true := by simp [z3]
            clear e3 z3
            by_cases z4 : n2 = 0
            · have y4 : ((n2 : Int) == 0) = true := by simp [z4]
              clear e4 z4
              go_wp2
              go_ret
              exact ⟨rfl, unhide HB5⟩
            · have y4 : ((n2 : Int) == 0) = false := by simp; omega
              have x4 : ((n2 : Int) == (na : Int)) = true := by rcases e4 with h9 | h9; exact absurd h9 z4; rw [h9]; simp
              clear e4 z4
              go_wp2
              go_ret
              exact ⟨rfl, unhide HB5⟩
          · have y3 : (ms == 0) = false := by simp; omega
            have x3 : (ms == (T : Int)) = true := by rcases e3 with h9 | h9; exact absurd h9 z3; rw [h9]; simp
            clear e3 z3
            by_cases z4 : n2 = 0
            · have y4 : ((n2 : Int) == 0) = true := by simp [z4]
              clear e4 z4
              go_wp2
              go_ret
              exact ⟨rfl, unhide HB5⟩
            · have y4 : ((n2 : Int) == 0) = false := by simp; omega
              have x4 : ((n2 : Int) == (na : Int)) = true := by rcases e4 with h9 | h9; exact absurd h9 z4; rw [h9]; simp
              clear e4 z4
              go_wp2
              go_ret
              exact ⟨rfl, unhide HB5⟩
      · have y1 : ((ls : Int) == 0) = false := by simp; omega
        have x1 : ((ls : Int) == (la : Int)) = true := by rcases e1 with h9 | h9; exact absurd h9 z1; rw [h9]; simp
        clear e1 z1
        by_cases z2 : xs = 0
        · have y2 : ((xs : Int) == 0) = true := by simp [z2]
          clear e2 z2
          by_cases z3 : ms = 0
          · have y3 : (ms == 0) = true := by simp [z3]
            clear e3 z3
            by_cases z4 : n2 = 0
            · have y4 : ((n2 : Int) == 0) = true := by simp [z4]
              clear e4 z4
              go_wp2
              go_ret
              exact ⟨rfl, unhide HB5⟩
            · have y4 : ((n2 : Int) == 0) = false := by simp; omega
              have x4 : ((n2 : Int) == (na : Int)) = true := by rcases e4 with h9 | h9; exact absurd h9 z4; rw [h9]; simp
              clear e4 z4
              go_wp2
              go_ret
              exact ⟨rfl, unhide HB5⟩
          · have y3 : (ms == 0) = false := by simp; omega
            have x3 : (ms == (T : Int)) = true := by rcases e3 with h9 | h9; exact absurd h9 z3; rw [h9]; simp
            clear e3 z3
            by_cases z4 : n2 = 0
            · have y4 : ((n2 : Int) == 0) = true := by simp [z4]
              clear e4 z4
              go_wp2
              go_ret
              exact ⟨rfl, unhide HB5⟩
            · have y4 : ((n2 : Int) == 0) = false := by simp; omega
              have x4 : ((n2 : Int) == (na : Int)) = true := by rcases e4 with h9 | h9; exact absurd h9 z4; rw [h9]; simp
              clear e4 z4
              go_wp2
              go_ret
              exact ⟨rfl, unhide HB5⟩
        · have y2 : ((xs : Int) == 0) = false := by simp; omega
          have x2 : ((xs : Int) == (xa : Int)) = true := by rcases e2 with h9 | h9; exact absurd h9 z2; rw [h9]; simp
          clear e2 z2
          by_cases z3 : ms = 0
          · have y3 : (ms == 0) = true := by simp [z3]
            clear e3 z3
            by_cases z4 : n2 = 0
            · have y4 : ((n2 : Int) == 0) = true := by simp [z4]
              clear e4 z4
              go_wp2
              go_ret
              exact ⟨rfl, unhide HB5⟩
            · have y4 : ((n2 : Int) == 0) = false := by simp; omega
              have x4 : ((n2 : Int) == (na : Int)) = true := by rcases e4 with h9 | h9; exact absurd h9 z4; rw [h9]; simp
              clear e4 z4
              go_wp2
              go_ret
              exact ⟨rfl, unhide HB5⟩
          · have y3 : (ms == 0) = false := by simp; omega
            have x3 : (ms == (T : Int)) = true := by rcases e3 with h9 | h9; exact absurd h9 z3; rw [h9]; simp
            clear e3 z3
            by_cases z4 : n2 = 0
            · have y4 : ((n2 : Int) == 0) = true := by simp [z4]
              clear e4 z4
              go_wp2
              go_ret
              exact ⟨rfl, unhide HB5⟩
            · have y4 : ((n2 : Int) == 0) = false := by simp; omega
              have x4 : ((n2 : Int) == (na : Int)) = true := by rcases e4 with h9 | h9; exact absurd h9 z4; rw [h9]; simp
              clear e4 z4
              go_wp2
              go_ret
              exact ⟨rfl, unhide HB5⟩
    · have q2 : ((k2 : Int) != 0) = true := by simp; omega
      have hgt := unhide HBAD z2
      have hg : (wt : Int) > 15 := by omega
      clear z2 HOK HBAD hgt
      go_wp2
      go_ret
      exact ⟨by simp, unhide HB5⟩
  · have q0 : ((k1 : Int) != 0) = true := by simp; omega
    clear z HH
    go_wp2
    go_ret
    exact ⟨rfl, unhide HB2⟩
end Go.Proofs.YtlolilhlpbpfjaaGreatDoor

/-
  Tallies that came in, what the second form's bound says of them, and the table of a tally's words out of what the row lays.
-/
set_option linter.unusedVariables false
set_option linter.unusedSimpArgs false
namespace Go.Proofs.YtlolilhlpbpfjaaGreatDoor
open Go.ChangeShapes Go.WideShapes Go.RowKit Go.Proofs.Nst Go.Lib

theorem gWords : Tryz.prog.globalNamed "missive/tally.words" = some 0 := by kernel_rfl
theorem yWords : (Tryz.prog.globals[0]?).map (·.type) = some 56 := by kernel_rfl
theorem cPairW : Tryz.prog.cellsOf 55 = 2 := by kernel_rfl
theorem cStrW : Tryz.prog.cellsOf 9 = 1 := by kernel_rfl
theorem cWant : Tryz.prog.cellsOf 22 = 1 := by kernel_rfl
theorem words_laid : (Rows.laid_missive_tally_words : DataW Unit) = .agg (wordsT.map fun p => .agg [.lit (.string p.1), .lit (.int .u8 (p.2 : Int))]) := by kernel_rfl
theorem two_ofW {α : Type} {l : List α} (h : l.length = 2) : ∃ a b, l = [a, b] := by
  match l, h with
  | [a, b], _ => exact ⟨a, b, rfl⟩

/-- A struct of a text and a number, cell for cell. -/
theorem pair_ofW {H : Type} {enc : TypeId × Value → H} {w : World} {base : Nat} {sp : Nat → Bool} {held : Bool} {fuel : Nat} {cs : List Value} {s : List UInt8} {z : Int} {p : List MemPlace}
    (h : DataW.trod enc Tryz.prog w base sp held fuel 55 cs = some (.agg [.lit (.string s), .lit (.int .u8 z)], p)) : cs = [.string (bts s), .int .u8 z] := by
  obtain ⟨xs, n, rfl, hx, hl, hxl, hall⟩ := DataW.trod_struct Tryz.underlying55 h
  rw [cPairW] at hl
  have hxs : xs.map (·.1) = [.lit (.string s), .lit (.int .u8 z)] := by
    have := congrArg Prod.fst hx
    simpa using this.symm
  obtain ⟨x0, x1, rfl⟩ := two_ofW (show xs.length = 2 by have := congrArg List.length hxs; simpa using this)
  obtain ⟨v0, v1, rfl⟩ := two_ofW hl
  simp only [List.map_cons, List.map_nil, List.cons.injEq, and_true] at hxs
  have h0 := hall 0 _ rfl
  have h1 := hall 1 _ rfl
  simp only [List.getElem?_cons_zero, List.getElem?_cons_succ] at h0 h1
  obtain ⟨t, e0, hx0, _⟩ := DataW.trod_string Tryz.underlying9 h0
  obtain ⟨m, e1, hx1, _⟩ := DataW.trod_int Tryz.underlying22 h1
  rw [hx0, hx1] at hxs
  simp only [DataW.lit.injEq, Lit.string.injEq, Lit.int.injEq, true_and] at hxs
  obtain ⟨hs, hz⟩ := hxs
  subst hs
  subst hz
  have f0 : ([v0, v1].drop 0).take (Tryz.prog.cellsOf 9) = [.string t] := e0
  have f1 : ([v0, v1].drop 1).take (Tryz.prog.cellsOf 22) = [.int .u8 m] := e1
  rw [cStrW] at f0
  rw [cWant] at f1
  simp at f0 f1
  rw [f0, f1, bts_toList]

theorem words_cells {W : World} (h : VarReads Tryz.prog W "missive/tally.words" Rows.laid_missive_tally_words) : ∀ j v, wordsC[j]? = some v → W.cell? ⟨0, j, none⟩ = some v := by
  rw [words_laid] at h
  obtain ⟨g, t, cs, fuel, p, hg, hty, hvar, hd⟩ := h
  obtain rfl := Option.some.inj (gWords.symm.trans hg)
  obtain rfl := Option.some.inj (yWords.symm.trans hty)
  have key : ∀ i (hi : i < 4), cs[2 * i]? = some (.string (bts (wordsT[i]'hi).1)) ∧ cs[2 * i + 1]? = some (.int .u8 ((wordsT[i]'hi).2 : Int)) := by
    intro i hi
    obtain ⟨fuel', d, q, hdi, he⟩ := array_elem Tryz.underlying56 hd i hi
    rw [List.getElem?_map, List.getElem?_eq_getElem (by simpa [wordsT] using hi)] at hdi
    simp only [Option.map_some, Option.some.injEq] at hdi
    subst hdi
    rw [cPairW] at he
    have hcs := pair_ofW he
    have e0 := congrArg (·[0]?) hcs
    have e1 := congrArg (·[1]?) hcs
    simp only [List.getElem?_take, List.getElem?_drop, List.getElem?_cons_zero, List.getElem?_cons_succ] at e0 e1
    rw [if_pos (by omega), show i * 2 + 0 = 2 * i by omega] at e0
    rw [if_pos (by omega), show i * 2 + 1 = 2 * i + 1 by omega] at e1
    constructor
    · rw [← Array.getElem?_toList]; exact e0
    · rw [← Array.getElem?_toList]; exact e1
  intro j v hj
  rw [World.var?_cell hg hvar j]
  have hj8 : j < 8 := by
    rcases Nat.lt_or_ge j 8 with h | h
    · exact h
    · rw [List.getElem?_eq_none (by simpa [wordsC, wordsT] using h)] at hj; simp at hj
  obtain ⟨i, hi, hij⟩ : ∃ i, i < 4 ∧ (j = 2 * i ∨ j = 2 * i + 1) := ⟨j / 2, by omega, by omega⟩
  have hk := key i hi
  rcases hij with rfl | rfl
  · rw [hk.1, ← hj]
    rcases (show i = 0 ∨ i = 1 ∨ i = 2 ∨ i = 3 by omega) with rfl | rfl | rfl | rfl <;> rfl
  · rw [hk.2, ← hj]
    rcases (show i = 0 ∨ i = 1 ∨ i = 2 ∨ i = 3 by omega) with rfl | rfl | rfl | rfl <;> rfl

theorem wtab_of {W : World} (h : VarReads Tryz.prog W "missive/tally.words" Rows.laid_missive_tally_words) : WTab W := by
  have hc := words_cells h
  refine ⟨?_, hc⟩
  have h0 := hc 0 _ rfl
  rcases Nat.lt_or_ge 0 W.heap.size with h' | h'
  · exact h'
  · simp [World.cell?, Array.getElem?_eq_none h'] at h0
theorem tabY_of {W : World} (h1 : VarReads Tryz.prog W "strconv.ErrSyntax" Rows.laid_strconv_ErrSyntax) (h2 : VarReads Tryz.prog W "strconv.ErrRange" Rows.laid_strconv_ErrRange) (h3 : VarReads Tryz.prog W "internal/strconv.uint64pow10" Rows.laid_internal_strconv_uint64pow10) (h4 : VarReads Tryz.prog W "missive/tally.words" Rows.laid_missive_tally_words) : TabY W :=
  ⟨errN_of h1 h2, powT_of h3, wtab_of h4⟩
theorem wfT8 {n : Int} (h : (Lit.int .u8 n).wf = true) : ∃ k : Nat, n = (k : Int) ∧ k ≤ 255 := by
  simp only [Lit.wf, Bool.and_eq_true, decide_eq_true_eq] at h
  have h1 : IntKind.u8.min = 0 := by decide
  have h2 : IntKind.u8.max = 255 := by decide
  exact ⟨n.toNat, by omega, by omega⟩
theorem wfT32 {n : Int} (h : (Lit.int .u32 n).wf = true) : ∃ k : Nat, n = (k : Int) ∧ k ≤ 4294967295 := by
  simp only [Lit.wf, Bool.and_eq_true, decide_eq_true_eq] at h
  have h1 : IntKind.u32.min = 0 := by decide
  have h2 : IntKind.u32.max = 4294967295 := by decide
  exact ⟨n.toNat, by omega, by omega⟩
theorem wfT64 {n : Int} (h : (Lit.int .i64 n).wf = true) : -9223372036854775808 ≤ n ∧ n ≤ 9223372036854775807 := by
  simp only [Lit.wf, Bool.and_eq_true, decide_eq_true_eq] at h
  have h1 : IntKind.i64.min = -9223372036854775808 := by decide
  have h2 : IntKind.i64.max = 9223372036854775807 := by decide
  omega

set_option maxRecDepth 100000 in
/-- A tally that came in. -/
theorem open_tly {H : Type} {enc : TypeId × Value → H} {W : World} {base base' : Nat} {held : Bool} {fuel : Nat} {v : Value} {x : DataW H × List MemPlace} {r : Reach} (hv : Value.okWide Tryz.prog W r base' 28 v)
    (hf : DataW.trod enc Tryz.prog W base (fun _ => true) held fuel 28 v.cells.toList = some x) (hbk : Rows.uptoBulk x.1 ≤ 1048576) : ∃ (b : Tly) (a : Option Addr) (n cap : Nat), v = tlV b (.slice a n cap) ∧ RowSp W (.slice a n cap) b.all ∧ FitT b ∧ b.all.length + 1 ≤ Rows.uptoBulk x.1 := by
  obtain ⟨cs, rfl, _⟩ := okWide_struct Tryz.underlying28 hv
  obtain ⟨xs, n, _, rfl, hl, hlen, hx⟩ := DataW.trod_struct Tryz.underlying28 hf
  have c5 : (Tryz.prog).cellsOf 28 = 5 := by kernel_rfl
  have cw1 : (Tryz.prog).cellsOf 22 = 1 := by kernel_rfl
  have ci1 : (Tryz.prog).cellsOf 3 = 1 := by kernel_rfl
  have cu1 : (Tryz.prog).cellsOf 25 = 1 := by kernel_rfl
  have cm1 : (Tryz.prog).cellsOf 26 = 1 := by kernel_rfl
  simp only [Value.cells] at hl hx
  rw [c5] at hl
  match xs, hlen with
  | [y0, y1, y2, y3, y4], _ =>
    have h0 := hx 0 _ rfl
    have h1 := hx 1 _ rfl
    have h2 := hx 2 _ rfl
    have h3 := hx 3 _ rfl
    have h4 := hx 4 _ rfl
    obtain ⟨ls⟩ := cs
    simp only at hl h0 h1 h2 h3 h4
    match ls, hl with
    | [u0, u1, u2, u3, u4], _ =>
      simp [cw1, ci1, cu1, cm1] at h0 h1 h2 h3 h4
      obtain ⟨s0, e0, f0, g0⟩ := DataW.trod_int Tryz.underlying22 h0
      obtain ⟨s1, e1, f1, g1⟩ := DataW.trod_int Tryz.underlying3 h1
      obtain ⟨s2, e2, f2, g2⟩ := DataW.trod_int Tryz.underlying25 h2
      obtain ⟨s3, e3, f3, g3⟩ := DataW.trod_int Tryz.underlying25 h3
      simp only [List.map_cons, List.map_nil, Rows.uptoBulk, Rows.uptoBulkAll] at hbk
      obtain ⟨v, l, e4, hr, _, hb⟩ := trod_rowSp h4
      simp only [List.cons.injEq, and_true] at e0 e1 e2 e3 e4
      subst e0 e1 e2 e3 e4
      obtain ⟨k0, rfl, q0⟩ := wfT8 g0
      have q1 := wfT64 g1
      obtain ⟨k2, rfl, q2⟩ := wfT32 g2
      obtain ⟨k3, rfl, q3⟩ := wfT32 g3
      obtain ⟨a, cap, hu, _⟩ := id hr
      subst hu
      refine ⟨⟨k0, s1, k2, k3, l⟩, a, _, cap, rfl, hr, ⟨q0, q1, q2, q3⟩, ?_⟩
      simp only [List.map_cons, List.map_nil, Rows.uptoBulk, Rows.uptoBulkAll]
      show l.length + 1 ≤ _
      omega
end Go.Proofs.YtlolilhlpbpfjaaGreatDoor
