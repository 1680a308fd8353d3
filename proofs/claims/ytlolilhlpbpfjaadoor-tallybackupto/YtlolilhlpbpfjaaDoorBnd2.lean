/-
  A tally that is told is read again, and one of numbers is right: plain mathematics.
-/
import Derived.Test.YtlolilhlpbpfjaaDoorBnd1
import Derived.Test.YtlolilhlpbpfjaaDoorNsw
import Derived.Test.YtlolilhlpbpfjaaDoorRows
import Derived.Lib.LaidU8
import Derived.Lib.LaidTab
import Derived.OpenShut
set_option linter.unusedVariables false
set_option linter.unusedSimpArgs false
namespace Go.Proofs.YtlolilhlpbpfjaaDoor
open Go.RowKit Go.Proofs.Nst

theorem nText_dec {n : Nat} (h : n ≤ 4294967295) : nText (Lib.decDigits n) = n := by
  have hp : Lib.parseUintB 32 (Lib.decDigits n) = .ok n := by
    unfold Lib.parseUintB
    rw [if_neg (dec_ne n)]
    have := dig_parse (2 ^ 32 - 1) (by decide) n (by omega) []
    rw [List.append_nil] at this
    rw [this]
    rfl
  unfold nText
  rw [hp]
theorem dec_no32 {n : Nat} : ∀ x ∈ Lib.decDigits n, x ≠ 32 := by
  intro x hx h
  have := dig_mem n x hx
  rw [h] at this
  revert this
  decide
theorem endT_no32 {n : Nat} : ∀ x ∈ endT n, x ≠ 32 := by
  unfold endT
  split
  · intro x hx; rw [List.mem_singleton] at hx; subst hx; decide
  · exact dec_no32
theorem spanT_no32 {s : Sp} : ∀ x ∈ spanT s, x ≠ 32 := by
  unfold spanT
  split
  · intro x hx
    rw [List.mem_append, List.mem_cons] at hx
    rcases hx with h | h | h
    · exact endT_no32 x h
    · subst h; decide
    · exact endT_no32 x h
  · exact endT_no32
theorem joinL_no32 : ∀ (ps : List (List UInt8)), (∀ p ∈ ps, ∀ x ∈ p, x ≠ 32) → ∀ x ∈ joinL ps, x ≠ 32
  | [], _, x, hx => by simp [joinL] at hx
  | [p], h, x, hx => by simp [joinL] at hx; exact h p (by simp) x hx
  | p :: q :: r, h, x, hx => by
    rw [joinL] at hx
    · rw [List.mem_append, List.mem_cons] at hx
      rcases hx with h9 | h9 | h9
      · exact h p (by simp) x h9
      · subst h9; decide
      · exact joinL_no32 (q :: r) (fun p' hp' => h p' (List.mem_cons_of_mem _ hp')) x h9
    · simp
theorem writeP_no32 (l : List Sp) : ∀ x ∈ writeP l, x ≠ 32 := joinL_no32 _ (fun p hp x hx => by
  obtain ⟨s, _, rfl⟩ := List.mem_map.1 hp
  exact spanT_no32 x hx)

/-- What is told behind some words, one behind the other. -/
def restT (t : Tly) : List (List UInt8 × Nat) → List UInt8
  | [] => []
  | p :: r => if textT t p.2 = [] then restT t r else p.1 ++ 32 :: (textT t p.2 ++ (if restT t r = [] then [] else 32 :: restT t r))
theorem fold_rest (t : Tly) : ∀ (ps : List (List UInt8 × Nat)) (b : List UInt8), (∀ p ∈ ps, p.1 ≠ []) → ps.foldl (stepT t) b = if restT t ps = [] then b else (if b = [] then [] else b ++ [32]) ++ restT t ps
  | [], b, _ => by simp [restT]
  | p :: r, b, h => by
    rw [List.foldl_cons, fold_rest t r _ (fun q hq => h q (List.mem_cons_of_mem _ hq))]
    have hp := h p List.mem_cons_self
    by_cases hz : textT t p.2 = []
    · have e : restT t (p :: r) = restT t r := by rw [restT, if_pos hz]
      have e2 : stepT t b p = b := by unfold stepT; rw [if_pos hz]
      rw [e, e2]
    · have e : restT t (p :: r) = p.1 ++ 32 :: (textT t p.2 ++ (if restT t r = [] then [] else 32 :: restT t r)) := by rw [restT, if_neg hz]
      have e2 : stepT t b p = (if b = [] then [] else b ++ [32]) ++ (p.1 ++ 32 :: textT t p.2) := by unfold stepT; rw [if_neg hz]
      rw [e, e2]
      have h1 : ¬ ((if b = [] then [] else b ++ [32]) ++ (p.1 ++ 32 :: textT t p.2)) = [] := by simp
      have h2 : ¬ (p.1 ++ 32 :: (textT t p.2 ++ (if restT t r = [] then [] else 32 :: restT t r))) = [] := by simp
      by_cases hr : restT t r = []
      · rw [if_pos hr, if_neg h2, if_pos hr]; simp
      · rw [if_neg hr, if_neg h2, if_neg h1, if_neg hr]; simp
/-- No word begins with another one. -/
def differ (p : List UInt8 × Nat) (ps : List (List UInt8 × Nat)) : Prop := ∀ q ∈ ps, ∀ tl, Lib.hasPrefix (q.1 ++ 32 :: tl) (p.1 ++ [32]) = false
theorem rest_other (t : Tly) (p : List UInt8 × Nat) : ∀ (ps : List (List UInt8 × Nat)), differ p ps → Lib.hasPrefix (restT t ps) (p.1 ++ [32]) = false
  | [], _ => by
    unfold Lib.hasPrefix
    cases h : p.1 with
    | nil => rfl
    | cons a r => rfl
  | q :: r, h => by
    rw [restT]
    split
    · exact rest_other t p r (fun q' hq' => h q' (List.mem_cons_of_mem _ hq'))
    · exact h q List.mem_cons_self _
theorem prefix_self (a b : List UInt8) : Lib.hasPrefix (a ++ 32 :: b) (a ++ [32]) = true := by
  unfold Lib.hasPrefix
  rw [List.isPrefixOf_iff_prefix]
  exact ⟨b, by simp⟩
/-- Reading of what is told behind some words. -/
theorem read_rest (t : Tly) (hno : ∀ k, ∀ x ∈ textT t k, x ≠ 32) : ∀ (ps : List (List UInt8 × Nat)) (x : Tly), ps.Pairwise (fun p q => ∀ tl, Lib.hasPrefix (q.1 ++ 32 :: tl) (p.1 ++ [32]) = false) →
    ps.foldl stepP (x, restT t ps) = (ps.foldl (fun x p => if textT t p.2 = [] then x else readT x p.2 (textT t p.2)) x, [])
  | [], x, _ => rfl
  | p :: r, x, h => by
    rw [List.foldl_cons, List.foldl_cons]
    rw [List.pairwise_cons] at h
    have ih := fun x => read_rest t hno r x h.2
    rw [restT]
    by_cases hz : textT t p.2 = []
    · rw [if_pos hz, if_pos hz]
      have e : stepP (x, restT t r) p = (x, restT t r) := by
        unfold stepP
        rw [if_neg]
        simp only
        rw [rest_other t p r (fun q hq => h.1 q hq)]
        simp
      rw [e]
      exact ih x
    · rw [if_neg hz, if_neg hz]
      have e : stepP (x, p.1 ++ 32 :: (textT t p.2 ++ (if restT t r = [] then [] else 32 :: restT t r))) p = (readT x p.2 (textT t p.2), restT t r) := by
        unfold stepP
        simp only
        rw [if_pos (prefix_self _ _)]
        have hd : (p.1 ++ 32 :: (textT t p.2 ++ (if restT t r = [] then [] else 32 :: restT t r))).drop (p.1.length + 1) = textT t p.2 ++ (if restT t r = [] then [] else 32 :: restT t r) := by
          rw [show p.1 ++ 32 :: (textT t p.2 ++ (if restT t r = [] then [] else 32 :: restT t r)) = (p.1 ++ [32]) ++ (textT t p.2 ++ (if restT t r = [] then [] else 32 :: restT t r)) by simp]
          rw [List.drop_left' (by simp)]
        rw [hd]
        by_cases hr : restT t r = []
        · rw [if_pos hr, List.append_nil, cutB_none 32 _ (hno _), hr]
        · rw [if_neg hr, cutB_some 32 _ _ (hno _)]
      rw [e]
      exact ih _
theorem words_apart : wordsT.Pairwise (fun p q => ∀ tl, Lib.hasPrefix (q.1 ++ 32 :: tl) (p.1 ++ [32]) = false) := by
  unfold wordsT
  simp [Lib.hasPrefix, List.isPrefixOf]
theorem body_rest (t : Tly) : bodyT t = restT t wordsT := by
  unfold bodyT
  rw [fold_rest t wordsT [] (by decide)]
  split
  · rename_i h; exact h.symm
  · simp
end Go.Proofs.YtlolilhlpbpfjaaDoor

/-
  Packed numbers told one by one, and what a right tally is: plain mathematics.
-/
set_option linter.unusedVariables false
set_option linter.unusedSimpArgs false
namespace Go.Proofs.YtlolilhlpbpfjaaDoor
open Go.RowKit Go.Proofs.Nst Go.Proofs.Dct

def flatN (l : List Sp) : List Nat := l.flatMap fun s => List.range' s.1 (s.2 - s.1 + 1)
theorem flatN_snoc (l : List Sp) (s : Sp) : flatN (l ++ [s]) = flatN l ++ List.range' s.1 (s.2 - s.1 + 1) := by simp [flatN]
theorem flatN_pack : ∀ (k : Nat) (ns : List Nat), ns.length = k → ns.Pairwise (· < ·) → flatN (packS ns) = ns := by
  intro k
  induction k with
  | zero =>
    intro ns h _
    rw [List.length_eq_zero_iff.1 h]
    rfl
  | succ k ih =>
    intro ns h hp
    obtain ⟨r, n, rfl⟩ : ∃ r n, ns = r ++ [n] := by
      rcases List.eq_nil_or_concat ns with h9 | ⟨r, n, h9⟩
      · rw [h9] at h; simp at h
      · exact ⟨r, n, by simpa using h9⟩
    have hr : r.length = k := by rw [List.length_append, List.length_singleton] at h; omega
    obtain ⟨p1, _, p3⟩ := List.pairwise_append.1 hp
    have hi := ih r hr p1
    obtain ⟨_, l2, l3, l4⟩ := packS_last k r hr p1
    rw [packS_snoc]
    rcases snoc_cases (packS r) with h9 | ⟨q, b, h9⟩
    · rw [h9, putS_nil]
      have : r = [] := l2.1 h9
      subst this
      simp [flatN]
    · have hne : r ≠ [] := fun e => by have := l2.2 e; rw [this] at h9; simp at h9
      obtain ⟨m, hm⟩ : ∃ m, r.getLast? = some m := by
        cases hg : r.getLast? with
        | none => rw [List.getLast?_eq_none_iff] at hg; exact absurd hg hne
        | some m => exact ⟨m, rfl⟩
      have hbm := l4 q b m h9 hm
      have hmem : m ∈ r := List.mem_of_getLast? hm
      have hmn : m < n := p3 m hmem n (by simp)
      have hbb := l3 b (by rw [h9]; simp)
      rw [h9] at hi ⊢
      by_cases hf : b.2 + 1 < n
      · rw [putS_far (s := (n, n)) hf, flatN_snoc, hi]
        simp
      · rw [putS_near (s := (n, n)) hf, flatN_snoc]
        rw [flatN_snoc] at hi
        have e : n = b.2 + 1 := by omega
        simp only
        rw [show max b.2 n = b.2 + 1 by omega, show b.2 + 1 - b.1 + 1 = (b.2 - b.1 + 1) + 1 by omega, List.range'_concat, ← List.append_assoc, hi]
        congr 1
        simp
        omega
theorem numsF_flat : ∀ (l : List Sp) (acc : List Nat), (∀ s ∈ l, 1 ≤ s.1 ∧ s.1 ≤ s.2) → acc.length + (flatN l).length ≤ 65536 → numsF acc l = some (acc ++ flatN l)
  | [], acc, _, _ => by simp [numsF, flatN]
  | s :: r, acc, h, hl => by
    have h1 := h s List.mem_cons_self
    have e : flatN (s :: r) = List.range' s.1 (s.2 - s.1 + 1) ++ flatN r := by simp [flatN]
    rw [e, List.length_append, List.length_range'] at hl
    rw [numsF, if_neg (by rintro (h9 | h9 | h9) <;> omega), e, ← List.append_assoc]
    exact numsF_flat r _ (fun x hx => h x (List.mem_cons_of_mem _ hx)) (by rw [List.length_append, List.length_range']; omega)
theorem rise_pair {ns : List Nat} (h : chk ns = 0) : ns.Pairwise (· < ·) ∧ ns.length ≤ 65536 := by
  unfold chk at h
  split at h
  · rename_i hr
    split at h
    · rename_i hl
      exact ⟨rise_of (fun j hj => ((rises_iff ns 0).1 hr).2 j hj), hl⟩
    · cases h
  · cases h
theorem packR_len (ns : List Nat) : (packR ns).1.length ≤ 1024 := by
  unfold packR
  split
  · split
    · simp
    · split
      · assumption
      · simp
  · simp
theorem packR_ok {ns : List Nat} (h : (packR ns).2 = 0) : (packR ns).1 = packS ns := by
  unfold packR at h ⊢
  split
  · rename_i h1
    rw [if_pos h1] at h
    split
    · rename_i h2; rw [if_pos h2] at h; cases h
    · rename_i h2
      rw [if_neg h2] at h
      split
      · rfl
      · rename_i h3; rw [if_neg h3] at h; cases h
  · rename_i h1; rw [if_neg h1] at h; cases h
theorem ofR_cases {w : Nat} {ns : List Nat} (h : (ofR w ns).2 = 0) : w ≤ 15 ∧ ¬ 0 ∈ ns ∧ chk ns = 0 ∧ ((ns = [] ∧ (ofR w ns).1 = ⟨w, 0, 0, 0, []⟩) ∨ (ns ≠ [] ∧ (bitW w 4 = true → (packR ns).2 = 0) ∧ (ofR w ns).1 = ofT w ns (packR ns).1)) := by
  unfold ofR at h ⊢
  by_cases h1 : 15 < w ∨ 0 ∈ ns
  · rw [if_pos h1] at h; cases h
  · rw [if_neg h1] at h
    have hw : w ≤ 15 := by rcases Nat.lt_or_ge 15 w with h9 | h9; exact absurd (.inl h9) h1; exact h9
    have hm : ¬ 0 ∈ ns := fun h9 => h1 (.inr h9)
    by_cases h2 : chk ns ≠ 0
    · rw [if_pos h2] at h; exact absurd h h2
    · rw [if_neg h2] at h
      have hc : chk ns = 0 := by omega
      rw [if_neg h1, if_neg h2]
      by_cases h3 : ns = []
      · rw [if_pos h3]
        exact ⟨hw, hm, hc, .inl ⟨h3, rfl⟩⟩
      · rw [if_neg h3] at h ⊢
        by_cases h4 : bitW w 4 = true ∧ (packR ns).2 ≠ 0
        · rw [if_pos h4] at h; cases h
        · rw [if_neg h4]
          refine ⟨hw, hm, hc, .inr ⟨h3, fun h5 => ?_, rfl⟩⟩
          rcases Nat.eq_zero_or_pos (packR ns).2 with h6 | h6
          · exact h6
          · exact absurd ⟨h5, by omega⟩ h4
/-- What a right tally is, as far as its text asks. -/
theorem right_facts {t : Tly} (h : rightT t = true) : t.want ≤ 15 ∧ wanted t = true ∧ t.all.length ≤ 1024 ∧ 0 ≤ t.many ∧ t.many ≤ 65536 := by
  have h0 := right_many h
  unfold rightT at h
  split at h
  · cases h
  · rename_i hno
    have hw15 : t.want ≤ 15 := by rcases Nat.lt_or_ge 15 t.want with h9 | h9; exact absurd (.inl h9) hno; exact h9
    have hw : wanted t = true := by
      cases hw : wanted t with
      | true => rfl
      | false => exact absurd (.inr hw) hno
    have hwu := hw
    unfold wanted at hwu
    simp only [Bool.and_eq_true, Bool.or_eq_true, decide_eq_true_eq] at hwu
    refine ⟨hw15, hw, ?_, h0, ?_⟩
    · split at h
      · unfold ofAll at h
        split at h
        · cases h
        · rename_i ns _
          simp only [Bool.and_eq_true, decide_eq_true_eq] at h
          obtain ⟨e0, _, _, _, e4⟩ := h
          rw [e4]
          rcases (ofR_cases e0).2.2.2 with ⟨_, e⟩ | ⟨_, _, e⟩
          · rw [e]; simp
          · rw [e]
            show (if bitW t.want 4 = true then (packR ns).1 else []).length ≤ 1024
            by_cases hb4 : bitW t.want 4 = true
            · rw [if_pos hb4]; exact packR_len ns
            · rw [if_neg hb4]; exact Nat.zero_le _
      · rename_i hb
        rcases hwu.2.2.1 with h9 | h9
        · exact absurd h9 hb
        · omega
    · split at h
      · unfold ofAll at h
        split at h
        · cases h
        · rename_i ns _
          simp only [Bool.and_eq_true, decide_eq_true_eq] at h
          obtain ⟨e0, e1, _⟩ := h
          rw [e1]
          have hcs := ofR_cases e0
          have hl := (rise_pair hcs.2.2.1).2
          rcases hcs.2.2.2 with ⟨_, e⟩ | ⟨_, _, e⟩
          · rw [e]; simp
          · rw [e]
            show (if bitW t.want 8 = true then (ns.length : Int) else 0) ≤ 65536
            split <;> omega
      · rw [Bool.or_eq_true] at h
        rcases h with h | h
        · unfold ofNone at h; rw [decide_eq_true_eq] at h; omega
        · unfold ofSome at h
          split at h
          · cases h
          · split at h
            · rename_i hb
              rcases hwu.2.2.2 with h9 | h9
              · rw [hb] at h9; cases h9
              · omega
            · rw [decide_eq_true_eq] at h; exact h.2.1
theorem textT_no32 (t : Tly) (k : Nat) : ∀ x ∈ textT t k, x ≠ 32 := by
  unfold textT
  split
  · exact dec_no32
  · split
    · exact dec_no32
    · split
      · unfold writeR
        split
        · simp
        · exact writeP_no32 _
      · split
        · exact dec_no32
        · simp
/-- What a right tally tells is read as it. -/
theorem back_right {t : Tly} (hf : FitT t) (ha : ∀ x ∈ t.all, FitS x) (h : rightT t = true) : parT t.want (bodyT t) = t := by
  obtain ⟨h15, hw, hal, hm0, hm1⟩ := right_facts h
  unfold wanted at hw
  simp only [Bool.and_eq_true, Bool.or_eq_true, decide_eq_true_eq] at hw
  unfold parT
  rw [body_rest, read_rest t (textT_no32 t) wordsT _ words_apart]
  obtain ⟨wt, mn, lo, hi, al⟩ := t
  obtain ⟨_, _, f2, f3⟩ := hf
  simp only at f2 f3 hal hm0 hm1 hw ha ⊢
  simp only [wordsT, List.foldl_cons, List.foldl_nil]
  have s1 : (if textT ⟨wt, mn, lo, hi, al⟩ 1 = [] then (⟨wt, 0, 0, 0, []⟩ : Tly) else readT ⟨wt, 0, 0, 0, []⟩ 1 (textT ⟨wt, mn, lo, hi, al⟩ 1)) = ⟨wt, 0, lo, 0, []⟩ := by
    by_cases z : lo = 0
    · subst z; simp [textT]
    · have e : textT ⟨wt, mn, lo, hi, al⟩ 1 = Lib.decDigits lo := by simp [textT, z]
      rw [e, if_neg (dec_ne lo)]
      simp [readT, nText_dec f2]
  rw [s1]
  have s2 : (if textT ⟨wt, mn, lo, hi, al⟩ 2 = [] then (⟨wt, 0, lo, 0, []⟩ : Tly) else readT ⟨wt, 0, lo, 0, []⟩ 2 (textT ⟨wt, mn, lo, hi, al⟩ 2)) = ⟨wt, 0, lo, hi, []⟩ := by
    by_cases z : hi = 0
    · subst z; simp [textT]
    · have e : textT ⟨wt, mn, lo, hi, al⟩ 2 = Lib.decDigits hi := by simp [textT, z]
      rw [e, if_neg (dec_ne hi)]
      simp [readT, nText_dec f3]
  rw [s2]
  have s3 : (if textT ⟨wt, mn, lo, hi, al⟩ 4 = [] then (⟨wt, 0, lo, hi, []⟩ : Tly) else readT ⟨wt, 0, lo, hi, []⟩ 4 (textT ⟨wt, mn, lo, hi, al⟩ 4)) = ⟨wt, 0, lo, hi, al⟩ := by
    by_cases z : al = []
    · subst z; simp [textT]
    · have hl0 : al.length ≠ 0 := fun e => z (List.length_eq_zero_iff.1 e)
      have e : textT ⟨wt, mn, lo, hi, al⟩ 4 = writeP al := by
        have e1 : textT ⟨wt, mn, lo, hi, al⟩ 4 = (writeR al).1 := by simp [textT, z]
        rw [e1]
        unfold writeR
        rw [if_neg (by rintro (h9 | h9); exact z h9; omega)]
      have hp := (parse_write z hal ha).1
      rw [e]
      have hne : writeP al ≠ [] := by
        intro e9
        rw [e9] at hp
        have h9 : (parseP []).2 = 0 := by rw [hp]
        revert h9
        decide
      rw [if_neg hne]
      simp [readT, hp]
  rw [s3]
  by_cases z : bitW wt 8 = true
  · have e : textT ⟨wt, mn, lo, hi, al⟩ 8 = Lib.decDigits mn.toNat := by simp [textT, z]
    rw [e, if_neg (dec_ne _)]
    have hn : nText (Lib.decDigits mn.toNat) = mn.toNat := nText_dec (by omega)
    simp [readT, hn]
    omega
  · have e : textT ⟨wt, mn, lo, hi, al⟩ 8 = [] := by simp [textT, z]
    rw [e, if_pos rfl]
    rcases hw.2.2.2 with h9 | h9
    · exact absurd h9 z
    · rw [h9]
theorem parse_right {t : Tly} (hf : FitT t) (ha : ∀ x ∈ t.all, FitS x) (h : rightT t = true) : parseT t.want (writeT t).1 = (t, 0) := by
  have e : writeT t = (bodyT t, 0) := by unfold writeT; rw [if_pos h]
  rw [e]
  unfold parseT
  have hw := (right_facts h).1
  rw [if_neg (by omega), back_right hf ha h, if_pos e]
end Go.Proofs.YtlolilhlpbpfjaaDoor

/-
  A tally of numbers is right: plain mathematics.
-/
set_option linter.unusedVariables false
set_option linter.unusedSimpArgs false
namespace Go.Proofs.YtlolilhlpbpfjaaDoor
open Go.RowKit Go.Proofs.Nst Go.Proofs.Dct

theorem rise_gap : ∀ (ns : List Nat), ns.Pairwise (· < ·) → ∀ a r, ns = a :: r → a + ns.length ≤ ns.getLastD 0 + 1
  | [], _, a, r, e => by simp at e
  | [x], _, a, r, e => by injection e with e1 e2; subst e1; simp
  | x :: y :: s, h, a, r, e => by
    injection e with e1 e2
    subst e1
    rw [List.pairwise_cons] at h
    have h1 := h.1 y (by simp)
    have ih := rise_gap (y :: s) h.2 y s rfl
    have e3 : (x :: y :: s).getLastD 0 = (y :: s).getLastD 0 := by simp
    rw [e3]
    simp only [List.length_cons] at ih ⊢
    omega
theorem of_right {w : Nat} {ns : List Nat} (hfit : ∀ n ∈ ns, n ≤ 4294967295) (h : (ofR w ns).2 = 0) : rightT (ofR w ns).1 = true := by
  obtain ⟨hw, hm, hc, hh⟩ := ofR_cases h
  obtain ⟨hp, hl⟩ := rise_pair hc
  rcases hh with ⟨hn, e⟩ | ⟨hn, h4, e⟩
  · rw [e]
    unfold rightT
    have hwd : wanted ⟨w, 0, 0, 0, []⟩ = true := by simp [wanted]
    rw [if_neg (by rintro (h9 | h9); exact absurd h9 (by simp only; omega); rw [hwd] at h9; cases h9)]
    split
    · unfold ofAll
      subst hn
      simp only [numsF]
      rw [e]
      simp [h]
    · simp [ofNone]
  · obtain ⟨a, r, har⟩ : ∃ a r, ns = a :: r := by
      cases ns with
      | nil => exact absurd rfl hn
      | cons a r => exact ⟨a, r, rfl⟩
    have hgap := rise_gap ns hp a r har
    have ha : a ≠ 0 := fun h9 => hm (by rw [har, h9]; simp)
    have hd : ns.headD 0 = a := by rw [har]; rfl
    have hlast : ns.getLastD 0 ≤ 4294967295 := by
      rw [List.getLastD_eq_getLast?]
      cases hg : ns.getLast? with
      | none => simp
      | some m => exact hfit m (List.mem_of_getLast? hg)
    have hlen : 1 ≤ ns.length := by rw [har]; simp
    unfold rightT
    have hwd : wanted (ofR w ns).1 = true := by
      rw [e]
      unfold wanted ofT
      simp only [Bool.and_eq_true, Bool.or_eq_true, decide_eq_true_eq]
      refine ⟨?_, ?_, ?_, ?_⟩
      · cases hb : bitW w 1 <;> simp
      · cases hb : bitW w 2 <;> simp
      · cases hb : bitW w 4 <;> simp
      · cases hb : bitW w 8 <;> simp
    have hwt : (ofR w ns).1.want = w := by rw [e]; rfl
    rw [if_neg (by rintro (h9 | h9); rw [hwt] at h9; omega; rw [hwd] at h9; cases h9), hwt]
    split
    · rename_i hb4
      have hall : (ofR w ns).1.all = packS ns := by
        rw [e]
        show (if bitW w 4 = true then (packR ns).1 else []) = packS ns
        rw [if_pos hb4, packR_ok (h4 hb4)]
      have hfl := flatN_pack _ ns rfl hp
      have hapart := (packS_ok hp).1
      have hmem := (packS_ok hp).2
      have hpos : ∀ s ∈ packS ns, 1 ≤ s.1 ∧ s.1 ≤ s.2 := by
        intro s hs
        have h1 := hapart.ok s hs
        refine ⟨?_, h1⟩
        rcases Nat.eq_zero_or_pos s.1 with h9 | h9
        · have h2 : memS 0 (packS ns) = true := memS_iff.2 ⟨s, hs, by omega, by omega⟩
          rw [hmem, decide_eq_true_eq] at h2
          exact absurd h2 hm
        · exact h9
      have hnu := numsF_flat (packS ns) [] hpos (by rw [hfl]; simpa using hl)
      rw [hfl, List.nil_append] at hnu
      unfold ofAll
      rw [hall, hnu, hwt]
      simp only
      rw [← hall]
      simp [h]
    · rename_i hb4
      rw [e, Bool.or_eq_true]
      right
      have hL : leastE (ofT w ns (packR ns).1) = if bitW w 1 = true then a else 1 := by
        unfold leastE ofT
        simp only
        rw [hd]
        by_cases hb : bitW w 1 = true
        · rw [if_pos hb, if_pos hb, if_pos hb]
        · rw [if_neg hb, if_neg hb]
      have hM : mostE (ofT w ns (packR ns).1) = if bitW w 2 = true then ns.getLastD 0 else 4294967295 := by
        unfold mostE ofT
        simp only
        by_cases hb : bitW w 2 = true
        · rw [if_pos hb, if_pos hb, if_pos hb]
        · rw [if_neg hb, if_neg hb]
      have hLa : 1 ≤ leastE (ofT w ns (packR ns).1) ∧ leastE (ofT w ns (packR ns).1) ≤ a := by rw [hL]; split <;> omega
      have hMa : ns.getLastD 0 ≤ mostE (ofT w ns (packR ns).1) := by rw [hM]; split <;> omega
      unfold ofSome
      rw [if_neg (by rintro (h9 | h9) <;> omega)]
      have hwt2 : (ofT w ns (packR ns).1).want = w := rfl
      rw [hwt2]
      by_cases hb8 : bitW w 8 = false
      · rw [if_pos hb8]
      · rw [if_neg hb8, decide_eq_true_eq]
        have hmany : (ofT w ns (packR ns).1).many = (ns.length : Int) := by
          show (if bitW w 8 = true then (ns.length : Int) else 0) = _
          rw [if_pos (by simpa using hb8)]
        rw [hmany]
        refine ⟨?_, by omega, by omega⟩
        unfold fewE
        split
        · rename_i h9
          have hb1 : bitW w 1 = true := by
            cases hb : bitW w 1 with
            | true => rfl
            | false =>
              exfalso
              apply h9.1
              show (if bitW w 1 = true then ns.headD 0 else 0) = 0
              rw [hb]; rfl
          have hb2 : bitW w 2 = true := by
            cases hb : bitW w 2 with
            | true => rfl
            | false =>
              exfalso
              apply h9.2.1
              show (if bitW w 2 = true then ns.getLastD 0 else 0) = 0
              rw [hb]; rfl
          have h10 := h9.2.2
          rw [hL, hM, if_pos hb1, if_pos hb2] at h10
          have : ns.length ≠ 1 := by
            intro h11
            rw [har] at h11 h10
            have hr : r = [] := by simpa using h11
            subst hr
            exact h10 rfl
          omega
        · omega
theorem ofR_fit {w : Nat} {ns : List Nat} (hw : w ≤ 255) (hfit : ∀ n ∈ ns, n ≤ 4294967295) : FitT (ofR w ns).1 ∧ (ofR w ns).1.all.length ≤ 1024 := by
  have hz : FitT zT ∧ zT.all.length ≤ 1024 := ⟨⟨by decide, ⟨by decide, by decide⟩, by decide, by decide⟩, by decide⟩
  by_cases h : (ofR w ns).2 = 0
  · obtain ⟨_, hm, hc, hh⟩ := ofR_cases h
    have hl := (rise_pair hc).2
    rcases hh with ⟨hn, e⟩ | ⟨hn, h4, e⟩
    · rw [e]; exact ⟨⟨hw, ⟨by show (-9223372036854775808 : Int) ≤ 0; decide, by show (0 : Int) ≤ 9223372036854775807; decide⟩, by simp, by simp⟩, by simp⟩
    · rw [e]
      have hlast : ns.getLastD 0 ≤ 4294967295 := by
        rw [List.getLastD_eq_getLast?]
        cases hg : ns.getLast? with
        | none => simp
        | some m => exact hfit m (List.mem_of_getLast? hg)
      have hhead : ns.headD 0 ≤ 4294967295 := by
        cases ns with
        | nil => simp
        | cons a r => exact hfit a (by simp)
      refine ⟨⟨hw, ?_, ?_, ?_⟩, ?_⟩
      · show -9223372036854775808 ≤ (if bitW w 8 = true then (ns.length : Int) else 0) ∧ (if bitW w 8 = true then (ns.length : Int) else 0) ≤ 9223372036854775807
        by_cases hb : bitW w 8 = true
        · rw [if_pos hb]; omega
        · rw [if_neg hb]; omega
      · show (if bitW w 1 = true then ns.headD 0 else 0) ≤ _
        split
        · exact hhead
        · omega
      · show (if bitW w 2 = true then ns.getLastD 0 else 0) ≤ _
        split
        · exact hlast
        · omega
      · show (if bitW w 4 = true then (packR ns).1 else []).length ≤ 1024
        by_cases hb4 : bitW w 4 = true
        · rw [if_pos hb4]; exact packR_len ns
        · rw [if_neg hb4]; exact Nat.zero_le _
  · have e : (ofR w ns).1 = zT := by
      unfold ofR at h ⊢
      by_cases h1 : 15 < w ∨ 0 ∈ ns
      · rw [if_pos h1]
      · rw [if_neg h1] at h ⊢
        by_cases h2 : chk ns ≠ 0
        · rw [if_pos h2]
        · rw [if_neg h2] at h ⊢
          by_cases h3 : ns = []
          · rw [if_pos h3] at h; exact absurd rfl h
          · rw [if_neg h3] at h ⊢
            by_cases h4 : bitW w 4 = true ∧ (packR ns).2 ≠ 0
            · rw [if_pos h4]
            · rw [if_neg h4] at h; exact absurd rfl h
    rw [e]; exact hz
end Go.Proofs.YtlolilhlpbpfjaaDoor

/-
  TallyBack, walked over this seat's program.
-/
set_option linter.unusedVariables false
set_option linter.unusedSimpArgs false
namespace Go.Proofs.YtlolilhlpbpfjaaDoor
open Go.RowKit Go.Proofs.Nst

theorem index_runT (b n cp m : Nat) (k : Int) (hk : k = (m : Int)) (hm : m < n) (w : World) : (Instr.indexAt 40 (.slice (some ⟨b, 0, none⟩) n cp) (.int .i64 k)).run Tryd.prog w = .ok (.pointer (some ⟨b, m * 5, none⟩)) w := by
  subst hk
  have hi0 : (Tryd.prog.info? 27).map (fun i => i.size) = some 5 := by kernel_rfl
  obtain ⟨i0, hi, hz1⟩ := Option.map_eq_some_iff.1 hi0
  have he : Tryd.prog.elem 40 = 27 := by kernel_rfl
  rw [run_indexAt_slice (P := Tryd.prog) (w := w) (t := 40) (a := ⟨b, 0, none⟩) (len := n) (cap := cp) (k := .i64) (i := (m : Int)) (h := by kernel_rfl)]
  rw [if_pos (by omega), he]
  have hadd : Addr.add ⟨b, 0, none⟩ (m * 5) = ⟨b, m * 5, none⟩ := by rw [add_off0, Nat.zero_add]
  go_simp
/-- What is told of a tally, and read again. -/
theorem round_facts {x : Tly} (hf : FitT x) (ha : ∀ s ∈ x.all, FitS s) : ((writeT x).2 = 0 ∨ (writeT x).2 = 2) ∧ ((writeT x).2 = 0 → parseT x.want (writeT x).1 = (x, 0)) ∧ (writeT x).1.length ≤ 100000 := by
  refine ⟨?_, ?_, ?_⟩
  · unfold writeT; split
    · exact .inl rfl
    · exact .inr rfl
  · intro h
    unfold writeT at h
    split at h
    · rename_i hr; exact parse_right hf ha hr
    · cases h
  · unfold writeT
    split
    · have := bT_len hf ha 4 (Nat.le_refl _)
      exact Nat.le_trans this (by decide)
    · simp

set_option maxHeartbeats 8000000 in
set_option maxRecDepth 100000 in
theorem tallyBack_walk (wt : Nat) (v : Value) (ns : List Nat) (t : Tly) (vt : Value) (w : World) (ht : TabY w) (hn : RowN w v ns) (hw : wt ≤ 255) (hf : FitT t) (hr : RowSp w vt t.all) (hl : ns.length + t.all.length ≤ 1048576) :
    Calls Tryd.prog 4 #[.int .u8 (wt : Int), v, tlV t vt] w fun e w' => e = .returned (.bool true) ∧ Below w.heap.size w w' := by
  have hfit : ∀ n ∈ ns, n ≤ 4294967295 := by obtain ⟨_, _, _, _, h9, _⟩ := id hn; exact h9
  have hfa : ∀ s ∈ t.all, FitS s := by obtain ⟨_, _, _, _, h9, _⟩ := id hr; exact h9
  obtain ⟨a, ha⟩ : ∃ a, a = (ofR wt ns).1 := ⟨_, rfl⟩
  have haf := ofR_fit (w := wt) hw hfit
  have HAR : Hid ((ofR wt ns).2 = 0 → rightT a = true) := hide (fun h9 => by rw [ha]; exact of_right hfit h9)
  rw [← ha] at haf
  obtain ⟨haf1, haf2⟩ := haf
  have HAF := hide haf1
  have HRT := hide (round_facts hf hfa)
  have HOF := hide (fun W (hb : Below w.heap.size w W) => of_any wt v ns W (RowN.below hn hb) (by omega) hw)
  have HL := hide (fun W (hb : Below w.heap.size w W) => livesT_any W (ht.below hb))
  have HTW := hide (fun (x : Tly) (vx : Value) (W : World) (hb : Below w.heap.size w W) (hfx : FitT x) (h : RowSp W vx x.all) (hl : x.all.length ≤ 1048576) => twrite_any x vx W hfx h hl (ht.pow.below hb) (ht.wtab.below hb))
  have HTP := hide (fun (q : Nat) (s : ByteArray) (W : World) (hb : Below w.heap.size w W) (hq : q ≤ 255) (hs : s.size ≤ 1048576) => tparse_any q s W hq hs (ht.err.below hb) (ht.pow.below hb) (ht.wtab.below hb))
  have HA := hide (show Below w.heap.size w (w.alloc (.cells (tlC t vt) 27)) from (Below.refl _ w).alloc (Nat.le_refl _) _)
  have HK := hide (Blk.new w 27 (tlC t vt))
  have HRV := hide (fun W (hb : Below w.heap.size w W) => RowSp.below hr hb)
  have hal : a.all.length ≤ 1048576 := by omega
  have htl : t.all.length ≤ 1048576 := by omega
  obtain ⟨k0, hk0⟩ : ∃ k0, k0 = (ofR wt ns).2 := ⟨_, rfl⟩
  rw [← hk0] at HAR
  simp only [← ha, ← hk0] at HOF
  have HFT := hide hf
  obtain ⟨at1, ct, hvt, _⟩ := id hr
  obtain ⟨nt, hnt⟩ : ∃ nt, nt = t.all.length := ⟨_, rfl⟩
  rw [← hnt] at hvt
  subst hvt
  have HNT := hide hnt
  clear ht hn hw hf hr hl hfit hfa ha haf1 haf2 hk0 hnt
  obtain ⟨wt2, mn, lo, hi, al⟩ := t
  simp only [tlV, tlC] at HA HK ⊢
  go_enter Tryd.func4, Tryd.ntmps4
  go_wp2_with fail
  refine (unhide HL _ (unhide HA)).mono ?_
  rintro e w1 ⟨rfl, b1⟩
  have HB1 := hide (belows' (unhide HA) b1)
  have HK1 := hide ((unhide HK).below b1)
  clear b1 HA HK HL
  go_wp2_with fail
  refine (unhide HOF _ (unhide HB1)).mono ?_
  rintro e w2 ⟨va, rfl, ra, b2⟩
  obtain ⟨aa, ca, rfl, _⟩ := id ra
  obtain ⟨na, hna⟩ : ∃ na, na = a.all.length := ⟨_, rfl⟩
  rw [← hna] at ra ⊢
  have HNA := hide hna
  have HRTA := hide (round_facts (unhide HAF) (by obtain ⟨_, _, _, _, h9, _⟩ := id ra; exact h9))
  have p2 := Below.alloc (Below.refl _ w2) (Nat.le_refl _) (.cells (tlC a (.slice aa na ca)) 27)
  have HB2 := hide (belows' (belows' (unhide HB1) b2) p2)
  have HK2 := hide (((unhide HK1).below b2).below p2)
  have HRA := hide (RowSp.below ra p2)
  have HKA := hide (Blk.new w2 27 (tlC a (.slice aa na ca)))
  clear b2 p2 ra HB1 HK1 HOF hna
  obtain ⟨wa, ma, la, xa, ala⟩ := a
  simp only [tlV, tlC] at HB2 HK2 HRA HKA ⊢
  go_upto_region 4 with (fail)
  generalize w2.alloc (.cells #[.int .u8 (wa : Int), .int .i64 ma, .int .u32 (la : Int), .int .u32 (xa : Int), .slice aa na ca] 27) = v2 at HB2 HK2 HRA HKA ⊢
  generalize w2.heap.size = kA at HKA ⊢
  have m0 := (unhide HKA).cell 0
  have m1 := (unhide HKA).cell 1
  have m2 := (unhide HKA).cell 2
  have m3 := (unhide HKA).cell 3
  have m4 := (unhide HKA).cell 4
  simp only [List.getElem?_toArray, List.getElem?_cons_succ, List.getElem?_cons_zero] at m0 m1 m2 m3 m4
  have n0 := (unhide HK2).cell 0
  have n1 := (unhide HK2).cell 1
  have n2 := (unhide HK2).cell 2
  have n3 := (unhide HK2).cell 3
  have n4 := (unhide HK2).cell 4
  simp only [List.getElem?_toArray, List.getElem?_cons_succ, List.getElem?_cons_zero] at n0 n1 n2 n3 n4
  have hc4 : ∃ v4, v4 = v2 := ⟨_, rfl⟩
  go_cut [29] from 23 to 28 (fun q wx => q = .bool false ∧ Below w.heap.size w wx ∧ Below v2.heap.size v2 wx)
  case first =>
    by_cases z : k0 = 0
    · have q0 : ((k0 : Int) == 0) = true := by simp [z]
      have hrt := unhide HAR z
      have HCK := hide (tcheck_any ⟨wa, ma, la, xa, ala⟩ (.slice aa na ca) v2 (unhide HAF) (unhide HRA) hal)
      rw [if_pos hrt] at HCK
      simp only [tlV, tlC] at HCK
      clear z hrt HAR
      go_wp2_with fail
      refine (unhide HCK).mono ?_
      rintro e w3 ⟨rfl, b3⟩
      have HB3 := hide (belows' (unhide HB2) b3)
      have HB33 := hide b3
      clear b3 HCK
      go_wp2
      go_meet
      exact ⟨rfl, unhide HB3, unhide HB33⟩
    · have q0 : ((k0 : Int) == 0) = false := by simp; omega
      clear z HAR
      go_wp2
      go_meet
      exact ⟨rfl, unhide HB2, Below.refl _ _⟩
  case rest =>
  obtain ⟨rfl, hB3, hB33⟩ := hcut
  have HB3 := hide hB3
  have HK3 := hide ((unhide HK2).below hB33)
  have HKA3 := hide ((unhide HKA).below hB33)
  have HRA3 := hide (RowSp.below (unhide HRA) hB33)
  clear hB3 hB33 HB2 HK2 HKA HRA HAR m0 m1 m2 m3 m4 n0 n1 n2 n3 n4 hc4
  have m0 := (unhide HKA3).cell 0
  have m1 := (unhide HKA3).cell 1
  have m2 := (unhide HKA3).cell 2
  have m3 := (unhide HKA3).cell 3
  have m4 := (unhide HKA3).cell 4
  simp only [List.getElem?_toArray, List.getElem?_cons_succ, List.getElem?_cons_zero] at m0 m1 m2 m3 m4
  have n0 := (unhide HK3).cell 0
  have n1 := (unhide HK3).cell 1
  have n2 := (unhide HK3).cell 2
  have n3 := (unhide HK3).cell 3
  have n4 := (unhide HK3).cell 4
  simp only [List.getElem?_toArray, List.getElem?_cons_succ, List.getElem?_cons_zero] at n0 n1 n2 n3 n4
  have p4 := Below.alloc (Below.refl _ wc) (Nat.le_refl _) (.cells #[.int .u8 (wa : Int), .int .i64 ma, .int .u32 (la : Int), .int .u32 (xa : Int), .slice aa na ca, .int .u8 (wt2 : Int), .int .i64 mn, .int .u32 (lo : Int), .int .u32 (hi : Int), .slice at1 nt ct] 27)
  have HB4 := hide (belows' (unhide HB3) p4)
  have HRA4 := hide (RowSp.below (unhide HRA3) p4)
  have HK4 := hide (Blk.new wc 27 #[.int .u8 (wa : Int), .int .i64 ma, .int .u32 (la : Int), .int .u32 (xa : Int), .slice aa na ca, .int .u8 (wt2 : Int), .int .i64 mn, .int .u32 (lo : Int), .int .u32 (hi : Int), .slice at1 nt ct])
  clear p4 HB3 HRA3
  go_wp2
  obtain ⟨V, hV⟩ : ∃ V, V = wc.alloc (.cells #[.int .u8 (wa : Int), .int .i64 ma, .int .u32 (la : Int), .int .u32 (xa : Int), .slice aa na ca, .int .u8 (wt2 : Int), .int .i64 mn, .int .u32 (lo : Int), .int .u32 (hi : Int), .slice at1 nt ct] 27) := ⟨_, rfl⟩
  rw [← hV] at HB4 HRA4 HK4 ⊢
  obtain ⟨SB, hSB⟩ : ∃ SB, SB = wc.heap.size := ⟨_, rfl⟩
  rw [← hSB] at HK4 ⊢
  clear hV hSB HKA3 HK3 m0 m1 m2 m3 m4 n0 n1 n2 n3 n4
  go_loopw [10, 11, 12, 13, 14, 34] (fun _ _ _ _ _ z wr => ∃ k : Nat, z = .int .i64 k ∧ k ≤ 2 ∧ Hid (Below w.heap.size w wr) ∧ Hid (Below V.heap.size V wr)) (fun _ _ _ _ _ z _ => 2 - (intOf z).toNat)
  case atStart => exact ⟨0, rfl, Nat.zero_le _, HB4, hide (Below.refl _ _)⟩
  case round =>
    obtain ⟨k, rfl, hk, HB, HBV⟩ := hrel
    have HK5 := hide ((unhide HK4).below (unhide HBV))
    have HRA5 := hide (RowSp.below (unhide HRA4) (unhide HBV))
    have HRT5 := hide (unhide HRV _ (unhide HB))
    by_cases hlt : k < 2
    · rcases (show k = 0 ∨ k = 1 by omega) with rfl | rfl
      · have hix := fun W => index_runT SB 2 2 0 0 rfl (by decide) W
        have c0 := (unhide HK5).cell 0
        have c1 := (unhide HK5).cell 1
        have c2 := (unhide HK5).cell 2
        have c3 := (unhide HK5).cell 3
        have c4 := (unhide HK5).cell 4
        simp only [List.getElem?_toArray, List.getElem?_cons_succ, List.getElem?_cons_zero] at c0 c1 c2 c3 c4
        have px := Below.alloc (Below.refl _ wr) (Nat.le_refl _) (.cells #[.int .u8 (wa : Int), .int .i64 ma, .int .u32 (la : Int), .int .u32 (xa : Int), .slice aa na ca] 27)
        have HBX := hide (belows' (unhide HB) px)
        have HBVX := hide ((unhide HBV).trans (px.mono (unhide HBV).size))
        have HRX := hide (RowSp.below (unhide HRA5) px)
        have HKX := hide (Blk.new wr 27 #[.int .u8 (wa : Int), .int .i64 ma, .int .u32 (la : Int), .int .u32 (xa : Int), .slice aa na ca])
        clear px
        go_upto_region 9 with (fail)
        generalize wr.alloc (.cells #[.int .u8 (wa : Int), .int .i64 ma, .int .u32 (la : Int), .int .u32 (xa : Int), .slice aa na ca] 27) = vx at HBX HBVX HRX HKX ⊢
        generalize wr.heap.size = kX at HKX ⊢
        clear c0 c1 c2 c3 c4 hix HB HBV HK5 HRA5 HRT5
        have m0 := (unhide HKX).cell 0
        have m1 := (unhide HKX).cell 1
        have m2 := (unhide HKX).cell 2
        have m3 := (unhide HKX).cell 3
        have m4 := (unhide HKX).cell 4
        simp only [List.getElem?_toArray, List.getElem?_cons_succ, List.getElem?_cons_zero] at m0 m1 m2 m3 m4
        have HWX := hide (unhide HTW (⟨wa, ma, la, xa, ala⟩ : Tly) (.slice aa na ca) vx (unhide HBX) (unhide HAF) (unhide HRX) hal)
        have HRTX := hide (unhide HRTA)
        simp only [tlV, tlC] at HWX
        obtain ⟨WX, hWX⟩ : ∃ WX, WX = writeT (⟨wa, ma, la, xa, ala⟩ : Tly) := ⟨_, rfl⟩
        rw [← hWX] at HWX HRTX
        obtain ⟨sx, ex⟩ := WX
        simp only at HWX HRTX
        clear hWX
        go_wp2_with fail
        refine (unhide HWX).mono ?_
        rintro e w5 ⟨rfl, b5⟩
        have HBX5 := hide (belows' (unhide HBX) b5)
        have HBVX5 := hide ((unhide HBVX).trans (b5.mono (unhide HBVX).size))
        have HRX5 := hide (RowSp.below (unhide HRX) b5)
        have HKX5 := hide ((unhide HKX).below b5)
        clear b5 HWX HBX HBVX HRX HKX m0 m1 m2 m3 m4
        have hrt := unhide HRTX
        obtain ⟨hex, hpar, hlen⟩ := hrt
        rcases hex with rfl | rfl
        · have hp := hpar rfl
          have HPX := hide (unhide HTP wa ⟨sx.toArray⟩ w5 (unhide HBX5) (unhide HAF).1 (Nat.le_trans (show (⟨sx.toArray⟩ : ByteArray).size ≤ 100000 from hlen) (by decide)))
          have hsx : (⟨sx.toArray⟩ : ByteArray).data.toList = sx := by simp
          rw [hsx, hp] at HPX
          clear hsx hp hpar hlen HRTX
          have m0 := (unhide HKX5).cell 0
          have m1 := (unhide HKX5).cell 1
          have m2 := (unhide HKX5).cell 2
          have m3 := (unhide HKX5).cell 3
          have m4 := (unhide HKX5).cell 4
          simp only [List.getElem?_toArray, List.getElem?_cons_succ, List.getElem?_cons_zero] at m0 m1 m2 m3 m4
          go_wp2_with fail
          refine (unhide HPX).mono ?_
          rintro e w6 ⟨vu, rfl, ru, b6⟩
          obtain ⟨au, cu, rfl, _⟩ := id ru
          obtain ⟨nu, hnu⟩ : ∃ nu, nu = ((⟨wa, ma, la, xa, ala⟩ : Tly)).all.length := ⟨_, rfl⟩
          rw [← hnu] at ru ⊢
          clear hnu
          have p6 := Below.alloc (Below.refl _ w6) (Nat.le_refl _) (.cells #[.int .u8 (wa : Int), .int .i64 ma, .int .u32 (la : Int), .int .u32 (xa : Int), .slice au nu cu] 27)
          have HB6 := hide (belows' (belows' (unhide HBX5) b6) p6)
          have HBV6 := hide ((unhide HBVX5).trans ((b6.trans (p6.mono b6.size)).mono (unhide HBVX5).size))
          have HR6 := hide (RowSp.below (RowSp.below (unhide HRX5) b6) p6)
          have HK6 := hide (((unhide HKX5).below b6).below p6)
          have HRU := hide (RowSp.below ru p6)
          have HKU := hide (Blk.new w6 27 #[.int .u8 (wa : Int), .int .i64 ma, .int .u32 (la : Int), .int .u32 (xa : Int), .slice au nu cu])
          clear b6 p6 ru HBX5 HBVX5 HRX5 HKX5 HPX m0 m1 m2 m3 m4
          simp only [tlV, tlC]
          go_upto_region 12 with (fail)
          generalize w6.alloc (.cells #[.int .u8 (wa : Int), .int .i64 ma, .int .u32 (la : Int), .int .u32 (xa : Int), .slice au nu cu] 27) = v6 at HB6 HBV6 HR6 HK6 HRU HKU ⊢
          generalize w6.heap.size = kU at HKU ⊢
          have m0 := (unhide HK6).cell 0
          have m1 := (unhide HK6).cell 1
          have m2 := (unhide HK6).cell 2
          have m3 := (unhide HK6).cell 3
          have m4 := (unhide HK6).cell 4
          simp only [List.getElem?_toArray, List.getElem?_cons_succ, List.getElem?_cons_zero] at m0 m1 m2 m3 m4
          have n0 := (unhide HKU).cell 0
          have n1 := (unhide HKU).cell 1
          have n2 := (unhide HKU).cell 2
          have n3 := (unhide HKU).cell 3
          have n4 := (unhide HKU).cell 4
          simp only [List.getElem?_toArray, List.getElem?_cons_succ, List.getElem?_cons_zero] at n0 n1 n2 n3 n4
          have HSM := hide (sameT_any (⟨wa, ma, la, xa, ala⟩ : Tly) (⟨wa, ma, la, xa, ala⟩ : Tly) (.slice au nu cu) (.slice aa na ca) v6 (unhide HRU) (unhide HR6))
          rw [decide_eq_true rfl] at HSM
          simp only [tlV, tlC] at HSM
          go_wp2_with fail
          refine (unhide HSM).mono ?_
          rintro e w7 ⟨rfl, b7⟩
          have HB7 := hide (belows' (unhide HB6) b7)
          have HBV7 := hide ((unhide HBV6).trans (b7.mono (unhide HBV6).size))
          clear b7 HSM HB6 HBV6 HR6 HK6 HRU HKU m0 m1 m2 m3 m4 n0 n1 n2 n3 n4
          go_wp2
          exact ⟨⟨1, by go_num, by omega, HB7, HBV7⟩, by simp [intOf]⟩
        · clear hpar hlen HRTX
          go_wp2
          exact ⟨⟨1, by go_num, by omega, HBX5, HBVX5⟩, by simp [intOf]⟩
      · have hix := fun W => index_runT SB 2 2 1 1 rfl (by decide) W
        have c0 := (unhide HK5).cell 5
        have c1 := (unhide HK5).cell 6
        have c2 := (unhide HK5).cell 7
        have c3 := (unhide HK5).cell 8
        have c4 := (unhide HK5).cell 9
        simp only [List.getElem?_toArray, List.getElem?_cons_succ, List.getElem?_cons_zero] at c0 c1 c2 c3 c4
        have px := Below.alloc (Below.refl _ wr) (Nat.le_refl _) (.cells #[.int .u8 (wt2 : Int), .int .i64 mn, .int .u32 (lo : Int), .int .u32 (hi : Int), .slice at1 nt ct] 27)
        have HBX := hide (belows' (unhide HB) px)
        have HBVX := hide ((unhide HBV).trans (px.mono (unhide HBV).size))
        have HRX := hide (RowSp.below (unhide HRT5) px)
        have HKX := hide (Blk.new wr 27 #[.int .u8 (wt2 : Int), .int .i64 mn, .int .u32 (lo : Int), .int .u32 (hi : Int), .slice at1 nt ct])
        clear px
        go_upto_region 9 with (fail)
        generalize wr.alloc (.cells #[.int .u8 (wt2 : Int), .int .i64 mn, .int .u32 (lo : Int), .int .u32 (hi : Int), .slice at1 nt ct] 27) = vx at HBX HBVX HRX HKX ⊢
        generalize wr.heap.size = kX at HKX ⊢
        clear c0 c1 c2 c3 c4 hix HB HBV HK5 HRA5 HRT5
        have m0 := (unhide HKX).cell 0
        have m1 := (unhide HKX).cell 1
        have m2 := (unhide HKX).cell 2
        have m3 := (unhide HKX).cell 3
        have m4 := (unhide HKX).cell 4
        simp only [List.getElem?_toArray, List.getElem?_cons_succ, List.getElem?_cons_zero] at m0 m1 m2 m3 m4
        have HWX := hide (unhide HTW (⟨wt2, mn, lo, hi, al⟩ : Tly) (.slice at1 nt ct) vx (unhide HBX) (unhide HFT) (unhide HRX) htl)
        have HRTX := hide (unhide HRT)
        simp only [tlV, tlC] at HWX
        obtain ⟨WX, hWX⟩ : ∃ WX, WX = writeT (⟨wt2, mn, lo, hi, al⟩ : Tly) := ⟨_, rfl⟩
        rw [← hWX] at HWX HRTX
        obtain ⟨sx, ex⟩ := WX
        simp only at HWX HRTX
        clear hWX
        go_wp2_with fail
        refine (unhide HWX).mono ?_
        rintro e w5 ⟨rfl, b5⟩
        have HBX5 := hide (belows' (unhide HBX) b5)
        have HBVX5 := hide ((unhide HBVX).trans (b5.mono (unhide HBVX).size))
        have HRX5 := hide (RowSp.below (unhide HRX) b5)
        have HKX5 := hide ((unhide HKX).below b5)
        clear b5 HWX HBX HBVX HRX HKX m0 m1 m2 m3 m4
        have hrt := unhide HRTX
        obtain ⟨hex, hpar, hlen⟩ := hrt
        rcases hex with rfl | rfl
        · have hp := hpar rfl
          have HPX := hide (unhide HTP wt2 ⟨sx.toArray⟩ w5 (unhide HBX5) (unhide HFT).1 (Nat.le_trans (show (⟨sx.toArray⟩ : ByteArray).size ≤ 100000 from hlen) (by decide)))
          have hsx : (⟨sx.toArray⟩ : ByteArray).data.toList = sx := by simp
          rw [hsx, hp] at HPX
          clear hsx hp hpar hlen HRTX
          have m0 := (unhide HKX5).cell 0
          have m1 := (unhide HKX5).cell 1
          have m2 := (unhide HKX5).cell 2
          have m3 := (unhide HKX5).cell 3
          have m4 := (unhide HKX5).cell 4
          simp only [List.getElem?_toArray, List.getElem?_cons_succ, List.getElem?_cons_zero] at m0 m1 m2 m3 m4
          go_wp2_with fail
          refine (unhide HPX).mono ?_
          rintro e w6 ⟨vu, rfl, ru, b6⟩
          obtain ⟨au, cu, rfl, _⟩ := id ru
          obtain ⟨nu, hnu⟩ : ∃ nu, nu = ((⟨wt2, mn, lo, hi, al⟩ : Tly)).all.length := ⟨_, rfl⟩
          rw [← hnu] at ru ⊢
          clear hnu
          have p6 := Below.alloc (Below.refl _ w6) (Nat.le_refl _) (.cells #[.int .u8 (wt2 : Int), .int .i64 mn, .int .u32 (lo : Int), .int .u32 (hi : Int), .slice au nu cu] 27)
          have HB6 := hide (belows' (belows' (unhide HBX5) b6) p6)
          have HBV6 := hide ((unhide HBVX5).trans ((b6.trans (p6.mono b6.size)).mono (unhide HBVX5).size))
          have HR6 := hide (RowSp.below (RowSp.below (unhide HRX5) b6) p6)
          have HK6 := hide (((unhide HKX5).below b6).below p6)
          have HRU := hide (RowSp.below ru p6)
          have HKU := hide (Blk.new w6 27 #[.int .u8 (wt2 : Int), .int .i64 mn, .int .u32 (lo : Int), .int .u32 (hi : Int), .slice au nu cu])
          clear b6 p6 ru HBX5 HBVX5 HRX5 HKX5 HPX m0 m1 m2 m3 m4
          simp only [tlV, tlC]
          go_upto_region 12 with (fail)
          generalize w6.alloc (.cells #[.int .u8 (wt2 : Int), .int .i64 mn, .int .u32 (lo : Int), .int .u32 (hi : Int), .slice au nu cu] 27) = v6 at HB6 HBV6 HR6 HK6 HRU HKU ⊢
          generalize w6.heap.size = kU at HKU ⊢
          have m0 := (unhide HK6).cell 0
          have m1 := (unhide HK6).cell 1
          have m2 := (unhide HK6).cell 2
          have m3 := (unhide HK6).cell 3
          have m4 := (unhide HK6).cell 4
          simp only [List.getElem?_toArray, List.getElem?_cons_succ, List.getElem?_cons_zero] at m0 m1 m2 m3 m4
          have n0 := (unhide HKU).cell 0
          have n1 := (unhide HKU).cell 1
          have n2 := (unhide HKU).cell 2
          have n3 := (unhide HKU).cell 3
          have n4 := (unhide HKU).cell 4
          simp only [List.getElem?_toArray, List.getElem?_cons_succ, List.getElem?_cons_zero] at n0 n1 n2 n3 n4
          have HSM := hide (sameT_any (⟨wt2, mn, lo, hi, al⟩ : Tly) (⟨wt2, mn, lo, hi, al⟩ : Tly) (.slice au nu cu) (.slice at1 nt ct) v6 (unhide HRU) (unhide HR6))
          rw [decide_eq_true rfl] at HSM
          simp only [tlV, tlC] at HSM
          go_wp2_with fail
          refine (unhide HSM).mono ?_
          rintro e w7 ⟨rfl, b7⟩
          have HB7 := hide (belows' (unhide HB6) b7)
          have HBV7 := hide ((unhide HBV6).trans (b7.mono (unhide HBV6).size))
          clear b7 HSM HB6 HBV6 HR6 HK6 HRU HKU m0 m1 m2 m3 m4 n0 n1 n2 n3 n4
          go_wp2
          exact ⟨⟨2, by go_num, by omega, HB7, HBV7⟩, by simp [intOf]⟩
        · clear hpar hlen HRTX
          go_wp2
          exact ⟨⟨2, by go_num, by omega, HBX5, HBVX5⟩, by simp [intOf]⟩
    · have hk2 : k = 2 := by omega
      subst hk2
      go_wp2
      go_ret
      exact ⟨rfl, unhide HB⟩
end Go.Proofs.YtlolilhlpbpfjaaDoor

/-
  Tallies that came in, what the second form's bound says of them, and the table of a tally's words out of what the row lays.
-/
set_option linter.unusedVariables false
set_option linter.unusedSimpArgs false
namespace Go.Proofs.YtlolilhlpbpfjaaDoor
open Go.ChangeShapes Go.WideShapes Go.RowKit Go.Proofs.Nst Go.Lib

theorem gWords : Tryd.prog.globalNamed "missive/tally.words" = some 0 := by kernel_rfl
theorem yWords : (Tryd.prog.globals[0]?).map (·.type) = some 52 := by kernel_rfl
theorem cPairW : Tryd.prog.cellsOf 51 = 2 := by kernel_rfl
theorem cStrW : Tryd.prog.cellsOf 9 = 1 := by kernel_rfl
theorem cWant : Tryd.prog.cellsOf 22 = 1 := by kernel_rfl
theorem words_laid : (Rows.laid_missive_tally_words : DataW Unit) = .agg (wordsT.map fun p => .agg [.lit (.string p.1), .lit (.int .u8 (p.2 : Int))]) := by kernel_rfl
theorem two_ofW {α : Type} {l : List α} (h : l.length = 2) : ∃ a b, l = [a, b] := by
  match l, h with
  | [a, b], _ => exact ⟨a, b, rfl⟩

/-- A struct of a text and a number, cell for cell. -/
theorem pair_ofW {H : Type} {enc : TypeId × Value → H} {w : World} {base : Nat} {sp : Nat → Bool} {held : Bool} {fuel : Nat} {cs : List Value} {s : List UInt8} {z : Int} {p : List MemPlace}
    (h : DataW.trod enc Tryd.prog w base sp held fuel 51 cs = some (.agg [.lit (.string s), .lit (.int .u8 z)], p)) : cs = [.string (bts s), .int .u8 z] := by
  obtain ⟨xs, n, rfl, hx, hl, hxl, hall⟩ := DataW.trod_struct Tryd.underlying51 h
  rw [cPairW] at hl
  have hxs : xs.map (·.1) = [.lit (.string s), .lit (.int .u8 z)] := by
    have := congrArg Prod.fst hx
    simpa using this.symm
  obtain ⟨x0, x1, rfl⟩ := two_ofW (show xs.length = 2 by have := congrArg List.length hxs; simpa using this)
  obtain ⟨v0, v1, rfl⟩ := two_ofW hl
  simp only [List.map_cons, List.map_nil, List.cons.injEq, and_true] at hxs
  have h0 := hall 0 _ rfl
  have h1 := hall 1 _ rfl
  simp only [List.getElem?_cons_zero, List.getElem?_cons_succ] at h0 h1
  obtain ⟨t, e0, hx0, _⟩ := DataW.trod_string Tryd.underlying9 h0
  obtain ⟨m, e1, hx1, _⟩ := DataW.trod_int Tryd.underlying22 h1
  rw [hx0, hx1] at hxs
  simp only [DataW.lit.injEq, Lit.string.injEq, Lit.int.injEq, true_and] at hxs
  obtain ⟨hs, hz⟩ := hxs
  subst hs
  subst hz
  have f0 : ([v0, v1].drop 0).take (Tryd.prog.cellsOf 9) = [.string t] := e0
  have f1 : ([v0, v1].drop 1).take (Tryd.prog.cellsOf 22) = [.int .u8 m] := e1
  rw [cStrW] at f0
  rw [cWant] at f1
  simp at f0 f1
  rw [f0, f1, bts_toList]

theorem words_cells {W : World} (h : VarReads Tryd.prog W "missive/tally.words" Rows.laid_missive_tally_words) : ∀ j v, wordsC[j]? = some v → W.cell? ⟨0, j, none⟩ = some v := by
  rw [words_laid] at h
  obtain ⟨g, t, cs, fuel, p, hg, hty, hvar, hd⟩ := h
  obtain rfl := Option.some.inj (gWords.symm.trans hg)
  obtain rfl := Option.some.inj (yWords.symm.trans hty)
  have key : ∀ i (hi : i < 4), cs[2 * i]? = some (.string (bts (wordsT[i]'hi).1)) ∧ cs[2 * i + 1]? = some (.int .u8 ((wordsT[i]'hi).2 : Int)) := by
    intro i hi
    obtain ⟨fuel', d, q, hdi, he⟩ := array_elem Tryd.underlying52 hd i hi
    rw [List.getElem?_map, List.getElem?_eq_getElem (by simpa [wordsT] using hi)] at hdi
    simp only [Option.map_some, Option.some.injEq] at hdi
    subst hdi
    rw [cPairW] at he
    have hcs := pair_ofW he
    have e0 := congrArg (·[0]?) hcs
    have e1 := congrArg (·[1]?) hcs
    simp only [List.getElem?_take, List.getElem?_drop, List.getElem?_cons_zero, List.getElem?_cons_succ] at e0 e1
    rw [if_pos (by omega), show i * 2 + 0 = 2 * i by omega] at e0
    rw [if_pos (by omega), show i * 2 + 1 = 2 * i + 1 by omega] at e1
    constructor
    · rw [← Array.getElem?_toList]; exact e0
    · rw [← Array.getElem?_toList]; exact e1
  intro j v hj
  rw [World.var?_cell hg hvar j]
  have hj8 : j < 8 := by
    rcases Nat.lt_or_ge j 8 with h | h
    · exact h
    · rw [List.getElem?_eq_none (by simpa [wordsC, wordsT] using h)] at hj; simp at hj
  obtain ⟨i, hi, hij⟩ : ∃ i, i < 4 ∧ (j = 2 * i ∨ j = 2 * i + 1) := ⟨j / 2, by omega, by omega⟩
  have hk := key i hi
  rcases hij with rfl | rfl
  · rw [hk.1, ← hj]
    rcases (show i = 0 ∨ i = 1 ∨ i = 2 ∨ i = 3 by omega) with rfl | rfl | rfl | rfl <;> rfl
  · rw [hk.2, ← hj]
    rcases (show i = 0 ∨ i = 1 ∨ i = 2 ∨ i = 3 by omega) with rfl | rfl | rfl | rfl <;> rfl

theorem wtab_of {W : World} (h : VarReads Tryd.prog W "missive/tally.words" Rows.laid_missive_tally_words) : WTab W := by
  have hc := words_cells h
  refine ⟨?_, hc⟩
  have h0 := hc 0 _ rfl
  rcases Nat.lt_or_ge 0 W.heap.size with h' | h'
  · exact h'
  · simp [World.cell?, Array.getElem?_eq_none h'] at h0
theorem tabY_of {W : World} (h1 : VarReads Tryd.prog W "strconv.ErrSyntax" Rows.laid_strconv_ErrSyntax) (h2 : VarReads Tryd.prog W "strconv.ErrRange" Rows.laid_strconv_ErrRange) (h3 : VarReads Tryd.prog W "internal/strconv.uint64pow10" Rows.laid_internal_strconv_uint64pow10) (h4 : VarReads Tryd.prog W "missive/tally.words" Rows.laid_missive_tally_words) : TabY W :=
  ⟨errN_of h1 h2, powT_of h3, wtab_of h4⟩
theorem wfT8 {n : Int} (h : (Lit.int .u8 n).wf = true) : ∃ k : Nat, n = (k : Int) ∧ k ≤ 255 := by
  simp only [Lit.wf, Bool.and_eq_true, decide_eq_true_eq] at h
  have h1 : IntKind.u8.min = 0 := by decide
  have h2 : IntKind.u8.max = 255 := by decide
  exact ⟨n.toNat, by omega, by omega⟩
theorem wfT32 {n : Int} (h : (Lit.int .u32 n).wf = true) : ∃ k : Nat, n = (k : Int) ∧ k ≤ 4294967295 := by
  simp only [Lit.wf, Bool.and_eq_true, decide_eq_true_eq] at h
  have h1 : IntKind.u32.min = 0 := by decide
  have h2 : IntKind.u32.max = 4294967295 := by decide
  exact ⟨n.toNat, by omega, by omega⟩
theorem wfT64 {n : Int} (h : (Lit.int .i64 n).wf = true) : -9223372036854775808 ≤ n ∧ n ≤ 9223372036854775807 := by
  simp only [Lit.wf, Bool.and_eq_true, decide_eq_true_eq] at h
  have h1 : IntKind.i64.min = -9223372036854775808 := by decide
  have h2 : IntKind.i64.max = 9223372036854775807 := by decide
  omega

set_option maxRecDepth 100000 in
/-- A tally that came in. -/
theorem open_tly {H : Type} {enc : TypeId × Value → H} {W : World} {base base' : Nat} {held : Bool} {fuel : Nat} {v : Value} {x : DataW H × List MemPlace} {r : Reach} (hv : Value.okWide Tryd.prog W r base' 27 v)
    (hf : DataW.trod enc Tryd.prog W base (fun _ => true) held fuel 27 v.cells.toList = some x) (hbk : Rows.uptoBulk x.1 ≤ 1048576) : ∃ (b : Tly) (a : Option Addr) (n cap : Nat), v = tlV b (.slice a n cap) ∧ RowSp W (.slice a n cap) b.all ∧ FitT b ∧ b.all.length + 1 ≤ Rows.uptoBulk x.1 := by
  obtain ⟨cs, rfl, _⟩ := okWide_struct Tryd.underlying27 hv
  obtain ⟨xs, n, _, rfl, hl, hlen, hx⟩ := DataW.trod_struct Tryd.underlying27 hf
  have c5 : (Tryd.prog).cellsOf 27 = 5 := by kernel_rfl
  have cw1 : (Tryd.prog).cellsOf 22 = 1 := by kernel_rfl
  have ci1 : (Tryd.prog).cellsOf 3 = 1 := by kernel_rfl
  have cu1 : (Tryd.prog).cellsOf 24 = 1 := by kernel_rfl
  have cm1 : (Tryd.prog).cellsOf 25 = 1 := by kernel_rfl
  simp only [Value.cells] at hl hx
  rw [c5] at hl
  match xs, hlen with
  | [y0, y1, y2, y3, y4], _ =>
    have h0 := hx 0 _ rfl
    have h1 := hx 1 _ rfl
    have h2 := hx 2 _ rfl
    have h3 := hx 3 _ rfl
    have h4 := hx 4 _ rfl
    obtain ⟨ls⟩ := cs
    simp only at hl h0 h1 h2 h3 h4
    match ls, hl with
    | [u0, u1, u2, u3, u4], _ =>
      simp [cw1, ci1, cu1, cm1] at h0 h1 h2 h3 h4
      obtain ⟨s0, e0, f0, g0⟩ := DataW.trod_int Tryd.underlying22 h0
      obtain ⟨s1, e1, f1, g1⟩ := DataW.trod_int Tryd.underlying3 h1
      obtain ⟨s2, e2, f2, g2⟩ := DataW.trod_int Tryd.underlying24 h2
      obtain ⟨s3, e3, f3, g3⟩ := DataW.trod_int Tryd.underlying24 h3
      simp only [List.map_cons, List.map_nil, Rows.uptoBulk, Rows.uptoBulkAll] at hbk
      obtain ⟨v, l, e4, hr, _, hb⟩ := trod_rowSp h4
      simp only [List.cons.injEq, and_true] at e0 e1 e2 e3 e4
      subst e0 e1 e2 e3 e4
      obtain ⟨k0, rfl, q0⟩ := wfT8 g0
      have q1 := wfT64 g1
      obtain ⟨k2, rfl, q2⟩ := wfT32 g2
      obtain ⟨k3, rfl, q3⟩ := wfT32 g3
      obtain ⟨a, cap, hu, _⟩ := id hr
      subst hu
      refine ⟨⟨k0, s1, k2, k3, l⟩, a, _, cap, rfl, hr, ⟨q0, q1, q2, q3⟩, ?_⟩
      simp only [List.map_cons, List.map_nil, Rows.uptoBulk, Rows.uptoBulkAll]
      show l.length + 1 ≤ _
      omega
end Go.Proofs.YtlolilhlpbpfjaaDoor
