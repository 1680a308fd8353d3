/-
  What the document's Parse of layer 8 does, over this seat's program.
-/
import Derived.Test.YtmlfjbfbpnnlkaaDoorRfw
import Derived.Test.YtmlfjbfbpnnlkaaDoorHsf
set_option linter.unusedVariables false
namespace Go.Proofs.YtmlfjbfbpnnlkaaDoor
open Go.RowKit Go.Proofs.Hed

abbrev Pair := List UInt8 × List UInt8
def trF (p : Pair) : Pair := (p.1, trimL p.2)
/-- What the loop knows, with k bytes read: all fields so far, the last one's value not at its end yet. -/
def PInv (L : List UInt8) (acc : List Pair) (k : Nat) : Prop :=
  (acc = [] ∧ k = 0) ∨ ∃ a0 n v, acc = a0 ++ [(n, v)] ∧ parseL L = (a0.map trF ++ (n, trimL (v ++ (contL (L.drop k)).1)) :: (parseL ((L.drop k).drop (contL (L.drop k)).2)).1, k + (contL (L.drop k)).2 + (parseL ((L.drop k).drop (contL (L.drop k)).2)).2)
/-- .. and behind it. -/
def PEnd (L : List UInt8) (acc : List Pair) (k : Nat) : Prop := parseL L = (acc.map trF, k)

theorem p_stop {L : List UInt8} {acc : List Pair} {k j : Nat} (h : PInv L acc k) (hg : acc ≠ [] → goesOn (lineOf (L.drop k)) = false) (hp : parseL (L.drop k) = ([], j)) : PEnd L acc (k + j) := by
  rcases h with ⟨h1, h2⟩ | ⟨a0, n, v, h1, h2⟩
  · subst h1 h2
    rw [List.drop_zero] at hp
    unfold PEnd
    rw [hp]
    simp
  · have hc := contL_stop (hg (by rw [h1]; simp))
    unfold PEnd
    rw [h2, hc, h1]
    simp only [List.drop_zero, List.append_nil, hp]
    simp [trF]
theorem p_go {L : List UInt8} {a0 : List Pair} {n v : List UInt8} {k : Nat} (h : PInv L (a0 ++ [(n, v)]) k) (hg : goesOn (lineOf (L.drop k)) = true) : PInv L (a0 ++ [(n, v ++ lineOf (L.drop k))]) (k + lineN (L.drop k)) := by
  rcases h with ⟨h1, h2⟩ | ⟨b0, m, x, h1, h2⟩
  · simp at h1
  · obtain ⟨rfl, h3⟩ := List.append_inj' h1 rfl
    simp only [List.cons.injEq, Prod.mk.injEq, and_true] at h3
    obtain ⟨rfl, rfl⟩ := h3
    right
    refine ⟨a0, n, _, rfl, ?_⟩
    rw [h2, contL_go hg]
    simp only [List.drop_drop, List.append_assoc, Nat.add_assoc]
theorem p_new {L : List UInt8} {acc : List Pair} {n v : List UInt8} {k : Nat} (h : PInv L acc k) (hg : goesOn (lineOf (L.drop k)) = false) (hl : lineOf (L.drop k) ≠ []) (hc : colon (lineOf (L.drop k)) = some (n, v)) (hn : isNm n = true) :
    PInv L (acc ++ [(n, v)]) (k + lineN (L.drop k)) := by
  right
  refine ⟨acc, n, v, rfl, ?_⟩
  have hf := parseL_field hl hc hn
  rcases h with ⟨h1, h2⟩ | ⟨a0, m, x, h1, h2⟩
  · subst h1 h2
    rw [List.drop_zero] at hf ⊢
    rw [hf]
    simp [List.drop_drop]
  · rw [h2, contL_stop hg, h1]
    simp only [List.drop_zero, List.append_nil, hf]
    simp only [List.drop_drop, Nat.add_assoc, List.map_append, List.map_cons, List.map_nil, List.append_assoc, List.cons_append, List.nil_append, Nat.zero_add, trF]
theorem parse_no {r : List UInt8} (hl : lineOf r ≠ []) (hn : (nmdF (lineOf r)).getD [] = []) : parseL r = ([], 0) := by
  cases hc : colon (lineOf r) with
  | none => exact parseL_none hl hc
  | some p =>
    obtain ⟨n, v⟩ := p
    refine parseL_no hl hc ?_
    rw [nmdF_colon, hc] at hn
    simp only at hn
    unfold isNm
    by_cases h : n.all nameB = true
    · rw [if_pos h] at hn
      simp only [Option.getD_some] at hn
      subst hn
      rfl
    · have hf : n.all nameB = false := by simpa using h
      rw [hf]
      rfl
theorem nmd_some {l : List UInt8} (hn : (nmdF l).getD [] ≠ []) : ∃ v, colon l = some ((nmdF l).getD [], v) ∧ isNm ((nmdF l).getD []) = true ∧ goesOn l = false ∧ l.drop (((nmdF l).getD []).length + 1) = v := by
  rw [nmdF_colon] at hn ⊢
  cases hc : colon l with
  | none => rw [hc] at hn; exact absurd rfl hn
  | some p =>
    obtain ⟨n, v⟩ := p
    rw [hc] at hn
    simp only at hn ⊢
    by_cases h : n.all nameB = true
    · rw [if_pos h] at hn ⊢
      simp only [Option.getD_some] at hn ⊢
      have hix := index_colon l
      rw [hc] at hix
      simp only at hix
      refine ⟨v, rfl, ?_, ?_, ?_⟩
      · unfold isNm
        rw [h]
        simpa using hn
      · rw [hix.2]
        cases n with
        | nil => exact absurd rfl hn
        | cons c r =>
          rw [List.all_cons, Bool.and_eq_true] at h
          have hb := h.1
          simp only [nameB, decide_eq_true_eq] at hb
          simp only [List.cons_append, goesOn, isB_int]
          have h1 : ((c.toNat : Int) == 32) = false := by rw [beq_eq_false_iff_ne]; omega
          have h2 : ((c.toNat : Int) == 9) = false := by rw [beq_eq_false_iff_ne]; omega
          rw [h1, h2]
          rfl
      · rw [hix.2]
        simp
    · rw [if_neg h] at hn
      exact absurd rfl hn
end Go.Proofs.YtmlfjbfbpnnlkaaDoor
