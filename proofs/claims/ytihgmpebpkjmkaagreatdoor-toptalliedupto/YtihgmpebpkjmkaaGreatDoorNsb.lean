/-
  A set's text, and what a text is as a set: plain mathematics.
-/
import Derived.Test.YtihgmpebpkjmkaaGreatDoorNsa
import Derived.Lib.ParseIntB
import Derived.Lib.ItoaNum
set_option linter.unusedVariables false
namespace Go.Proofs.Nst

/-- An end's text, and what a text is as an end. -/
def endT (n : Nat) : List UInt8 := if n = 0 then [42] else Lib.decDigits n
def endP (l : List UInt8) : Nat × Bool :=
  if l = [42] then (0, true)
  else if l.head? = some 48 then (0, false)
  else match Lib.parseUintB 32 l with
    | .ok u => (u, true)
    | .range => (4294967295, false)
    | _ => (0, false)
/-- What stands ahead of a byte, what behind it, and whether it is there. -/
def cutB (c : UInt8) : List UInt8 → List UInt8 × List UInt8 × Bool
  | [] => ([], [], false)
  | x :: r => if x = c then ([], r, true) else (x :: (cutB c r).1, (cutB c r).2.1, (cutB c r).2.2)
theorem cutB_no (c : UInt8) : ∀ l, (cutB c l).2.2 = false → (cutB c l).1 = l
  | [], _ => rfl
  | x :: r, h => by
    unfold cutB at h ⊢
    split at h
    · cases h
    · rename_i hx
      rw [if_neg hx]
      simp only at h ⊢
      rw [cutB_no c r h]
theorem cutB_yes (c : UInt8) : ∀ l, (cutB c l).2.2 = true → l = (cutB c l).1 ++ c :: (cutB c l).2.1
  | [], h => by cases h
  | x :: r, h => by
    unfold cutB at h ⊢
    split at h
    · rename_i hx
      rw [if_pos hx]
      simp [hx]
    · rename_i hx
      rw [if_neg hx]
      simp only at h ⊢
      rw [List.cons_append, ← cutB_yes c r h]
theorem cutB_len (c : UInt8) : ∀ l, (cutB c l).2.1.length + (if (cutB c l).2.2 then 1 else 0) ≤ l.length
  | [] => by simp [cutB]
  | x :: r => by
    have ih := cutB_len c r
    unfold cutB
    split
    · simp
    · simp only [List.length_cons]; omega
def spanT (s : Sp) : List UInt8 := if s.2 ≠ s.1 then endT s.1 ++ 58 :: endT s.2 else endT s.1
def spanP (l : List UInt8) : Sp × Bool :=
  if (cutB 58 l).2.2 then (((endP (cutB 58 l).1).1, (endP (cutB 58 l).2.1).1), (endP (cutB 58 l).1).2 && (endP (cutB 58 l).2.1).2 && decide ((endP (cutB 58 l).1).1 ≠ (endP (cutB 58 l).2.1).1))
  else (((endP (cutB 58 l).1).1, (endP (cutB 58 l).1).1), (endP (cutB 58 l).1).2)
/-- A text's pieces, with a comma between. -/
def piecesF : Nat → List UInt8 → List (List UInt8)
  | 0, l => [l]
  | f + 1, l => if (cutB 44 l).2.2 then (cutB 44 l).1 :: piecesF f (cutB 44 l).2.1 else [(cutB 44 l).1]
def piecesL (l : List UInt8) : List (List UInt8) := piecesF l.length l
def joinL : List (List UInt8) → List UInt8
  | [] => []
  | [x] => x
  | x :: r => x ++ 44 :: joinL r
theorem piecesF_ne : ∀ f l, piecesF f l ≠ []
  | 0, l => by simp [piecesF]
  | f + 1, l => by unfold piecesF; split <;> simp
theorem joinL_pieces : ∀ (f : Nat) (l : List UInt8), l.length ≤ f → joinL (piecesF f l) = l
  | 0, l, h => by simp [piecesF, joinL]
  | f + 1, l, h => by
    unfold piecesF
    split
    · rename_i hc
      have h1 := cutB_yes 44 l hc
      have h2 := cutB_len 44 l
      rw [hc] at h2
      simp only [if_true] at h2
      have h3 := joinL_pieces f (cutB 44 l).2.1 (by omega)
      have hne := piecesF_ne f (cutB 44 l).2.1
      cases hp : piecesF f (cutB 44 l).2.1 with
      | nil => exact absurd hp hne
      | cons y r =>
        rw [hp] at h3
        conv => rhs; rw [h1]
        simp only [joinL]
        rw [h3]
    · rename_i hc
      exact cutB_no 44 l (by simpa using hc)
/-- A set's spans out of its text: what was told, and how it ended. -/
def parseP (s : List UInt8) : List Sp × Nat :=
  if ((piecesL s).all fun p => (spanP p).2) = true then if (piecesL s).length ≤ 1024 then ((piecesL s).map fun p => (spanP p).1, 0) else ([], 15) else ([], 7)
def writeP (l : List Sp) : List UInt8 := joinL (l.map spanT)

theorem digits_more (M : Nat) : ∀ (l : List UInt8) (acc u : Nat), 1 ≤ acc → Lib.parseUintM M acc l = .ok u → Lib.decDigits u = Lib.decDigits acc ++ l
  | [], acc, u, _, h => by
    simp only [Lib.parseUintM] at h
    injection h with h
    rw [h, List.append_nil]
  | c :: r, acc, u, ha, h => by
    unfold Lib.parseUintM at h
    split at h
    · rename_i hc
      split at h
      · cases h
      · split at h
        · cases h
        · have ih := digits_more M r _ u (by omega) h
          rw [ih]
          have hd : Lib.decDigits (acc * 10 + (c.toNat - 48)) = Lib.decDigits acc ++ [c] := by
            rw [Lib.decDigits, dif_neg (by omega)]
            have e1 : (acc * 10 + (c.toNat - 48)) / 10 = acc := by omega
            have e2 : 48 + (acc * 10 + (c.toNat - 48)) % 10 = c.toNat := by omega
            rw [e1, e2]
            simp
          rw [hd, List.append_assoc]
          rfl
    · cases h
theorem digits_of {l : List UInt8} {u : Nat} (h : Lib.parseUintB 32 l = .ok u) (h0 : l.head? ≠ some 48) : Lib.decDigits u = l ∧ 1 ≤ u ∧ u ≤ 4294967295 := by
  unfold Lib.parseUintB at h
  split at h
  · cases h
  · rename_i hn
    cases l with
    | nil => exact absurd rfl hn
    | cons c r =>
      have hle : ∀ (l : List UInt8) (acc : Nat), acc ≤ 4294967295 → Lib.parseUintM (2 ^ 32 - 1) acc l = .ok u → acc ≤ u ∧ u ≤ 4294967295 := by
        intro l
        induction l with
        | nil => intro acc ha hh; simp only [Lib.parseUintM] at hh; injection hh with hh; omega
        | cons x r ih =>
          intro acc ha hh
          unfold Lib.parseUintM at hh
          split at hh
          · split at hh
            · cases hh
            · split at hh
              · cases hh
              · have := ih _ (by omega) hh; omega
          · cases hh
      unfold Lib.parseUintM at h
      split at h
      · rename_i hc
        split at h
        · cases h
        · split at h
          · cases h
          · have hc0 : c.toNat ≠ 48 := by
              intro e
              apply h0
              simp
              exact UInt8.toNat_inj.1 e
            have hd := digits_more _ r _ u (by omega) h
            have hl := hle r _ (by omega) h
            rw [hd, Lib.decDigits, dif_pos (by omega)]
            have e2 : 48 + (0 * 10 + (c.toNat - 48)) = c.toNat := by omega
            rw [e2]
            refine ⟨by simp, by omega, hl.2⟩
      · cases h
theorem endP_back {l : List UInt8} {n : Nat} (h : endP l = (n, true)) : endT n = l ∧ n ≤ 4294967295 := by
  unfold endP at h
  split at h
  · rename_i hl
    injection h with h1 h2
    rw [hl, ← h1]
    exact ⟨rfl, by omega⟩
  · split at h
    · injection h with h1 h2; cases h2
    · rename_i hl hh
      split at h
      · rename_i u hu
        injection h with h1 h2
        subst h1
        obtain ⟨d1, d2, d3⟩ := digits_of hu hh
        unfold endT
        rw [if_neg (by omega)]
        exact ⟨d1, d3⟩
      · injection h with h1 h2; cases h2
      · injection h with h1 h2; cases h2
theorem endP_fit (l : List UInt8) : (endP l).1 ≤ 4294967295 := by
  rcases hh : endP l with ⟨n, b⟩
  cases b with
  | true => exact (endP_back hh).2
  | false =>
    unfold endP at hh
    split at hh
    · injection hh with h1 h2; cases h2
    · split at hh
      · injection hh with h1 h2; omega
      · split at hh
        · injection hh with h1 h2; cases h2
        · injection hh with h1 h2; omega
        · injection hh with h1 h2; omega
theorem spanP_back {l : List UInt8} (h : (spanP l).2 = true) : spanT (spanP l).1 = l := by
  unfold spanP at h ⊢
  split at h
  · rename_i hc
    rw [if_pos hc]
    simp only [Bool.and_eq_true, decide_eq_true_eq] at h
    obtain ⟨⟨h1, h2⟩, h3⟩ := h
    unfold spanT
    simp only
    rw [if_pos (fun e => h3 e.symm), (endP_back (n := (endP (cutB 58 l).1).1) (by rw [← h1])).1, (endP_back (n := (endP (cutB 58 l).2.1).1) (by rw [← h2])).1]
    exact (cutB_yes 58 l hc).symm
  · rename_i hc
    rw [if_neg hc]
    simp only at h
    unfold spanT
    simp only [ne_eq, not_true_eq_false, if_false]
    rw [(endP_back (n := (endP (cutB 58 l).1).1) (by rw [← h])).1]
    exact cutB_no 58 l (by simpa using hc)
/-- What is parsed is written as the text that it was. -/
theorem parse_back {s : List UInt8} {l : List Sp} (h : parseP s = (l, 0)) : writeP l = s ∧ 1 ≤ l.length ∧ l.length ≤ 1024 := by
  unfold parseP at h
  split at h
  · rename_i ha
    split at h
    · rename_i hl
      injection h with h1 h2
      subst h1
      refine ⟨?_, ?_, by rw [List.length_map]; exact hl⟩
      · unfold writeP
        rw [List.map_map]
        have : (piecesL s).map (spanT ∘ fun p => (spanP p).1) = (piecesL s).map id := List.map_congr_left (fun p hp => spanP_back (List.all_eq_true.1 ha p hp))
        rw [this, List.map_id]
        exact joinL_pieces _ s (Nat.le_refl _)
      · rw [List.length_map]
        have := piecesF_ne s.length s
        exact List.length_pos_iff.2 this
    · cases h
  · cases h
theorem parse_fit (s : List UInt8) : ∀ x ∈ (parseP s).1, x.1 ≤ 4294967295 ∧ x.2 ≤ 4294967295 := by
  intro x hx
  unfold parseP at hx
  split at hx
  · split at hx
    · obtain ⟨p, _, rfl⟩ := List.mem_map.1 hx
      unfold spanP
      split
      · exact ⟨endP_fit _, endP_fit _⟩
      · exact ⟨endP_fit _, endP_fit _⟩
    · cases hx
  · cases hx
end Go.Proofs.Nst
