/-
  More of dictionaries in plain mathematics: keys that rise, place by place; bytes that are put together entry by entry.
-/
import Derived.Test.YtlolilhlpbpfjaaGreatDoorDct
set_option linter.unusedVariables false
namespace Go.Proofs.Dct
open Go.Proofs.Num

theorem rises_iff : ∀ (ks : List Nat) (least : Nat), rises least ks = true ↔ (∀ h : 0 < ks.length, least ≤ ks[0]) ∧ ∀ (j : Nat) (h : j + 1 < ks.length), ks[j] < ks[j + 1] := by
  intro ks
  induction ks with
  | nil => intro least; simp [rises]
  | cons k r ih =>
    intro least
    simp only [rises, Bool.and_eq_true, decide_eq_true_eq, ih]
    constructor
    · rintro ⟨h1, h2, h3⟩
      refine ⟨fun _ => h1, fun j h => ?_⟩
      cases j with
      | zero =>
        have := h2 (by simpa using h)
        simp only [List.getElem_cons_zero, List.getElem_cons_succ]
        omega
      | succ j =>
        simp only [List.getElem_cons_succ]
        exact h3 j (by simpa using h)
    · rintro ⟨h1, h2⟩
      refine ⟨h1 (by simp), fun h => ?_, fun j h => ?_⟩
      · have := h2 0 (by simpa using h)
        simp only [List.getElem_cons_zero, List.getElem_cons_succ] at this
        omega
      · have := h2 (j + 1) (by simpa using h)
        simpa using this

/-- The least key behind some. -/
def lastL (least : Nat) (l : List (Nat × Nat)) : Nat := match l.getLast? with
  | none => least
  | some p => p.1 + 1
theorem lastL_nil (least : Nat) : lastL least [] = least := rfl
theorem lastL_snoc (least : Nat) (l : List (Nat × Nat)) (p : Nat × Nat) : lastL least (l ++ [p]) = p.1 + 1 := by simp [lastL]
theorem lastL_cons (least : Nat) (p : Nat × Nat) (l : List (Nat × Nat)) : lastL least (p :: l) = lastL (p.1 + 1) l := by
  unfold lastL
  cases l with
  | nil => rfl
  | cons q r =>
    rw [List.getLast?_cons_cons]
    rw [List.getLast?_eq_some_getLast (List.cons_ne_nil q r)]
theorem heads_snoc : ∀ (l : List (Nat × Nat)) (least : Nat) (p : Nat × Nat), heads least (l ++ [p]) = heads least l ++ (putL (p.1 - lastL least l) ++ putL p.2) := by
  intro l
  induction l with
  | nil => intro least p; obtain ⟨k, n⟩ := p; simp [heads, lastL_nil]
  | cons x r ih =>
    intro least p
    obtain ⟨k, n⟩ := x
    rw [List.cons_append, heads, heads, ih, lastL_cons]
    simp
theorem datas_snoc (l : List EntL) (e : EntL) : datas (l ++ [e]) = datas l ++ e.2 := by simp [datas]
theorem rises_last {l : List (Nat × Nat)} {p : Nat × Nat} (h : rises 0 ((l ++ [p]).map (·.1)) = true) : lastL 0 l ≤ p.1 := by
  have go : ∀ (l : List (Nat × Nat)) (least : Nat), rises least ((l ++ [p]).map (·.1)) = true → lastL least l ≤ p.1 := by
    intro l
    induction l with
    | nil => intro least h; simpa [rises, lastL_nil] using h
    | cons x r ih =>
      intro least h
      simp only [List.cons_append, List.map_cons, rises, Bool.and_eq_true] at h
      rw [lastL_cons]
      exact ih _ h.2
  exact go l 0 h
theorem rises_take {ks : List Nat} {least : Nat} (h : rises least ks = true) (k : Nat) : rises least (ks.take k) = true := by
  rw [rises_iff] at h ⊢
  refine ⟨fun h0 => ?_, fun j hj => ?_⟩
  · have := h.1 (by rw [List.length_take] at h0; omega)
    simpa using this
  · have := h.2 j (by rw [List.length_take] at hj; omega)
    simpa using this
theorem writeD_order {l : List EntL} (h : ¬ rises 0 (keysE l) = true) : writeD l = ([], 12) := by unfold writeD; rw [if_neg h]
theorem writeD_long {l : List EntL} (h : rises 0 (keysE l) = true) (hl : ¬ l.length ≤ 65536) : writeD l = ([], 15) := by unfold writeD; rw [if_pos h, if_neg hl]
theorem writeD_done {l : List EntL} (h : rises 0 (keysE l) = true) (hl : l.length ≤ 65536) : writeD l = (putL l.length ++ (heads 0 (l.map szE) ++ datas l), 0) := by unfold writeD; rw [if_pos h, if_pos hl]
end Go.Proofs.Dct
