/-
  Keys that rise are found, each by itself: plain mathematics over this seat's program's plain reading.
-/
import Derived.Test.YtmadjiiomjlnaaaDic
import Derived.Test.YtmadjiiomjlnaaaDcu
set_option linter.unusedVariables false
namespace Go.Proofs.Ytmadjiiomjlnaaa
open Go.RowKit Go.Proofs.Num Go.Proofs.Dct

theorem rises_ge : ∀ (L : List EntL) (least : Nat), rises least (keysE L) = true → ∀ e ∈ L, least ≤ e.1 := by
  intro L
  induction L with
  | nil => intro least _ e he; cases he
  | cons x r ih =>
    intro least h e he
    simp only [keysE, List.map_cons, rises, Bool.and_eq_true, decide_eq_true_eq] at h
    rcases List.mem_cons.1 he with rfl | he
    · exact h.1
    · have := ih (x.1 + 1) h.2 e he
      omega
theorem seek_at : ∀ (L : List EntL) (least : Nat), rises least (keysE L) = true → ∀ (i : Nat) (h : i < L.length), seekE (L[i]).1 L = ((L[i]).2, 0) := by
  intro L
  induction L with
  | nil => intro least _ i h; simp at h
  | cons x r ih =>
    intro least h i hi
    simp only [keysE, List.map_cons, rises, Bool.and_eq_true, decide_eq_true_eq] at h
    cases i with
    | zero => exact seek_hit rfl
    | succ i =>
      have hi' : i < r.length := by simpa using hi
      have := rises_ge r _ h.2 r[i] (List.getElem_mem hi')
      simp only [List.getElem_cons_succ]
      rw [seek_miss (by omega)]
      exact ih _ h.2 i hi'
theorem filter_none {L : List EntL} {least k : Nat} (h : rises least (keysE L) = true) (hk : k < least) : L.filter (inB k k) = [] := by
  rw [List.filter_eq_nil_iff]
  intro e he
  have := rises_ge L _ h e he
  unfold inB
  simp
  omega
theorem filter_at : ∀ (L : List EntL) (least : Nat), rises least (keysE L) = true → ∀ (i : Nat) (h : i < L.length), L.filter (inB (L[i]).1 (L[i]).1) = [L[i]] := by
  intro L
  induction L with
  | nil => intro least _ i h; simp at h
  | cons x r ih =>
    intro least h i hi
    simp only [keysE, List.map_cons, rises, Bool.and_eq_true, decide_eq_true_eq] at h
    cases i with
    | zero =>
      simp only [List.getElem_cons_zero]
      rw [List.filter_cons_of_pos (by simp [inB]), filter_none h.2 (by omega)]
    | succ i =>
      have hi' : i < r.length := by simpa using hi
      have := rises_ge r _ h.2 r[i] (List.getElem_mem hi')
      simp only [List.getElem_cons_succ]
      rw [List.filter_cons_of_neg (by simp [inB]; omega)]
      exact ih _ h.2 i hi'
theorem seek_code (L : List EntL) (key : Nat) : (seekE key L).2 = if L.any (fun e => decide (e.1 = key)) then 0 else 3 := by
  induction L with
  | nil => rfl
  | cons x r ih =>
    by_cases h : x.1 = key
    · rw [seek_hit h]; simp [h]
    · rw [seek_miss h, ih]; simp only [List.any_cons, decide_eq_false h, Bool.false_or]
theorem findR_written {l : List EntL} {t : List UInt8} (hf : FitL l) (h : writeD l = (t, 0)) (ky : Nat) : findR t ky = seekE ky l := by
  have := read_written [] hf h
  rw [List.append_nil] at this
  unfold findR
  rw [this]
end Go.Proofs.Ytmadjiiomjlnaaa
