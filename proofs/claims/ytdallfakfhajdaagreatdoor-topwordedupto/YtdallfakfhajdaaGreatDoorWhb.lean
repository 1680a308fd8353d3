/-
  The walk of missivelaw08.HeadBack, over this seat's program.
-/
import Derived.Test.YtdallfakfhajdaaGreatDoorHlv
set_option linter.unusedVariables false
namespace Go.Proofs.YtdallfakfhajdaaGreatDoor
open Go.RowKit Go.Proofs.Hed

/-- What is written, is parsed. -/
theorem write_ok {L : List (List UInt8 × List UInt8)} (h : (writeR L).2 = 0) : L.all okF = true ∧ L.length ≤ 1024 ∧ (writeR L).1 = textL [10] L := by
  unfold writeR at *
  split at h
  · rename_i h1
    split at h
    · rename_i h2
      rw [if_pos h1, if_pos h2]
      exact ⟨h1, h2, rfl⟩
    · cases h
  · cases h
theorem write_not {L : List (List UInt8 × List UInt8)} (h : (writeR L).2 ≠ 0) : (writeR L).1 = [] := by
  unfold writeR at *
  split at h
  · split at h
    · exact absurd rfl h
    · rename_i h1 h2
      rw [if_pos h1, if_neg h2]
  · rename_i h1
    rw [if_neg h1]
theorem flat_le (l : List Fld) : (textL [10] (l.map lst)).length ≤ sumF l + 1 := by
  have := flat_len l
  unfold textL
  simp only [List.length_append, List.length_cons, List.length_nil]
  omega
theorem back_flds {l l' : List Fld} (h : l'.map lst = (l.map lst)) : l' = l := by
  rw [flds_of h, ← flds_of (rfl : l.map lst = l.map lst)]

/-- Bytes that are parsed into fields are no fewer than these. -/
theorem parseF_bulk : ∀ (f : Nat) (s : List UInt8), ((parseF f s).1.map (fun p => p.1.length + p.2.length)).sum ≤ s.length
  | 0, _ => by simp [parseF]
  | f + 1, s => by
    have h1 := lineN_le s
    have h0 := lineOf_len s
    simp only [parseF]
    split
    · simp
    · split
      · simp
      · rename_i n v hc
        split
        · have h2 := parseF_bulk f (s.drop (lineN s + (contL (s.drop (lineN s))).2))
          have h3 := contL_le (s.drop (lineN s))
          have h4 := contL_len (s.drop (lineN s))
          have h5 := colon_len hc
          have h6 := trimL_len (v ++ (contL (s.drop (lineN s))).1)
          rw [List.length_append] at h6
          rw [List.length_drop] at h2 h3
          simp only [List.map_cons, List.sum_cons]
          omega
        · simp
theorem take_sum (f : List UInt8 × List UInt8 → Nat) (n : Nat) : ∀ L : List (List UInt8 × List UInt8), ((L.take n).map f).sum ≤ (L.map f).sum := by
  intro L
  induction L generalizing n with
  | nil => simp
  | cons p r ih =>
    cases n with
    | zero => simp
    | succ n =>
      have := ih n
      simp only [List.take_succ_cons, List.map_cons, List.sum_cons]
      omega
theorem sumF_of (l : List Fld) : sumF l = ((l.map lst).map (fun p => p.1.length + p.2.length)).sum + l.length * 3 := by
  induction l with
  | nil => rfl
  | cons f r ih =>
    have h1 := sizeL f.1
    have h2 := sizeL f.2
    simp only [sumF, List.map_cons, List.sum_cons, List.length_cons, ih, lst, h1, h2]
    omega
theorem parsed_sum {l : List Fld} {s : List UInt8} (h : l.map lst = (parseL s).1.take 1024) : sumF l ≤ s.length + 3072 := by
  have h1 := take_sum (fun p => p.1.length + p.2.length) 1024 (parseL s).1
  have h2 := parseF_bulk (s.length + 1) s
  have h3 := congrArg List.length h
  rw [List.length_map, List.length_take] at h3
  rw [sumF_of, h]
  unfold parseL at h1 ⊢
  omega

end Go.Proofs.YtdallfakfhajdaaGreatDoor
