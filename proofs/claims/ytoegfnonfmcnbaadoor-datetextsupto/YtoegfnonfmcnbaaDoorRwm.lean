/-
  Plain mathematics: the day of a mail's Date as the document says it, and as the program reads it, are one.
-/
import Derived.Test.YtoegfnonfmcnbaaDoorDmm
import Derived.Test.YtoegfnonfmcnbaaDoorRpm
set_option linter.unusedVariables false
namespace Go.Proofs.YtoegfnonfmcnbaaDoor
open Go.RowKit Go.Proofs.Dcl


/-- A text's words, byte by byte: those that are whole, and the one at work. -/
def wrdS (p : List (List UInt8) × List UInt8) (c : UInt8) : List (List UInt8) × List UInt8 :=
  if blB c then (if p.2 = [] then p.1 else p.1 ++ [p.2], []) else (p.1, p.2 ++ [c])
def wrdE (p : List (List UInt8) × List UInt8) : List (List UInt8) := if p.2 = [] then p.1 else p.1 ++ [p.2]
def wordsL (l : List UInt8) : List (List UInt8) := wrdE (l.foldl wrdS ([], []))

theorem wrdS_out (out : List (List UInt8)) (p : List (List UInt8) × List UInt8) (c : UInt8) : wrdS (out ++ p.1, p.2) c = (out ++ (wrdS p c).1, (wrdS p c).2) := by
  unfold wrdS
  by_cases h : blB c = true
  · by_cases h2 : p.2 = []
    · simp [h, h2]
    · simp [h, h2]
  · simp [h]
theorem words_fold (l : List UInt8) (out : List (List UInt8)) (p : List (List UInt8) × List UInt8) : l.foldl wrdS (out ++ p.1, p.2) = (out ++ (l.foldl wrdS p).1, (l.foldl wrdS p).2) := by
  induction l generalizing p with
  | nil => rfl
  | cons c r ih =>
    simp only [List.foldl_cons]
    rw [wrdS_out, ih]
theorem words_out (l : List UInt8) (out : List (List UInt8)) (now : List UInt8) : wrdE (l.foldl wrdS (out, now)) = out ++ wrdE (l.foldl wrdS ([], now)) := by
  have := words_fold l out ([], now)
  simp only [List.append_nil] at this
  rw [this]
  unfold wrdE
  by_cases h : (l.foldl wrdS ([], now)).2 = []
  · simp [h]
  · simp [h]
theorem words_now (l : List UInt8) (now : List UInt8) (h : now ≠ []) : wrdE (l.foldl wrdS ([], now)) = (now ++ l.takeWhile (fun c => !blB c)) :: wordsL (l.dropWhile fun c => !blB c) := by
  induction l generalizing now with
  | nil => simp [wrdE, h, wordsL]
  | cons c r ih =>
    simp only [List.foldl_cons]
    by_cases hc : blB c = true
    · have e : wrdS ([], now) c = ([now], []) := by simp [wrdS, hc, h]
      rw [e, words_out]
      have e2 : wordsL (c :: r) = wrdE (r.foldl wrdS ([], [])) := by
        unfold wordsL
        simp only [List.foldl_cons]
        congr 2
        simp [wrdS, hc]
      simp [hc, e2]
    · have hc' : blB c = false := by simpa using hc
      have e : wrdS ([], now) c = ([], now ++ [c]) := by simp [wrdS, hc']
      rw [e, ih _ (by simp)]
      simp [hc']
theorem words_blank (l : List UInt8) : wordsL l = wordsL (l.dropWhile blB) := by
  induction l with
  | nil => rfl
  | cons c r ih =>
    by_cases hc : blB c = true
    · rw [List.dropWhile_cons_of_pos hc, ← ih]
      unfold wordsL
      simp only [List.foldl_cons]
      congr 2
      simp [wrdS, hc]
    · rw [List.dropWhile_cons_of_neg hc]
theorem wordN_while (t : List UInt8) : wordN t = (t.takeWhile fun c => !blB c).length := by
  induction t with
  | nil => rfl
  | cons c r ih =>
    unfold wordN at ih ⊢
    have hge := Lib.indexAny_ge [32, 9] r
    have hi : Lib.indexAny (c :: r) [32, 9] = if blB c = true then 0 else if Lib.indexAny r [32, 9] == -1 then -1 else Lib.indexAny r [32, 9] + 1 := rfl
    by_cases hc : blB c = true
    · rw [if_pos hc] at hi
      simp [hi, hc]
    · have hc' : blB c = false := by simpa using hc
      rw [if_neg hc] at hi
      simp only [hc', List.takeWhile_cons, Bool.not_false, if_true, List.length_cons]
      rw [← ih]
      by_cases hj : Lib.indexAny r [32, 9] = -1
      · rw [if_pos (by simpa using hj)] at hi
        rw [if_pos (by omega), if_pos (by omega)]
      · rw [if_neg (by simpa using hj)] at hi
        rw [if_neg (by omega), if_neg (by omega)]
        omega
theorem take_while (p : UInt8 → Bool) (t : List UInt8) : t.take (t.takeWhile p).length = t.takeWhile p ∧ t.drop (t.takeWhile p).length = t.dropWhile p := by
  induction t with
  | nil => simp
  | cons c r ih =>
    by_cases hc : p c = true
    · simp [hc, ih.1, ih.2]
    · simp [hc]
theorem wordR_while (l : List UInt8) : wordR l = ((l.dropWhile blB).takeWhile (fun c => !blB c), (l.dropWhile blB).dropWhile fun c => !blB c) := by
  unfold wordR
  rw [wordN_while, (take_while _ _).1, (take_while _ _).2]
theorem words_next (l : List UInt8) : wordsL l = if (wordR l).1 = [] then [] else (wordR l).1 :: wordsL (wordR l).2 := by
  rw [words_blank, wordR_while]
  generalize ht : l.dropWhile blB = t
  cases t with
  | nil => simp [wordsL, wrdE]
  | cons c r =>
    have hc : blB c = false := by
      have := List.head?_dropWhile_not (p := blB) (l := l)
      rw [ht] at this
      simpa using this
    simp only [hc, List.takeWhile_cons, List.dropWhile_cons, Bool.not_false, if_true]
    rw [if_neg (by simp)]
    have := words_now r [c] (by simp)
    simp only [List.singleton_append] at this
    rw [← this]
    unfold wordsL
    simp only [List.foldl_cons]
    congr 2
    simp [wrdS, hc]

/-- What the document says of a year's few digits. -/
def docY (y : Int) (n : Nat) : Int := if n = 2 ∧ 0 ≤ y ∧ y < 50 then y + 2000 else if n < 4 ∧ 0 ≤ y then y + 1900 else y
def docD (w0 w1 w2 : List UInt8) : Option Int :=
  if vldB (docY (digV (numR w2 2 4)) w2.length) (monR w1) (digV (numR w0 1 2)) then some (num (docY (digV (numR w2 2 4)) w2.length) (monR w1) (digV (numR w0 1 2))) else none
/-- What the document says of a mail's Date. -/
def docM (l : List UInt8) : Option Int := match wordsL (commaR l) with
  | w0 :: w1 :: w2 :: _ => docD w0 w1 w2
  | _ => none
theorem docD_is (w0 w1 w2 : List UInt8) : docD w0 w1 w2 = match numR w0 1 2 with
  | none => none
  | some d => if monR w1 = 0 then none else ml3 d (monR w1) w2 := by
  unfold docD ml3
  cases numR w0 1 2 with
  | none =>
    rw [if_neg]
    simp only [digV]
    rw [Bool.not_eq_true, vld_not]
    omega
  | some d =>
    by_cases hm : monR w1 = 0
    · simp only [if_pos hm]
      rw [if_neg]
      rw [Bool.not_eq_true, vld_not, hm]
      omega
    · simp only [if_neg hm]
      cases numR w2 2 4 with
      | none =>
        rw [if_neg]
        simp only [digV]
        rw [Bool.not_eq_true, vld_not]
        unfold docY
        rw [if_neg (by omega), if_neg (by omega)]
        omega
      | some y =>
        have : docY (digV (some y)) w2.length = ((fullR y w2.length : Nat) : Int) := by
          unfold docY fullR digV
          simp only
          by_cases h1 : w2.length = 2 ∧ y < 50
          · rw [if_pos (by omega), if_pos h1]; simp
          · rw [if_neg (by omega), if_neg h1]
            by_cases h2 : w2.length < 4
            · rw [if_pos (by omega), if_pos h2]; simp
            · rw [if_neg (by omega), if_neg h2]
        rw [this]
        rfl
theorem num_nil (a b : Nat) (h : 1 ≤ a) : numR [] a b = none := by unfold numR; rw [if_pos]; simp; omega
theorem mon_nil : monR [] = 0 := by
  by_cases h : monR [] = 0
  · exact h
  · have := mon_len h; simp at this
theorem mail_doc (l : List UInt8) : mailR l = docM l := by
  unfold mailR docM ml1
  generalize commaR l = t
  rw [words_next t]
  by_cases h0 : (wordR t).1 = []
  · rw [if_pos h0, h0, num_nil 1 2 (by omega)]
  · rw [if_neg h0, words_next (wordR t).2]
    unfold ml2
    by_cases h1 : (wordR (wordR t).2).1 = []
    · rw [if_pos h1, h1, mon_nil]
      simp
      cases numR (wordR t).1 1 2 <;> rfl
    · rw [if_neg h1, words_next (wordR (wordR t).2).2]
      by_cases h2 : (wordR (wordR (wordR t).2).2).1 = []
      · rw [if_pos h2, h2]
        simp only [ml3, num_nil 2 4 (by omega)]
        cases numR (wordR t).1 1 2 with
        | none => rfl
        | some d => simp
      · rw [if_neg h2]
        simp only
        rw [docD_is]
        cases numR (wordR t).1 1 2 <;> rfl
end Go.Proofs.YtoegfnonfmcnbaaDoor
