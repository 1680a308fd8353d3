/-
  A mail's header in plain mathematics: lines, names, values; a header's fields, a header's text; there and back.
-/
import Derived.Test.YtdallfakfhajdaaGreatDoorHlk
import Derived.BigCall
import Derived.Deep.QuietTactic
import Derived.BigQuiet
import Derived.WalkSmall
import Derived.Laws.AppendOwn
import Derived.OwnWalk
import Derived.ScopeJumps
import Derived.WalkMore
import Derived.Shelf.Strings.SlTrimAscii
import Derived.Test.YtdallfakfhajdaaGreatDoorBlc
import Derived.Scope
import Derived.Laws.RangeAny
import Derived.Laws.Runes
import Derived.Test.YtdallfakfhajdaaGreatDoorShelf
import Derived.Lib.OthersKept
import Derived.Deep.LoopGhost
import Derived.Test.YtdallfakfhajdaaGreatDoorWrb
import Derived.Laws.AppendOwnNone
import Derived.Laws.IdiomStrings
import Derived.Deep.Cut
import Derived.Test.YtdallfakfhajdaaGreatDoorStr
import Derived.Laws.BitsAllLaws
import Derived.Test.YtdallfakfhajdaaGreatDoorWbw
import Derived.Test.YtdallfakfhajdaaGreatDoorBnd1
namespace Go.Proofs.Hed

/-- Where the first line feed is. -/
def lfAt : List UInt8 → Option Nat
  | [] => none
  | c :: r => if c = 10 then some 0 else (lfAt r).map (· + 1)
/-- A line without a carriage return at its end. -/
def noCr (l : List UInt8) : List UInt8 := if l.getLast? = some 13 then l.dropLast else l
/-- The first line, without its end. -/
def lineOf (s : List UInt8) : List UInt8 := match lfAt s with | none => s | some i => noCr (s.take i)
/-- How many bytes it has with its end. -/
def lineN (s : List UInt8) : Nat := match lfAt s with | none => s.length | some i => i + 1
/-- A space or a tab. -/
def isB (c : UInt8) : Bool := c == 32 || c == 9
/-- Whether a line goes on with the one ahead. -/
def goesOn : List UInt8 → Bool
  | [] => false
  | c :: _ => isB c
/-- Without spaces and tabs at the ends. -/
def trimL (l : List UInt8) : List UInt8 := (l.reverse.dropWhile isB).reverse.dropWhile isB
/-- A byte of a name. -/
def nameB (c : UInt8) : Bool := decide (33 ≤ c.toNat ∧ c.toNat ≤ 126 ∧ c ≠ 58)
def isNm (l : List UInt8) : Bool := l.all nameB && !l.isEmpty
/-- Ahead of the first colon, and behind it. -/
def colon : List UInt8 → Option (List UInt8 × List UInt8)
  | [] => none
  | c :: r => if c = 58 then some ([], r) else (colon r).map fun p => (c :: p.1, p.2)
/-- Lines that go on: what they are, and how many bytes; f bounds how many. -/
def contF : Nat → List UInt8 → List UInt8 × Nat
  | 0, _ => ([], 0)
  | f + 1, s => if goesOn (lineOf s) then let r := contF f (s.drop (lineN s)); (lineOf s ++ r.1, lineN s + r.2) else ([], 0)
def contL (s : List UInt8) : List UInt8 × Nat := contF s.length s
/-- A header's fields, all of them, and where the body begins. -/
def parseF : Nat → List UInt8 → List (List UInt8 × List UInt8) × Nat
  | 0, _ => ([], 0)
  | f + 1, s =>
    if lineOf s = [] then ([], lineN s)
    else match colon (lineOf s) with
      | none => ([], 0)
      | some (n, v) =>
        if isNm n then
          let c := contL (s.drop (lineN s))
          let r := parseF f (s.drop (lineN s + c.2))
          ((n, trimL (v ++ c.1)) :: r.1, lineN s + c.2 + r.2)
        else ([], 0)
def parseL (s : List UInt8) : List (List UInt8 × List UInt8) × Nat := parseF (s.length + 1) s

theorem lfAt_lt : ∀ {s : List UInt8} {i : Nat}, lfAt s = some i → i < s.length
  | [], i, h => by simp [lfAt] at h
  | c :: r, i, h => by
    simp only [lfAt] at h
    split at h
    · simp at h; subst h; simp
    · simp only [Option.map_eq_some_iff] at h
      obtain ⟨k, hk, rfl⟩ := h
      have := lfAt_lt hk
      simp; omega
theorem lineN_le (s : List UInt8) : lineN s ≤ s.length := by
  unfold lineN
  split
  · exact Nat.le_refl _
  · rename_i h; have := lfAt_lt h; omega
theorem lineN_pos {s : List UInt8} (h : s ≠ []) : 1 ≤ lineN s := by
  unfold lineN
  split
  · cases s with | nil => exact absurd rfl h | cons c r => simp
  · omega
theorem line_ne {s : List UInt8} (h : lineOf s ≠ []) : s ≠ [] := by
  rintro rfl
  exact h rfl
theorem noCr_len (l : List UInt8) : (noCr l).length ≤ l.length := by
  unfold noCr
  split <;> simp
theorem lineOf_len (s : List UInt8) : (lineOf s).length ≤ lineN s := by
  unfold lineOf lineN
  split
  · exact Nat.le_refl _
  · rename_i i h
    have := noCr_len (s.take i)
    simp only [List.length_take] at this
    omega

theorem contF_le : ∀ (f : Nat) (s : List UInt8), (contF f s).2 ≤ s.length
  | 0, _ => Nat.zero_le _
  | f + 1, s => by
    have h1 := lineN_le s
    have h2 := contF_le f (s.drop (lineN s))
    rw [List.length_drop] at h2
    simp only [contF]
    split <;> simp only <;> omega
theorem goes_ne {s : List UInt8} (h : goesOn (lineOf s) = true) : s ≠ [] := line_ne (by intro e; rw [e] at h; cases h)
theorem contF_enough : ∀ (f g : Nat) (s : List UInt8), s.length ≤ f → s.length ≤ g → contF f s = contF g s
  | 0, g, s, h, _ => by
    have : s = [] := List.eq_nil_of_length_eq_zero (by omega)
    subst this
    cases g with
    | zero => rfl
    | succ g => rfl
  | f + 1, 0, s, _, h => by
    have : s = [] := List.eq_nil_of_length_eq_zero (by omega)
    subst this
    rfl
  | f + 1, g + 1, s, hf, hg => by
    simp only [contF]
    by_cases h : goesOn (lineOf s) = true
    · have := lineN_pos (goes_ne h)
      rw [contF_enough f g (s.drop (lineN s)) (by rw [List.length_drop]; omega) (by rw [List.length_drop]; omega)]
    · rw [if_neg h, if_neg h]
theorem contL_go {s : List UInt8} (h : goesOn (lineOf s) = true) : contL s = (lineOf s ++ (contL (s.drop (lineN s))).1, lineN s + (contL (s.drop (lineN s))).2) := by
  have h1 := lineN_pos (goes_ne h)
  have h0 : s.length ≠ 0 := by have := goes_ne h; simpa using this
  unfold contL
  obtain ⟨k, hk⟩ : ∃ k, s.length = k + 1 := ⟨s.length - 1, by omega⟩
  rw [hk]
  conv => lhs; unfold contF
  rw [if_pos h]
  simp only
  rw [contF_enough k (s.drop (lineN s)).length _ (by rw [List.length_drop]; omega) (Nat.le_refl _)]
theorem contL_stop {s : List UInt8} (h : goesOn (lineOf s) = false) : contL s = ([], 0) := by
  unfold contL
  cases s.length with
  | zero => rfl
  | succ k => unfold contF; rw [h]; rfl
theorem contL_le (s : List UInt8) : (contL s).2 ≤ s.length := contF_le _ _
theorem contF_len : ∀ (f : Nat) (s : List UInt8), (contF f s).1.length ≤ (contF f s).2
  | 0, _ => Nat.le_refl _
  | f + 1, s => by
    have h1 := lineOf_len s
    have h2 := contF_len f (s.drop (lineN s))
    simp only [contF]
    split
    · simp only [List.length_append]; omega
    · simp
theorem contL_len (s : List UInt8) : (contL s).1.length ≤ (contL s).2 := contF_len _ _

theorem parseF_le : ∀ (f : Nat) (s : List UInt8), (parseF f s).2 ≤ s.length
  | 0, _ => Nat.zero_le _
  | f + 1, s => by
    have h1 := lineN_le s
    simp only [parseF]
    split
    · exact h1
    · split
      · simp
      · rename_i n v _
        split
        · have h2 := parseF_le f (s.drop (lineN s + (contL (s.drop (lineN s))).2))
          have h3 := contL_le (s.drop (lineN s))
          rw [List.length_drop] at h2 h3
          simp only
          omega
        · simp
theorem parseL_le (s : List UInt8) : (parseL s).2 ≤ s.length := parseF_le _ _
theorem parseF_enough : ∀ (f g : Nat) (s : List UInt8), s.length < f → s.length < g → parseF f s = parseF g s
  | 0, _, _, h, _ => by omega
  | _ + 1, 0, _, _, h => by omega
  | f + 1, g + 1, s, hf, hg => by
    simp only [parseF]
    by_cases h0 : lineOf s = []
    · rw [if_pos h0, if_pos h0]
    · rw [if_neg h0, if_neg h0]
      have h1 := lineN_pos (line_ne h0)
      have hl := lineN_le s
      split
      · rfl
      · split
        · rw [parseF_enough f g _ (by rw [List.length_drop]; omega) (by rw [List.length_drop]; omega)]
        · rfl
theorem parseL_end {s : List UInt8} (h : lineOf s = []) : parseL s = ([], lineN s) := by
  unfold parseL parseF
  rw [if_pos h]
theorem parseL_none {s : List UInt8} (h : lineOf s ≠ []) (hc : colon (lineOf s) = none) : parseL s = ([], 0) := by
  unfold parseL parseF
  rw [if_neg h, hc]
theorem parseL_no {s n v : List UInt8} (h : lineOf s ≠ []) (hc : colon (lineOf s) = some (n, v)) (hn : isNm n = false) : parseL s = ([], 0) := by
  unfold parseL parseF
  rw [if_neg h, hc]
  simp only [hn]
  rfl
theorem parseL_field {s n v : List UInt8} (h : lineOf s ≠ []) (hc : colon (lineOf s) = some (n, v)) (hn : isNm n = true) :
    parseL s = ((n, trimL (v ++ (contL (s.drop (lineN s))).1)) :: (parseL (s.drop (lineN s + (contL (s.drop (lineN s))).2))).1,
      lineN s + (contL (s.drop (lineN s))).2 + (parseL (s.drop (lineN s + (contL (s.drop (lineN s))).2))).2) := by
  have h1 := lineN_pos (line_ne h)
  have hl := lineN_le s
  have h0 : s.length ≠ 0 := by have := line_ne h; simpa using this
  unfold parseL
  conv => lhs; unfold parseF
  rw [if_neg h, hc]
  simp only [hn, if_true]
  rw [parseF_enough s.length ((s.drop (lineN s + (contL (s.drop (lineN s))).2)).length + 1) _ (by rw [List.length_drop]; omega) (by omega)]

theorem colon_len : ∀ {l n v : List UInt8}, colon l = some (n, v) → n.length + 1 + v.length = l.length
  | [], n, v, h => by simp [colon] at h
  | c :: r, n, v, h => by
    simp only [colon] at h
    split at h
    · simp at h; obtain ⟨rfl, rfl⟩ := h; simp; omega
    · simp only [Option.map_eq_some_iff] at h
      obtain ⟨⟨a, b⟩, hk, hp⟩ := h
      simp at hp
      obtain ⟨rfl, rfl⟩ := hp
      have := colon_len hk
      simp; omega

/-! ### Written -/

/-- A value that may be written. -/
def isVl (v : List UInt8) : Bool := v.all (fun c => c != 10 && c != 13) && (match v with | [] => true | c :: _ => !isB c) && (match v.getLast? with | none => true | some c => !isB c)
def okF (f : List UInt8 × List UInt8) : Bool := isNm f.1 && isVl f.2
/-- A field's line. -/
def fieldL (e : List UInt8) (f : List UInt8 × List UInt8) : List UInt8 := f.1 ++ [58] ++ (if f.2 = [] then [] else 32 :: f.2) ++ e
/-- A header's text, each line with the end e. -/
def textL (e : List UInt8) (l : List (List UInt8 × List UInt8)) : List UInt8 := (l.map (fieldL e)).flatten ++ e
/-- The text that is written, or the error. -/
def writeR (l : List (List UInt8 × List UInt8)) : List UInt8 × Int := if l.all okF then (if l.length ≤ 1024 then (textL [10] l, 0) else ([], 15)) else ([], 2)

/-- The two ends that a line may have. -/
def End (e : List UInt8) : Prop := e = [10] ∨ e = [13, 10]
theorem lfAt_app : ∀ (a r : List UInt8), (∀ c ∈ a, c ≠ 10) → lfAt (a ++ 10 :: r) = some a.length
  | [], r, _ => by simp [lfAt]
  | c :: a, r, h => by
    simp only [List.cons_append, lfAt]
    rw [if_neg (h c (by simp)), lfAt_app a r (fun d hd => h d (by simp [hd]))]
    rfl
theorem noCr_of {a : List UInt8} (h : ∀ c ∈ a, c ≠ 13) : noCr a = a := by
  unfold noCr
  rw [if_neg]
  intro e
  exact h 13 (List.mem_of_getLast? e) rfl
theorem noCr_cr (a : List UInt8) : noCr (a ++ [13]) = a := by simp [noCr]
theorem line_end {e a r : List UInt8} (he : End e) (h10 : ∀ c ∈ a, c ≠ 10) (h13 : ∀ c ∈ a, c ≠ 13) : lineOf (a ++ e ++ r) = a ∧ lineN (a ++ e ++ r) = a.length + e.length := by
  rcases he with rfl | rfl
  · have := lfAt_app a r h10
    unfold lineOf lineN
    rw [show a ++ [10] ++ r = a ++ 10 :: r by simp, this]
    simp [noCr_of h13]
  · have := lfAt_app (a ++ [13]) r (by intro c hc; simp at hc; rcases hc with hc | rfl; exact h10 c hc; decide)
    unfold lineOf lineN
    rw [show a ++ [13, 10] ++ r = (a ++ [13]) ++ 10 :: r by simp, this]
    simp only
    rw [List.take_left' rfl, noCr_cr]
    simp
theorem name_facts {n : List UInt8} (h : isNm n = true) : n ≠ [] ∧ ∀ c ∈ n, c ≠ 10 ∧ c ≠ 13 ∧ c ≠ 58 ∧ isB c = false := by
  simp only [isNm, Bool.and_eq_true, List.all_eq_true] at h
  obtain ⟨h1, h2⟩ := h
  refine ⟨by rintro rfl; simp at h2, fun c hc => ?_⟩
  have := h1 c hc
  simp only [nameB, decide_eq_true_eq] at this
  obtain ⟨ha, hb, hd⟩ := this
  refine ⟨?_, ?_, hd, ?_⟩
  · rintro rfl; simp at ha
  · rintro rfl; simp at ha
  · simp only [isB, Bool.or_eq_false_iff, beq_eq_false_iff_ne]
    constructor
    · rintro rfl; simp at ha
    · rintro rfl; simp at ha
theorem colon_app : ∀ (n r : List UInt8), (∀ c ∈ n, c ≠ 58) → colon (n ++ 58 :: r) = some (n, r)
  | [], r, _ => by simp [colon]
  | c :: n, r, h => by
    simp only [List.cons_append, colon]
    rw [if_neg (h c (by simp)), colon_app n r (fun d hd => h d (by simp [hd]))]
    rfl
theorem trim_val {v : List UInt8} (h : isVl v = true) : trimL v = v ∧ trimL (32 :: v) = v := by
  simp only [isVl, Bool.and_eq_true] at h
  obtain ⟨⟨_, h2⟩, h3⟩ := h
  have e1 : v.dropWhile isB = v := by
    cases v with
    | nil => rfl
    | cons c r => simp at h2; simp [List.dropWhile, h2]
  have e2 : (v.reverse.dropWhile isB) = v.reverse := by
    rw [List.getLast?_eq_head?_reverse] at h3
    cases hr : v.reverse with
    | nil => rfl
    | cons c r => rw [hr] at h3; simp at h3; simp [List.dropWhile, h3]
  constructor
  · unfold trimL; rw [e2, List.reverse_reverse, e1]
  · unfold trimL
    cases v with
    | nil => decide
    | cons c r =>
      have e3 : ((32 :: c :: r).reverse.dropWhile isB) = (32 :: c :: r).reverse := by
        rw [show (32 :: c :: r).reverse = (c :: r).reverse ++ [32] by simp]
        cases hr : (c :: r).reverse with
        | nil => simp at hr
        | cons d q =>
          rw [hr] at e2
          have hd : isB d = false := by
            cases h : isB d with
            | false => rfl
            | true =>
              simp only [List.dropWhile, h] at e2
              have := congrArg List.length e2
              have hl := (List.dropWhile_sublist (p := isB) (l := q)).length_le
              simp at this
              omega
          simp [hd]
      rw [e3, List.reverse_reverse]
      rw [show (32 :: c :: r).dropWhile isB = (c :: r).dropWhile isB by simp [List.dropWhile, isB], e1]
theorem val_facts {v : List UInt8} (h : isVl v = true) : ∀ c ∈ v, c ≠ 10 ∧ c ≠ 13 := by
  simp only [isVl, Bool.and_eq_true, List.all_eq_true] at h
  intro c hc
  have := h.1.1 c hc
  simpa using this

/-- What begins with a text of fields goes on with no line of the one ahead. -/
theorem text_stop {e : List UInt8} (he : End e) (l : List (List UInt8 × List UInt8)) (hl : l.all okF = true) (body : List UInt8) : goesOn (lineOf (textL e l ++ body)) = false := by
  cases l with
  | nil =>
    have := (line_end (a := []) (r := body) he (by simp) (by simp)).1
    simp only [List.nil_append] at this
    simp only [textL, List.map_nil, List.flatten_nil, List.nil_append]
    rw [this]; rfl
  | cons f l =>
    simp only [List.all_cons, Bool.and_eq_true] at hl
    obtain ⟨hf, hl⟩ := hl
    simp only [okF, Bool.and_eq_true] at hf
    obtain ⟨hn, hv⟩ := hf
    obtain ⟨hne, hnc⟩ := name_facts hn
    have hvc := val_facts hv
    have e1 : textL e (f :: l) ++ body = (f.1 ++ [58] ++ (if f.2 = [] then [] else 32 :: f.2)) ++ e ++ (textL e l ++ body) := by simp [textL, fieldL]
    have hm : ∀ c ∈ f.1 ++ [58] ++ (if f.2 = [] then [] else 32 :: f.2), c ≠ 10 ∧ c ≠ 13 := by
      intro c hc
      simp only [List.mem_append, List.mem_singleton] at hc
      rcases hc with (hc | rfl) | hc
      · exact ⟨(hnc c hc).1, (hnc c hc).2.1⟩
      · decide
      · split at hc
        · cases hc
        · simp only [List.mem_cons] at hc
          rcases hc with rfl | hc
          · decide
          · exact hvc c hc
    rw [e1, (line_end he (fun c hc => (hm c hc).1) (fun c hc => (hm c hc).2)).1]
    obtain ⟨n, v⟩ := f
    cases n with
    | nil => exact absurd rfl hne
    | cons c n => simp only [List.cons_append, goesOn]; exact (hnc c (by simp)).2.2.2
/-- What was written is parsed, and the body begins behind it. -/
theorem parse_text {e : List UInt8} (he : End e) : ∀ (l : List (List UInt8 × List UInt8)), l.all okF = true → ∀ body, parseL (textL e l ++ body) = (l, (textL e l).length)
  | [], _, body => by
    have h := line_end (a := []) (r := body) he (by simp) (by simp)
    simp only [List.nil_append] at h
    simp only [textL, List.map_nil, List.flatten_nil, List.nil_append]
    rw [parseL_end h.1, h.2]
    simp
  | f :: l, hl, body => by
    simp only [List.all_cons, Bool.and_eq_true] at hl
    obtain ⟨hf, hl⟩ := hl
    simp only [okF, Bool.and_eq_true] at hf
    obtain ⟨hn, hv⟩ := hf
    obtain ⟨hne, hnc⟩ := name_facts hn
    have hvc := val_facts hv
    have e1 : textL e (f :: l) ++ body = (f.1 ++ [58] ++ (if f.2 = [] then [] else 32 :: f.2)) ++ e ++ (textL e l ++ body) := by simp [textL, fieldL]
    have hm : ∀ c ∈ f.1 ++ [58] ++ (if f.2 = [] then [] else 32 :: f.2), c ≠ 10 ∧ c ≠ 13 := by
      intro c hc
      simp only [List.mem_append, List.mem_singleton] at hc
      rcases hc with (hc | rfl) | hc
      · exact ⟨(hnc c hc).1, (hnc c hc).2.1⟩
      · decide
      · split at hc
        · cases hc
        · simp only [List.mem_cons] at hc
          rcases hc with rfl | hc
          · decide
          · exact hvc c hc
    obtain ⟨h1, h2⟩ := line_end (r := textL e l ++ body) he (fun c hc => (hm c hc).1) (fun c hc => (hm c hc).2)
    have hd : ((f.1 ++ [58] ++ (if f.2 = [] then [] else 32 :: f.2)) ++ e ++ (textL e l ++ body)).drop ((f.1 ++ [58] ++ (if f.2 = [] then [] else 32 :: f.2)).length + e.length) = textL e l ++ body := by
      rw [← List.length_append, List.drop_left]
    have hc : colon (f.1 ++ [58] ++ (if f.2 = [] then [] else 32 :: f.2)) = some (f.1, if f.2 = [] then [] else 32 :: f.2) := by
      rw [List.append_assoc]
      exact colon_app f.1 _ (fun c hc => (hnc c hc).2.2.1)
    have hL : lineOf ((f.1 ++ [58] ++ (if f.2 = [] then [] else 32 :: f.2)) ++ e ++ (textL e l ++ body)) ≠ [] := by rw [h1]; simp
    rw [e1, parseL_field hL (by rw [h1]; exact hc) hn, h2, hd, contL_stop (text_stop he l hl body)]
    simp only [List.append_nil, Nat.add_zero]
    rw [hd, parse_text he l hl body]
    simp only
    have ht : trimL (if f.2 = [] then [] else 32 :: f.2) = f.2 := by
      split
      · rename_i e; rw [e]; rfl
      · exact (trim_val hv).2
    rw [ht]
    apply Prod.ext
    · rfl
    · simp only [textL, List.map_cons, List.flatten_cons, fieldL, List.length_append]
      omega
end Go.Proofs.Hed

/-
  What head.isBlank, head.isName, strings.Cut at one byte, and head.firstLine do, over this seat's program.
-/
set_option linter.unusedVariables false
namespace Go.Proofs.YtdallfakfhajdaaGreatDoor
open Go.RowKit Go.Proofs.Hed

set_option maxHeartbeats 400000 in
theorem isBlank_any (c : UInt8) (w : World) : Calls Tryz.prog 58 #[.int .u8 (c.toNat : Int)] w fun e w' => e = .returned (.bool (isB c)) ∧ w' = w := by
  have e1 : isB c = (((c.toNat : Int) == 32) || ((c.toNat : Int) == 9)) := by
    have h1 : (c == 32) = ((c.toNat : Int) == 32) := by
      by_cases h : c = 32
      · subst h; rfl
      · have : c.toNat ≠ 32 := fun e => h (UInt8.toNat_inj.mp e)
        rw [beq_eq_false_iff_ne.mpr h, eq_comm, beq_eq_false_iff_ne]
        omega
    have h2 : (c == 9) = ((c.toNat : Int) == 9) := by
      by_cases h : c = 9
      · subst h; rfl
      · have : c.toNat ≠ 9 := fun e => h (UInt8.toNat_inj.mp e)
        rw [beq_eq_false_iff_ne.mpr h, eq_comm, beq_eq_false_iff_ne]
        omega
    unfold isB
    rw [h1, h2]
  rw [e1]
  clear e1
  generalize c.toNat = n
  cases h1 : ((n : Int) == 32)
  · cases h2 : ((n : Int) == 9)
    · go_enter Tryz.func58, Tryz.ntmps58
      go_wp2
      go_ret
      exact ⟨rfl, rfl⟩
    · go_enter Tryz.func58, Tryz.ntmps58
      go_wp2
      go_ret
      exact ⟨rfl, rfl⟩
  · go_enter Tryz.func58, Tryz.ntmps58
    go_wp2
    go_ret
    exact ⟨rfl, rfl⟩

theorem all_take {s : ByteArray} {k : Nat} (h : k < s.size) : (s.data.toList.take (k + 1)).all nameB = ((s.data.toList.take k).all nameB && nameB s[k]) := by
  rw [take_byte s k h, List.all_append]
  simp

set_option maxHeartbeats 1000000 in
set_option maxRecDepth 100000 in
theorem isName_any (s : ByteArray) (w : World) (hs : s.size ≤ 281474976710656) :
    Calls Tryz.prog 51 #[.string s] w fun e w' => e = .returned (.bool (isNm s.data.toList)) ∧ w' = w := by
  have hsl := sizeL s
  go_enter Tryz.func51, Tryz.ntmps51
  go_wp2
  go_loopw [6] (fun z wr => ∃ k : Nat, z = .int .i64 k ∧ k ≤ s.size ∧ Hid ((s.data.toList.take k).all nameB = true) ∧ wr = w) (fun z _ => s.size - (intOf z).toNat)
  case atStart => exact ⟨0, rfl, by omega, hide rfl, rfl⟩
  case round =>
    obtain ⟨k, rfl, hk, HT, rfl⟩ := hrel
    by_cases hlt : k < s.size
    · have hlt1 : (k : Int) < (s.size : Int) := by omega
      have hat := all_take hlt
      rw [unhide HT, Bool.true_and] at hat
      by_cases hn : nameB s[k] = true
      · rw [hn] at hat
        have HN := hide hat
        simp only [nameB, decide_eq_true_eq] at hn
        obtain ⟨h1, h2, h3⟩ := hn
        have e3 : ((s[k].toNat : Int) == 58) = false := by
          have : s[k].toNat ≠ 58 := fun e => h3 (UInt8.toNat_inj.mp e)
          simp; omega
        have e1 : ¬ (s[k].toNat : Int) < 33 := by omega
        have e2 : ¬ 126 < (s[k].toNat : Int) := by omega
        clear hat h3
        go_wp2
        exact ⟨⟨k + 1, by go_num, by omega, HN, trivial⟩, by simp [intOf]; omega⟩
      · have hfin : isNm s.data.toList = false := by
          unfold isNm
          have : s.data.toList.all nameB = false := by
            rw [Bool.eq_false_iff]
            intro h
            rw [List.all_eq_true] at h
            exact hn (h s[k] (List.getElem_mem (l := s.data.toList) (n := k) (by omega)))
          rw [this]; rfl
        have HF := hide hfin
        have hn' : s[k].toNat < 33 ∨ 126 < s[k].toNat ∨ s[k].toNat = 58 := by
          simp only [nameB, decide_eq_true_eq] at hn
          by_cases a1 : s[k].toNat < 33
          · exact Or.inl a1
          · by_cases a2 : 126 < s[k].toNat
            · exact Or.inr (Or.inl a2)
            · right; right
              by_cases a3 : s[k] = 58
              · rw [a3]; rfl
              · exact absurd ⟨by omega, by omega, a3⟩ hn
        clear hat hfin hn
        obtain ⟨x, hx⟩ : ∃ x, s[k].toNat = x := ⟨_, rfl⟩
        rw [hx] at hn'
        by_cases a1 : x < 33
        · have e1 : (x : Int) < 33 := by omega
          go_wp2
          go_ret
          exact ⟨by rw [unhide HF]; rfl, rfl⟩
        · have e1 : ¬ (x : Int) < 33 := by omega
          by_cases a2 : 126 < x
          · have e2 : 126 < (x : Int) := by omega
            go_wp2
            go_ret
            exact ⟨by rw [unhide HF]; rfl, rfl⟩
          · have e2 : ¬ 126 < (x : Int) := by omega
            have e3 : ((x : Int) == 58) = true := by simp; omega
            go_wp2
            go_ret
            exact ⟨by rw [unhide HF]; rfl, rfl⟩
    · have hlt1 : ¬ (k : Int) < (s.size : Int) := by omega
      have hall : s.data.toList.all nameB = true := by
        have := unhide HT
        rwa [List.take_of_length_le (by omega)] at this
      have hfin : isNm s.data.toList = !decide (s.size = 0) := by
        unfold isNm
        rw [hall]
        cases h : s.data.toList with
        | nil => rw [h] at hsl; simp at hsl; simp [← hsl]
        | cons c r => rw [h] at hsl; simp at hsl; rw [decide_eq_false (by omega)]; rfl
      have HF := hide hfin
      clear hfin hall hsl
      go_wp2
      go_ret
      refine ⟨retH_b ?_, rfl⟩
      rw [unhide HF, empty_size]

/-- Where a byte stands first. -/
theorem indexByte_some : ∀ (l : List UInt8) (c : UInt8), (∃ i : Nat, Lib.indexByte l c = (i : Int) ∧ i < l.length) ∨ Lib.indexByte l c = -1
  | [], c => Or.inr rfl
  | d :: r, c => by
    simp only [Lib.indexByte]
    split
    · exact Or.inl ⟨0, rfl, by simp⟩
    · rcases indexByte_some r c with ⟨i, hi, hl⟩ | h
      · rw [hi]
        exact Or.inl ⟨i + 1, by simp; try omega, by simp; try omega⟩
      · rw [h]; exact Or.inr (by simp)
theorem index_lf : ∀ s : List UInt8, Lib.indexByte s 10 = match lfAt s with | none => -1 | some i => (i : Int)
  | [] => rfl
  | c :: r => by
    simp only [Lib.indexByte, lfAt]
    rw [index_lf r]
    by_cases h : c = 10
    · subst h; simp
    · rw [if_neg (by simpa using h), if_neg h]
      cases lfAt r with
      | none => simp
      | some i => simp <;> omega
theorem index_colon : ∀ s : List UInt8, match colon s with | none => Lib.indexByte s 58 = -1 | some (n, v) => Lib.indexByte s 58 = (n.length : Int) ∧ s = n ++ 58 :: v
  | [] => rfl
  | c :: r => by
    have ih := index_colon r
    simp only [Lib.indexByte, colon]
    by_cases h : c = 58
    · subst h; simp
    · rw [if_neg h]
      cases hr : colon r with
      | none =>
        rw [hr] at ih
        simp only at ih
        simp [h, ih]
      | some p =>
        obtain ⟨n, v⟩ := p
        rw [hr] at ih
        obtain ⟨h1, h2⟩ := ih
        simp only [Option.map_some]
        rw [h1, if_neg (by simpa using h)]
        refine ⟨?_, by simp [h2]⟩
        rw [if_neg (by simp <;> omega)]
        simp
theorem trimSuffix_cr (l : List UInt8) : Lib.trimSuffix l [13] = noCr l := by
  unfold Lib.trimSuffix Lib.hasSuffix noCr
  rcases List.eq_nil_or_concat l with rfl | ⟨r, c, rfl⟩
  · rfl
  · simp only [List.getLast?_concat, List.concat_eq_append]
    by_cases h : c = 13
    · subst h
      rw [if_pos (by simp [List.isSuffixOf_iff_suffix]), if_pos (by simp)]
      simp
    · rw [if_neg, if_neg]
      · simpa using h
      · rw [List.isSuffixOf_iff_suffix]
        rintro ⟨t, ht⟩
        have := (List.append_inj' ht rfl).2
        simp at this
        exact h this.symm

set_option maxHeartbeats 1000000 in
theorem firstLine_any (s : ByteArray) (w : World) (hs : s.size ≤ 281474976710656) :
    Calls Tryz.prog 55 #[.string s] w fun e w' => e = .returned (.tuple #[.string (bts (lineOf s.data.toList)), .int .i64 (lineN s.data.toList : Int)]) ∧ w' = w := by
  have hsl := sizeL s
  have HI := hide (Tryz.strings_IndexByte s 10 w)
  have hix := index_lf s.data.toList
  rw [show ((10 : Int).toNat.toUInt8) = (10 : UInt8) from rfl, hix] at HI
  unfold lineOf lineN
  cases hlf : lfAt s.data.toList with
  | none =>
    rw [hlf] at HI
    simp only at HI ⊢
    rw [bts_toList, hsl]
    clear hix hsl hlf
    go_enter Tryz.func55, Tryz.ntmps55
    go_wp2_with fail
    refine (unhide HI).mono ?_
    rintro e w1 ⟨rfl, rfl⟩
    go_wp2
    go_ret2
    exact ⟨rfl, rfl⟩
  | some i =>
    rw [hlf] at HI
    simp only at HI ⊢
    have hil := lfAt_lt hlf
    rw [hsl] at hil
    have HT := hide (fun W => Tryz.strings_TrimSuffix (s.extract 0 i) ⟨#[13]⟩ W (by rw [size_part s 0 i (by omega)]; omega))
    rw [toList_upto, show (⟨#[13]⟩ : ByteArray).data.toList = [13] from rfl, trimSuffix_cr] at HT
    have h0 : ¬ (i : Int) < 0 := by omega
    have h1 : (i : Int) ≤ (s.size : Int) := by omega
    clear hix hsl hlf
    go_enter Tryz.func55, Tryz.ntmps55
    go_wp2_with fail
    refine (unhide HI).mono ?_
    rintro e w1 ⟨rfl, rfl⟩
    go_wp2_with fail
    refine (unhide HT _).mono ?_
    rintro e w1 ⟨rfl, rfl⟩
    go_wp2
    go_ret2
    refine ⟨?_, rfl⟩
    show Ending.returned (.tuple #[.string (bts (noCr (s.data.toList.take i))), .int .i64 _]) = _
    go_num

set_option maxHeartbeats 1000000 in
theorem cutL_any (s : ByteArray) (w : World) (hs : s.size ≤ 281474976710656) :
    Calls Tryz.prog 99 #[.string s, .string ⟨#[58]⟩] w fun e w' => e = .returned (match colon s.data.toList with | none => .tuple #[.string s, .string ⟨#[]⟩, .bool false] | some (n, v) => .tuple #[.string (bts n), .string (bts v), .bool true]) ∧ ∃ q, w' = w.drewN q := by
  have hsl := sizeL s
  have HI := hide (Tryz.stringslite_Index_one s 58 w)
  have hix := index_colon s.data.toList
  cases hc : colon s.data.toList with
  | none =>
    rw [hc] at hix
    simp only at hix ⊢
    rw [hix] at HI
    clear hix hc hsl
    go_enter Tryz.func99, Tryz.ntmps99
    go_wp2_with fail
    refine (unhide HI).mono ?_
    rintro e w1 ⟨rfl, rfl⟩
    go_wp2
    go_ret3
    exact ⟨rfl, 0, rfl⟩
  | some p =>
    obtain ⟨n, v⟩ := p
    rw [hc] at hix
    obtain ⟨h1, h2⟩ := hix
    simp only
    rw [h1] at HI
    have hl : n.length + 1 + v.length = s.size := by rw [← hsl, h2]; simp; omega
    obtain ⟨i, hi⟩ : ∃ i, n.length = i := ⟨_, rfl⟩
    rw [hi] at HI
    have e1 : bts n = s.extract 0 i := by
      apply ext_list
      rw [toList_bts, toList_upto, h2, ← hi]
      simp
    obtain ⟨i1, hi1⟩ : ∃ i1, i + 1 = i1 := ⟨_, rfl⟩
    have e2 : bts v = s.extract i1 s.size := by
      apply ext_list
      rw [toList_bts, toList_from, h2, ← hi1, ← hi]
      simp
    have h0 : (0 : Int) ≤ (i : Int) := by omega
    have h3 : (i : Int) ≤ (s.size : Int) := by omega
    have h4 : (i1 : Int) ≤ (s.size : Int) := by omega
    have v1 : IntKind.i64.wrap ((i : Int) + 1) = (i1 : Int) := by rw [IntKind.wrap_i64]; omega
    rw [e1, e2]
    clear hc hsl h1 h2 e1 e2 hl hi hi1
    go_enter Tryz.func99, Tryz.ntmps99
    go_wp2_with fail
    refine (unhide HI).mono ?_
    rintro e w1 ⟨rfl, rfl⟩
    go_wp2
    go_quiet (fail)
    go_wp2
    go_ret3
    exact ⟨rfl, _, rfl⟩

set_option maxHeartbeats 1000000 in
theorem cut_any (s : ByteArray) (w : World) (hs : s.size ≤ 281474976710656) :
    Calls Tryz.prog 56 #[.string s, .string ⟨#[58]⟩] w fun e w' => e = .returned (match colon s.data.toList with | none => .tuple #[.string s, .string ⟨#[]⟩, .bool false] | some (n, v) => .tuple #[.string (bts n), .string (bts v), .bool true]) ∧ ∃ q, w' = w.drewN q := by
  have HI := hide (cutL_any s w hs)
  cases hc : colon s.data.toList with
  | none =>
    rw [hc] at HI
    simp only at HI ⊢
    clear hc
    go_enter Tryz.func56, Tryz.ntmps56
    go_wp2_with fail
    refine (unhide HI).mono ?_
    rintro e w1 ⟨rfl, q, rfl⟩
    go_wp2
    go_ret3
    exact ⟨rfl, q, rfl⟩
  | some p =>
    obtain ⟨n, v⟩ := p
    rw [hc] at HI
    simp only at HI ⊢
    clear hc
    go_enter Tryz.func56, Tryz.ntmps56
    go_wp2_with fail
    refine (unhide HI).mono ?_
    rintro e w1 ⟨rfl, q, rfl⟩
    go_wp2
    go_ret3
    exact ⟨rfl, q, rfl⟩
set_option maxHeartbeats 400000 in
theorem cloneS_any (s : ByteArray) (w : World) (hs : s.size ≤ 281474976710656) : Calls Tryz.prog 28 #[.string s] w fun e w' => e = .returned (.string s) ∧ Below w.heap.size w w' := by
  have HI := hide (Tryz.stringslite_Clone s w hs)
  go_enter Tryz.func28, Tryz.ntmps28
  go_wp2_with fail
  refine (unhide HI).mono ?_
  rintro e w1 ⟨rfl, b1⟩
  go_wp2
  go_ret
  exact ⟨rfl, b1⟩
end Go.Proofs.YtdallfakfhajdaaGreatDoor

/-
  Fields in memory: how a list of fields lies in this seat's program's world.
-/
set_option linter.unusedVariables false
namespace Go.Proofs.YtdallfakfhajdaaGreatDoor
open Go.RowKit Go.Proofs.Hed

/-- A field: its name, and its value. -/
abbrev Fld := ByteArray × ByteArray
/-- A field's cells. -/
def cellsF (f : Fld) : List Value := [.string f.1, .string f.2]
def flatF (l : List Fld) : List Value := l.flatMap cellsF

theorem flatF_length (l : List Fld) : (flatF l).length = l.length * 2 := by
  induction l with
  | nil => rfl
  | cons f l ih => simp only [flatF, List.flatMap_cons, List.length_append] at ih ⊢; rw [ih]; simp [cellsF]; omega
theorem flatF_append (a b : List Fld) : flatF (a ++ b) = flatF a ++ flatF b := by simp [flatF]
theorem flatF_cons (f : Fld) (l : List Fld) : flatF (f :: l) = cellsF f ++ flatF l := by simp [flatF]
theorem flatF_take (l : List Fld) (k : Nat) : flatF (l.take k) = (flatF l).take (k * 2) := by
  induction l generalizing k with
  | nil => simp [flatF]
  | cons f l ih =>
    cases k with
    | zero => simp [flatF]
    | succ k => rw [List.take_succ_cons, flatF_cons, flatF_cons, ih, List.take_append, show (cellsF f).length = 2 from rfl, List.take_of_length_le (l := cellsF f) (by show 2 ≤ _; omega), show (k + 1) * 2 - 2 = k * 2 by omega]
theorem flatF_drop (l : List Fld) (k : Nat) : flatF (l.drop k) = (flatF l).drop (k * 2) := by
  induction l generalizing k with
  | nil => simp [flatF]
  | cons f l ih =>
    cases k with
    | zero => simp [flatF]
    | succ k => rw [List.drop_succ_cons, flatF_cons, ih, List.drop_append, show (cellsF f).length = 2 from rfl, List.drop_of_length_le (l := cellsF f) (by show 2 ≤ _; omega), show (k + 1) * 2 - 2 = k * 2 by omega]; rfl
theorem flatF_get (l : List Fld) (j : Nat) (h : j < l.length) : (flatF l)[j * 2]? = some (.string l[j].1) ∧ (flatF l)[j * 2 + 1]? = some (.string l[j].2) := by
  have e : (flatF l).drop (j * 2) = cellsF l[j] ++ flatF (l.drop (j + 1)) := by rw [← flatF_drop, List.drop_eq_getElem_cons h, flatF_cons]
  have g : ∀ i, (flatF l)[j * 2 + i]? = (cellsF l[j] ++ flatF (l.drop (j + 1)))[i]? := fun i => by rw [← e, List.getElem?_drop]
  refine ⟨?_, ?_⟩
  · have := g 0; simpa [cellsF] using this
  · have := g 1; simpa [cellsF] using this
theorem flatF_one (l : List Fld) : ∀ u ∈ flatF l, u.oneCell' = true := by
  intro u hu
  simp only [flatF, List.mem_flatMap, cellsF] at hu
  obtain ⟨f, _, hu⟩ := hu
  simp at hu
  rcases hu with rfl | rfl <;> rfl

/-- A field whose texts are such as a program can hold. -/
def Fits (f : Fld) : Prop := f.1.size ≤ 16777216 ∧ f.2.size ≤ 16777216

/-- The value v is a slice of fields whose elements are l. -/
def RowF (w : World) (v : Value) (l : List Fld) : Prop :=
  ∃ (a : Option Addr) (cap : Nat), v = .slice a l.length cap ∧ l.length ≤ 4194304 ∧ (∀ f ∈ l, Fits f) ∧
    (l = [] ∨ ∃ b off, a = some ⟨b, off, none⟩ ∧ b < w.heap.size ∧ ∀ j u, (flatF l)[j]? = some u → w.cell? ⟨b, off + j, none⟩ = some u)

theorem RowF.below {w w' : World} {v : Value} {l : List Fld} (h : RowF w v l) (hb : Below w.heap.size w w') : RowF w' v l := by
  obtain ⟨a, cap, hv, hl, hn, hc⟩ := h
  refine ⟨a, cap, hv, hl, hn, ?_⟩
  rcases hc with hc | ⟨b, off, ha, hlt, hc⟩
  · exact Or.inl hc
  · have := hb.size
    refine Or.inr ⟨b, off, ha, by omega, fun j u hj => ?_⟩
    rw [hb.cell (p := ⟨b, off + j, none⟩) hlt]
    exact hc j u hj

theorem row_cells {w : World} {b off : Nat} {l : List Fld} (hc : ∀ j u, (flatF l)[j]? = some u → w.cell? ⟨b, off + j, none⟩ = some u) {j : Nat} (h : j < l.length) :
    w.cell? ⟨b, off + j * 2, none⟩ = some (.string l[j].1) ∧ w.cell? ⟨b, off + j * 2 + 1, none⟩ = some (.string l[j].2) := by
  obtain ⟨h0, h1⟩ := flatF_get l j h
  exact ⟨hc _ _ h0, by rw [Nat.add_assoc]; exact hc _ _ h1⟩

theorem fldInfo : (Tryz.prog.info? 39).map (fun i => (i.zero, i.size, i.bytes)) = some (some (.agg #[.string ByteArray.empty, .string ByteArray.empty]), 2, 32) := by kernel_rfl
/-- Fields as pairs of lists. -/
def lst (f : Fld) : List UInt8 × List UInt8 := (f.1.data.toList, f.2.data.toList)

/-- Whether a field is called so. -/
def called (nm : ByteArray) (f : Fld) : Bool := decide (smL f.1.data.toList = smL nm.data.toList)
/-- The first value, or the error. -/
def findV (nm : ByteArray) : List Fld → Value
  | [] => .tuple #[.string ⟨#[]⟩, .int .i64 3]
  | f :: r => if called nm f then .tuple #[.string f.2, .int .i64 0] else findV nm r
/-- All values. -/
def allL (nm : ByteArray) (l : List Fld) : List ByteArray := (l.filter (called nm)).map (·.2)

set_option maxHeartbeats 1000000 in
set_option maxRecDepth 100000 in
/-- head.Find tells the first value. -/
theorem find_any (v : Value) (l : List Fld) (nm : ByteArray) (w : World) (h : RowF w v l) (hn : nm.size ≤ 16777216) :
    Calls Tryz.prog 24 #[v, .string nm] w fun e w' => e = .returned (findV nm l) ∧ Below w.heap.size w w' := by
  obtain ⟨a, cap, rfl, hl, hfit, hc⟩ := h
  have HC := hide hc
  have HF := hide hfit
  clear hc hfit
  go_enter Tryz.func24, Tryz.ntmps24
  go_wp2
  go_loopw [10] (fun z wr => ∃ k : Nat, z = .int .i64 k ∧ k ≤ l.length ∧ Hid (findV nm l = findV nm (l.drop k)) ∧ Hid (Below w.heap.size w wr)) (fun z _ => l.length - (intOf z).toNat)
  case atStart => exact ⟨0, rfl, Nat.zero_le _, hide rfl, hide (Below.refl _ _)⟩
  case round =>
    obtain ⟨k, rfl, hk, HE, HB⟩ := hrel
    by_cases hlt : k < l.length
    · have hlt1 : (k : Int) < (l.length : Int) := by omega
      have hx : ∃ b off, a = some ⟨b, off, none⟩ ∧ b < w.heap.size ∧ wr.cell? ⟨b, off + k * 2, none⟩ = some (.string l[k].1) ∧ wr.cell? ⟨b, off + k * 2 + 1, none⟩ = some (.string l[k].2) := by
        rcases unhide HC with h | ⟨b, off, ha, hb, hcj⟩
        · subst h; simp at hlt
        · obtain ⟨c0, c1⟩ := row_cells hcj hlt
          exact ⟨b, off, ha, hb, ((unhide HB).cell (p := ⟨b, off + k * 2, none⟩) hb).trans c0, ((unhide HB).cell (p := ⟨b, off + k * 2 + 1, none⟩) hb).trans c1⟩
      obtain ⟨b, off, rfl, hb, c0, c1⟩ := hx
      have hzr := (unhide HB).size
      have hf := unhide HF l[k] (List.getElem_mem hlt)
      have he := unhide HE
      rw [List.drop_eq_getElem_cons hlt, findV] at he
      have HLK : Hid (∀ W, Calls Tryz.prog 60 #[.string l[k].1, .string nm] W fun e w' => e = .returned (.bool (called nm l[k])) ∧ ∃ q, w' = W.drewN q) := hide (fun W => like_any l[k].1 nm W (by have := hf.1; omega) (by omega))
      have HCL := hide (fun W => cloneS_any l[k].2 W (by have := hf.2; omega))
      have HBA := hide ((unhide HB).alloc hzr (.cells #[.string l[k].1, .string l[k].2] 39))
      cases hm : called nm l[k] with
      | true =>
        rw [hm] at he HLK
        simp only [if_true] at he
        have HFN := hide he
        generalize l[k].1 = x at c0 HLK HBA
        generalize l[k].2 = y at c1 HCL HBA HFN
        clear he hm hf HE
        go_wp2_with fail
        refine (unhide HLK _).mono ?_
        rintro e w2 ⟨rfl, q, rfl⟩
        go_wp2_with fail
        refine (unhide HCL _).mono ?_
        rintro e w3 ⟨rfl, b3⟩
        have HB3 := hide b3
        clear b3
        go_wp2
        go_ret2
        refine ⟨?_, (below_drewN (unhide HBA) q).trans ((unhide HB3).mono (by simp; omega))⟩
        rw [unhide HFN]
        rfl
      | false =>
        rw [hm] at he HLK
        simp only [Bool.false_eq_true, if_false] at he
        have HFN := hide he
        generalize l[k].1 = x at c0 HLK HBA
        generalize l[k].2 = y at c1 HBA
        clear he hm hf HE HCL
        go_wp2_with fail
        refine (unhide HLK _).mono ?_
        rintro e w2 ⟨rfl, q, rfl⟩
        go_wp2
        exact ⟨⟨k + 1, by go_num, by omega, HFN, hide (below_drewN (unhide HBA) _)⟩, by simp [intOf]; omega⟩
    · have hlt1 : ¬ (k : Int) < (l.length : Int) := by omega
      have he := unhide HE
      rw [List.drop_of_length_le (by omega), findV] at he
      have HFN := hide he
      clear he HE
      go_wp2
      go_ret2
      exact ⟨by rw [unhide HFN]; rfl, unhide HB⟩
end Go.Proofs.YtdallfakfhajdaaGreatDoor

/-
  Texts in memory, what missiveref02.Same and head.All do, over this seat's program.
-/
set_option linter.unusedVariables false
namespace Go.Proofs.YtdallfakfhajdaaGreatDoor
open Go.RowKit Go.Proofs.Hed

/-- The value v is a slice of texts whose elements are l. -/
def RowS (w : World) (v : Value) (l : List ByteArray) : Prop :=
  ∃ (a : Option Addr) (cap : Nat), v = .slice a l.length cap ∧ l.length ≤ 9223372036854775807 ∧ (∀ s ∈ l, s.size ≤ 9223372036854775807) ∧
    (l = [] ∨ ∃ b off, a = some ⟨b, off, none⟩ ∧ b < w.heap.size ∧ ∀ j (h : j < l.length), w.cell? ⟨b, off + j, none⟩ = some (.string l[j]))


theorem RowS.below {w w' : World} {v : Value} {l : List ByteArray} (h : RowS w v l) (hb : Below w.heap.size w w') : RowS w' v l := by
  obtain ⟨a, cap, hv, hl, hn, hc⟩ := h
  refine ⟨a, cap, hv, hl, hn, ?_⟩
  rcases hc with hc | ⟨b, off, ha, hlt, hc⟩
  · exact Or.inl hc
  · have := hb.size
    refine Or.inr ⟨b, off, ha, by omega, fun j hj => ?_⟩
    rw [hb.cell (p := ⟨b, off + j, none⟩) hlt]
    exact hc j hj


theorem strInfo : (Tryz.prog.info? 9).map (fun i => (i.zero, i.size, i.bytes)) = some (some (.string ByteArray.empty), 1, 16) := by kernel_rfl


/-- Texts as cells of a row. -/
def cellsS (l : List ByteArray) : List Value := l.map Value.string


theorem cellsS_snoc (l : List ByteArray) (x : ByteArray) : cellsS l ++ [Value.string x] = cellsS (l ++ [x]) := by simp [cellsS]


theorem rowS_of_own {w : World} {B : Nat} {e : TypeId} {v : Value} {l : List ByteArray} (h : w.ownsRow B e 1 v l.length (cellsS l)) (h6 : l.length ≤ 9223372036854775807) (hn : ∀ s ∈ l, s.size ≤ 9223372036854775807) : RowS w v l := by
  rcases h.2 with ⟨hv, h0⟩ | ⟨g, cap, cur, hv, hg, hh, hc, hm, hs, ht⟩
  · have : l = [] := List.eq_nil_of_length_eq_zero h0
    subst this
    exact ⟨none, 0, hv, by simp, by simp, Or.inl rfl⟩
  · refine ⟨_, cap, hv, h6, hn, Or.inr ⟨g, 0, rfl, (Array.getElem?_eq_some_iff.1 hh).1, fun j hj => ?_⟩⟩
    have h1 : (cur.toList.take (l.length * 1))[j]? = (cellsS l)[j]? := by rw [ht]
    have h2 : (cellsS l)[j]? = some (.string l[j]) := by simp [cellsS, List.getElem?_eq_getElem hj]
    rw [h2, List.getElem?_take, if_pos (by omega)] at h1
    simp only [World.cell?, hh, Nat.zero_add]
    simpa using h1


theorem takeS_next {l r : List ByteArray} {k : Nat} (hl : k < l.length) (hr : k < r.length) : l.take (k + 1) = r.take (k + 1) ↔ l.take k = r.take k ∧ l[k] = r[k] := by
  rw [List.take_succ_eq_append_getElem hl, List.take_succ_eq_append_getElem hr]
  constructor
  · intro h
    have := List.append_inj' h rfl
    exact ⟨this.1, by simpa using this.2⟩
  · rintro ⟨h1, h2⟩
    rw [h1, h2]


theorem one_str (w : World) (v : Value) (t : TypeId) : ∀ j u, [v][j]? = some u → (w.alloc (.cells #[v] t)).cell? (Addr.add ⟨w.heap.size, 0, none⟩ j) = some u := by
  intro j u hj
  match j, hj with
  | 0, hj => simp at hj; subst hj; simp [Addr.add]
theorem own_keep {w w' : World} {B : Nat} {e : TypeId} {size : Nat} {v : Value} {n : Nat} {xs : List Value} (h : w.ownsRow B e size v n xs) (hb : Below w.heap.size w w') : w'.ownsRow B e size v n xs := own_below h hb
theorem own_up {w wr w2 : World} {o : Obj} {B size : Nat} {e : TypeId} {v : Value} {n : Nat} {xs : List Value} (hown : wr.ownsRow B e size v n xs) (hgrow : (wr.alloc o).grownBy w2 v.ownBlock) (hbw : Below B w wr) (hB : B ≤ wr.heap.size) : Below B w w2 :=
  (hbw.alloc hB _).grown hgrow (by simp; omega) (fun k hk => by
    rcases hown.2 with ⟨rfl, _⟩ | ⟨g, cap, cur, rfl, hg, _⟩
    · simp [Value.ownBlock] at hk
    · simp [Value.ownBlock] at hk; omega)

end Go.Proofs.YtdallfakfhajdaaGreatDoor

/-
  What strings.Trim and head.Parse do, over this seat's program: a header's fields, and where the body begins.
-/
set_option linter.unusedVariables false
namespace Go.Proofs.YtdallfakfhajdaaGreatDoor
open Go.RowKit Go.Proofs.Hed

theorem trim_lib (l : List UInt8) : Lib.trimS l [32, 9] = trimL l := by
  have e : (fun b : UInt8 => ([32, 9] : List UInt8).contains b) = isB := by
    funext b
    show List.elem b [32, 9] = (b == 32 || b == 9)
    simp only [List.elem]
    cases (b == 32) <;> cases (b == 9) <;> rfl
  unfold Lib.trimS Lib.trimLeftS Lib.trimRightS trimL
  simp only [e]
theorem trim_any (s : ByteArray) (w : World) (hs : s.size ≤ 16777216) :
    Calls Tryz.prog 59 #[.string s, .string ⟨#[32, 9]⟩] w fun e w' => e = .returned (.string (bts (trimL s.data.toList))) ∧ Below w.heap.size w w' := by
  have h := Any.strings_Trim_laid Tryz.lays160 (by kernel_rfl) s ⟨#[32, 9]⟩ w (by omega) (by decide) (ascii_of_all (by decide))
  rw [show (⟨#[32, 9]⟩ : ByteArray).data.toList = [32, 9] from rfl, trim_lib] at h
  exact h
theorem trimL_len (l : List UInt8) : (trimL l).length ≤ l.length := by
  unfold trimL
  have h1 := (List.dropWhile_sublist (p := isB) (l := (l.reverse.dropWhile isB).reverse)).length_le
  have h2 := (List.dropWhile_sublist (p := isB) (l := l.reverse)).length_le
  simp at h1 h2
  omega

/-- A goto to label l0: J0; to label l1: J1; to any other: no way out. -/
def jumpTwo (l0 l1 : Nat) (J0 J1 : Act → World → Prop) (Q : Exit → Act → World → Prop) : Exit → Act → World → Prop
  | .goto l', a, w => (l' = l0 ∧ J0 a w) ∨ (l' = l1 ∧ J1 a w)
  | e, a, w => Q e a w

section
variable {P : Program} {a : Act} {w : World} {Q : Exit → Act → World → Prop}

/-- A scope with two labels: the run comes back to both, each time with less to do. -/
theorem wp_scope_both {c rest0 rest1 : Code} (l0 l1 : Nat) (hne : l0 ≠ l1) (J0 J1 : Act → World → Prop) (μ : Act → World → Nat) (hf0 : findLabel c l0 = some (Code.skip.seq rest0)) (hf1 : findLabel c l1 = some (Code.skip.seq rest1))
    (first : (∀ a w, J0 a w → rest0.wp P (jumpTwo l0 l1 J0 J1 Q) a w) → c.wp P (jumpTwo l0 l1 J0 J1 Q) a w)
    (pass0 : ∀ a w, (∀ a₁ w₁, J1 a₁ w₁ → μ a₁ w₁ ≤ μ a w → rest1.wp P (jumpTwo l0 l1 (fun a' w' => J0 a' w' ∧ μ a' w' < μ a w) (fun a' w' => J1 a' w' ∧ μ a' w' < μ a w) Q) a₁ w₁) → J0 a w → rest0.wp P (jumpTwo l0 l1 (fun a' w' => J0 a' w' ∧ μ a' w' < μ a w) (fun a' w' => J1 a' w' ∧ μ a' w' < μ a w) Q) a w)
    (pass1 : ∀ a w, J1 a w → rest1.wp P (jumpTwo l0 l1 (fun a' w' => J0 a' w' ∧ μ a' w' < μ a w) (fun a' w' => J1 a' w' ∧ μ a' w' < μ a w) Q) a w) : (Code.scope c).wp P Q a w := by
  have pass0 : ∀ a w, J0 a w → rest0.wp P (jumpTwo l0 l1 (fun a' w' => J0 a' w' ∧ μ a' w' < μ a w) (fun a' w' => J1 a' w' ∧ μ a' w' < μ a w) Q) a w := fun a w h => pass0 a w (fun a₁ w₁ h1 hle => wp_mono (pass1 a₁ w₁ h1) fun e a' w' hq => by
    cases e with
    | goto l' => rcases hq with ⟨e, hj, hl⟩ | ⟨e, hj, hl⟩
                 · exact Or.inl ⟨e, hj, by omega⟩
                 · exact Or.inr ⟨e, hj, by omega⟩
    | _ => exact hq) h
  have pass0' : ∀ a w, J0 a w → (Code.skip.seq rest0).wp P (jumpTwo l0 l1 (fun a' w' => J0 a' w' ∧ μ a' w' < μ a w) (fun a' w' => J1 a' w' ∧ μ a' w' < μ a w) Q) a w := fun a w h => wp_seq (wp_skip (pass0 a w h))
  have pass1' : ∀ a w, J1 a w → (Code.skip.seq rest1).wp P (jumpTwo l0 l1 (fun a' w' => J0 a' w' ∧ μ a' w' < μ a w) (fun a' w' => J1 a' w' ∧ μ a' w' < μ a w) Q) a w := fun a w h => wp_seq (wp_skip (pass1 a w h))
  intro b k cs
  have hg0 : gotoIn l0 (.inScope c :: k) = some (.code (Code.skip.seq rest0) :: .inScope c :: k) := by simp [gotoIn, hf0]
  have hg1 : gotoIn l1 (.inScope c :: k) = some (.code (Code.skip.seq rest1) :: .inScope c :: k) := by simp [gotoIn, hf1]
  have key : ∀ n a w, μ a w = n → (J0 a w → ∃ e a' w', Q e a' w' ∧ Arrives P (lone (b.at a (.code (Code.skip.seq rest0) :: .inScope c :: k)) cs w) b k cs e a' w') ∧ (J1 a w → ∃ e a' w', Q e a' w' ∧ Arrives P (lone (b.at a (.code (Code.skip.seq rest1) :: .inScope c :: k)) cs w) b k cs e a' w') := by
    intro n
    induction n using Nat.strongRecOn with
    | _ n ih =>
      intro a w hn
      constructor
      · intro hJ
        obtain ⟨e, a₁, w₁, hq, harr⟩ := pass0' a w hJ b (.inScope c :: k) cs
        cases e with
        | normal => exact ⟨.normal, a₁, w₁, hq, Steps.trans harr (.one step_inScope)⟩
        | exit id => exact ⟨.exit id, a₁, w₁, hq, fun k' hk => harr k' (by simp [exitTo, hk])⟩
        | goto l' =>
          rcases hq with ⟨rfl, hJ', hlt⟩ | ⟨rfl, hJ', hlt⟩
          · obtain ⟨e₂, a₂, w₂, hq₂, harr₂⟩ := (ih _ (by omega) a₁ w₁ rfl).1 hJ'
            exact ⟨e₂, a₂, w₂, hq₂, .of_steps (harr _ hg0) harr₂⟩
          · obtain ⟨e₂, a₂, w₂, hq₂, harr₂⟩ := (ih _ (by omega) a₁ w₁ rfl).2 hJ'
            exact ⟨e₂, a₂, w₂, hq₂, .of_steps (harr _ hg1) harr₂⟩
        | ret => exact ⟨_, a₁, w₁, hq, harr⟩
        | panic ch => exact ⟨_, a₁, w₁, hq, harr⟩
        | outgrown => exact ⟨_, a₁, w₁, hq, harr⟩
      · intro hJ
        obtain ⟨e, a₁, w₁, hq, harr⟩ := pass1' a w hJ b (.inScope c :: k) cs
        cases e with
        | normal => exact ⟨.normal, a₁, w₁, hq, Steps.trans harr (.one step_inScope)⟩
        | exit id => exact ⟨.exit id, a₁, w₁, hq, fun k' hk => harr k' (by simp [exitTo, hk])⟩
        | goto l' =>
          rcases hq with ⟨rfl, hJ', hlt⟩ | ⟨rfl, hJ', hlt⟩
          · obtain ⟨e₂, a₂, w₂, hq₂, harr₂⟩ := (ih _ (by omega) a₁ w₁ rfl).1 hJ'
            exact ⟨e₂, a₂, w₂, hq₂, .of_steps (harr _ hg0) harr₂⟩
          · obtain ⟨e₂, a₂, w₂, hq₂, harr₂⟩ := (ih _ (by omega) a₁ w₁ rfl).2 hJ'
            exact ⟨e₂, a₂, w₂, hq₂, .of_steps (harr _ hg1) harr₂⟩
        | ret => exact ⟨_, a₁, w₁, hq, harr⟩
        | panic ch => exact ⟨_, a₁, w₁, hq, harr⟩
        | outgrown => exact ⟨_, a₁, w₁, hq, harr⟩
  have hp : ∀ a w, J0 a w → rest0.wp P (jumpTwo l0 l1 J0 J1 Q) a w := fun a w h => wp_mono (pass0 a w h) fun e a' w' hq => by
    cases e with
    | goto l' => rcases hq with ⟨e, hj, _⟩ | ⟨e, hj, _⟩
                 · exact Or.inl ⟨e, hj⟩
                 · exact Or.inr ⟨e, hj⟩
    | _ => exact hq
  obtain ⟨e, a₁, w₁, hq, harr⟩ := first hp b (.inScope c :: k) cs
  cases e with
  | normal => exact ⟨.normal, a₁, w₁, hq, .head step_scope (Steps.trans harr (.one step_inScope))⟩
  | exit id => exact ⟨.exit id, a₁, w₁, hq, fun k' hk => .head step_scope (harr k' (by simp [exitTo, hk]))⟩
  | goto l' =>
    rcases hq with ⟨rfl, hJ'⟩ | ⟨rfl, hJ'⟩
    · obtain ⟨e₂, a₂, w₂, hq₂, harr₂⟩ := (key _ a₁ w₁ rfl).1 hJ'
      exact ⟨e₂, a₂, w₂, hq₂, .of_steps (.head step_scope (harr _ hg0)) harr₂⟩
    · obtain ⟨e₂, a₂, w₂, hq₂, harr₂⟩ := (key _ a₁ w₁ rfl).2 hJ'
      exact ⟨e₂, a₂, w₂, hq₂, .of_steps (.head step_scope (harr _ hg1)) harr₂⟩
  | ret => exact ⟨_, a₁, w₁, hq, .of_steps (.one step_scope) harr⟩
  | panic ch => exact ⟨_, a₁, w₁, hq, .of_steps (.one step_scope) harr⟩
  | outgrown => exact ⟨_, a₁, w₁, hq, .of_steps (.one step_scope) harr⟩
end

/-- What was parsed up to a place. -/
structure Inv (s : List UInt8) (k : Nat) (all : List (List UInt8 × List UInt8)) (acc : List Fld) : Prop where
  flds : all ++ (parseL (s.drop k)).1 = (parseL s).1
  body : k + (parseL (s.drop k)).2 = (parseL s).2
  kept : acc.map lst = all.take 1024
  len : acc.length ≤ 1024
  fits : ∀ f ∈ acc, Fits f
/-- What was parsed up to a line of a field. -/
structure Inv1 (s : List UInt8) (k : Nat) (all : List (List UInt8 × List UInt8)) (acc : List Fld) (n x : List UInt8) : Prop where
  flds : all ++ ((n, trimL (x ++ (contL (s.drop k)).1)) :: (parseL (s.drop (k + (contL (s.drop k)).2))).1) = (parseL s).1
  body : k + (contL (s.drop k)).2 + (parseL (s.drop (k + (contL (s.drop k)).2))).2 = (parseL s).2
  kept : acc.map lst = all.take 1024
  len : acc.length ≤ 1024
  fits : ∀ f ∈ acc, Fits f

/-- What the frame of Parse holds at its label 'field'. -/
def Jfield (s : ByteArray) (w : World) (a' : Act) (w' : World) : Prop :=
  ∃ (k : Nat) (lv : Value) (acc : List Fld) (all : List (List UInt8 × List UInt8)) (u : Nat → Value), a' = { tmps := #[.string s, undef, .slice none 0 0, .int .i64 0, lv, .int .i64 k, .string (bts (lineOf (s.data.toList.drop k))), .int .i64 (lineN (s.data.toList.drop k) : Int), u 8, u 9, u 10, u 11, u 12, u 13, u 14, u 15, u 16, u 17, u 18, u 19, u 20, u 21, u 22, u 23, u 24, u 25, u 26, u 27, u 28, u 29, u 30, u 31, u 32, u 33, u 34, u 35, u 36, u 37, u 38, u 39, u 40, u 41, u 42, u 43, u 44, u 45, u 46, u 47, u 48, u 49, u 50, u 51, u 52, u 53, u 54, u 55, u 56, u 57, u 58, u 59, u 60, u 61, u 62, u 63, u 64, u 65, u 66, u 67, u 68], defers := [] } ∧ k ≤ s.size ∧ Hid (Inv s.data.toList k all acc) ∧ Hid (w'.ownsRow w.heap.size 39 2 lv acc.length (flatF acc)) ∧ Hid (Below w.heap.size w w')
theorem Jfield.mk {s : ByteArray} {w : World} {a' : Act} {w' : World} (k : Nat) (lv : Value) (acc : List Fld) (all : List (List UInt8 × List UInt8))
    (ha : a' = { tmps := #[.string s, undef, .slice none 0 0, .int .i64 0, lv, .int .i64 k, .string (bts (lineOf (s.data.toList.drop k))), .int .i64 (lineN (s.data.toList.drop k) : Int), a'.tmps.getD 8 undef, a'.tmps.getD 9 undef, a'.tmps.getD 10 undef, a'.tmps.getD 11 undef, a'.tmps.getD 12 undef, a'.tmps.getD 13 undef, a'.tmps.getD 14 undef, a'.tmps.getD 15 undef, a'.tmps.getD 16 undef, a'.tmps.getD 17 undef, a'.tmps.getD 18 undef, a'.tmps.getD 19 undef, a'.tmps.getD 20 undef, a'.tmps.getD 21 undef, a'.tmps.getD 22 undef, a'.tmps.getD 23 undef, a'.tmps.getD 24 undef, a'.tmps.getD 25 undef, a'.tmps.getD 26 undef, a'.tmps.getD 27 undef, a'.tmps.getD 28 undef, a'.tmps.getD 29 undef, a'.tmps.getD 30 undef, a'.tmps.getD 31 undef, a'.tmps.getD 32 undef, a'.tmps.getD 33 undef, a'.tmps.getD 34 undef, a'.tmps.getD 35 undef, a'.tmps.getD 36 undef, a'.tmps.getD 37 undef, a'.tmps.getD 38 undef, a'.tmps.getD 39 undef, a'.tmps.getD 40 undef, a'.tmps.getD 41 undef, a'.tmps.getD 42 undef, a'.tmps.getD 43 undef, a'.tmps.getD 44 undef, a'.tmps.getD 45 undef, a'.tmps.getD 46 undef, a'.tmps.getD 47 undef, a'.tmps.getD 48 undef, a'.tmps.getD 49 undef, a'.tmps.getD 50 undef, a'.tmps.getD 51 undef, a'.tmps.getD 52 undef, a'.tmps.getD 53 undef, a'.tmps.getD 54 undef, a'.tmps.getD 55 undef, a'.tmps.getD 56 undef, a'.tmps.getD 57 undef, a'.tmps.getD 58 undef, a'.tmps.getD 59 undef, a'.tmps.getD 60 undef, a'.tmps.getD 61 undef, a'.tmps.getD 62 undef, a'.tmps.getD 63 undef, a'.tmps.getD 64 undef, a'.tmps.getD 65 undef, a'.tmps.getD 66 undef, a'.tmps.getD 67 undef, a'.tmps.getD 68 undef], defers := [] }) (h0 : k ≤ s.size) (h1 : Hid (Inv s.data.toList k all acc)) (h2 : Hid (w'.ownsRow w.heap.size 39 2 lv acc.length (flatF acc))) (h3 : Hid (Below w.heap.size w w')) : Jfield s w a' w' :=
  ⟨k, lv, acc, all, fun i => a'.tmps.getD i undef, ha, h0, h1, h2, h3⟩
/-- .. and at its label 'more'. -/
def Jmore (s : ByteArray) (w : World) (a' : Act) (w' : World) : Prop :=
  ∃ (k z b : Nat) (lv : Value) (acc : List Fld) (all : List (List UInt8 × List UInt8)) (n piece bs : List UInt8) (wb : World) (u : Nat → Value), a' = { tmps := #[.string s, undef, .slice none 0 0, .int .i64 0, lv, .int .i64 k, u 6, .int .i64 (z : Int), .string (bts n), .string (bts piece), u 10, .pointer (some ⟨b, 0, none⟩), u 12, u 13, u 14, u 15, u 16, u 17, u 18, u 19, u 20, u 21, u 22, u 23, u 24, u 25, u 26, u 27, u 28, u 29, u 30, u 31, u 32, u 33, u 34, u 35, u 36, u 37, u 38, u 39, u 40, u 41, u 42, u 43, u 44, u 45, u 46, u 47, u 48, u 49, u 50, u 51, u 52, u 53, u 54, u 55, u 56, u 57, u 58, u 59, u 60, u 61, u 62, u 63, u 64, u 65, u 66, u 67, u 68], defers := [] } ∧ k + z ≤ s.size ∧ 1 ≤ z ∧ bs.length + piece.length ≤ k + z ∧ n.length ≤ s.size ∧ Hid (Inv1 s.data.toList (k + z) all acc n (bs ++ piece)) ∧ Hid (Lib.IsBuilderF 65 5 b b (Lib.byteCells bs) w') ∧ wb.heap.size = b ∧ Hid (wb.ownsRow w.heap.size 39 2 lv acc.length (flatF acc)) ∧ Hid (Below b wb w') ∧ Hid (Below w.heap.size w wb)
theorem Jmore.mk {s : ByteArray} {w : World} {a' : Act} {w' : World} (k z b : Nat) (lv : Value) (acc : List Fld) (all : List (List UInt8 × List UInt8)) (n piece bs : List UInt8) (wb : World)
    (ha : a' = { tmps := #[.string s, undef, .slice none 0 0, .int .i64 0, lv, .int .i64 k, a'.tmps.getD 6 undef, .int .i64 (z : Int), .string (bts n), .string (bts piece), a'.tmps.getD 10 undef, .pointer (some ⟨b, 0, none⟩), a'.tmps.getD 12 undef, a'.tmps.getD 13 undef, a'.tmps.getD 14 undef, a'.tmps.getD 15 undef, a'.tmps.getD 16 undef, a'.tmps.getD 17 undef, a'.tmps.getD 18 undef, a'.tmps.getD 19 undef, a'.tmps.getD 20 undef, a'.tmps.getD 21 undef, a'.tmps.getD 22 undef, a'.tmps.getD 23 undef, a'.tmps.getD 24 undef, a'.tmps.getD 25 undef, a'.tmps.getD 26 undef, a'.tmps.getD 27 undef, a'.tmps.getD 28 undef, a'.tmps.getD 29 undef, a'.tmps.getD 30 undef, a'.tmps.getD 31 undef, a'.tmps.getD 32 undef, a'.tmps.getD 33 undef, a'.tmps.getD 34 undef, a'.tmps.getD 35 undef, a'.tmps.getD 36 undef, a'.tmps.getD 37 undef, a'.tmps.getD 38 undef, a'.tmps.getD 39 undef, a'.tmps.getD 40 undef, a'.tmps.getD 41 undef, a'.tmps.getD 42 undef, a'.tmps.getD 43 undef, a'.tmps.getD 44 undef, a'.tmps.getD 45 undef, a'.tmps.getD 46 undef, a'.tmps.getD 47 undef, a'.tmps.getD 48 undef, a'.tmps.getD 49 undef, a'.tmps.getD 50 undef, a'.tmps.getD 51 undef, a'.tmps.getD 52 undef, a'.tmps.getD 53 undef, a'.tmps.getD 54 undef, a'.tmps.getD 55 undef, a'.tmps.getD 56 undef, a'.tmps.getD 57 undef, a'.tmps.getD 58 undef, a'.tmps.getD 59 undef, a'.tmps.getD 60 undef, a'.tmps.getD 61 undef, a'.tmps.getD 62 undef, a'.tmps.getD 63 undef, a'.tmps.getD 64 undef, a'.tmps.getD 65 undef, a'.tmps.getD 66 undef, a'.tmps.getD 67 undef, a'.tmps.getD 68 undef], defers := [] }) (h0 : k + z ≤ s.size) (h1 : 1 ≤ z) (h2 : bs.length + piece.length ≤ k + z) (h3 : n.length ≤ s.size) (h4 : Hid (Inv1 s.data.toList (k + z) all acc n (bs ++ piece))) (h5 : Hid (Lib.IsBuilderF 65 5 b b (Lib.byteCells bs) w')) (h6 : wb.heap.size = b) (h7 : Hid (wb.ownsRow w.heap.size 39 2 lv acc.length (flatF acc))) (h8 : Hid (Below b wb w')) (h9 : Hid (Below w.heap.size w wb)) : Jmore s w a' w' :=
  ⟨k, z, b, lv, acc, all, n, piece, bs, wb, fun i => a'.tmps.getD i undef, ha, h0, h1, h2, h3, h4, h5, h6, h7, h8, h9⟩
/-- How much is left. -/
def leftP (s : ByteArray) (a' : Act) (_ : World) : Nat := s.size - (intOf (a'.tmps.getD 5 undef)).toNat

theorem rowF_of_own {w : World} {B : Nat} {v : Value} {l : List Fld} (h : w.ownsRow B 39 2 v l.length (flatF l)) (h6 : l.length ≤ 4194304) (hn : ∀ f ∈ l, Fits f) : RowF w v l := by
  rcases h.2 with ⟨hv, h0⟩ | ⟨g, cap, cur, hv, hg, hh, hn', hm, hs, ht⟩
  · have : l = [] := List.eq_nil_of_length_eq_zero h0
    subst this
    exact ⟨none, 0, by rw [hv]; rfl, h6, hn, Or.inl rfl⟩
  · refine ⟨some ⟨g, 0, none⟩, cap, hv, h6, hn, Or.inr ⟨g, 0, rfl, (Array.getElem?_eq_some_iff.1 hh).1, fun j u hj => ?_⟩⟩
    have hjl : j < l.length * 2 := by
      rcases Nat.lt_or_ge j (flatF l).length with h | h
      · rwa [flatF_length] at h
      · rw [List.getElem?_eq_none h] at hj; simp at hj
    rw [← ht, List.getElem?_take, if_pos hjl] at hj
    simp only [World.cell?, hh]
    simpa using hj

theorem goes_first {L : ByteArray} {l : List UInt8} (h : L.data.toList = l) (h0 : 0 < L.size) : isB L[0] = goesOn l := by
  have := drop_byte L 0 h0
  rw [List.drop_zero, h] at this
  rw [this]
  rfl
theorem inv1_go {s : List UInt8} {k : Nat} {all : List (List UInt8 × List UInt8)} {acc : List Fld} {n x : List UInt8} (h : Inv1 s k all acc n x) (hg : goesOn (lineOf (s.drop k)) = true) :
    Inv1 s (k + lineN (s.drop k)) all acc n (x ++ lineOf (s.drop k)) := by
  have e := contL_go hg
  rw [List.drop_drop] at e
  refine ⟨?_, ?_, h.kept, h.len, h.fits⟩
  · rw [← h.flds, e]
    simp only [List.append_assoc, Nat.add_assoc]
  · rw [← h.body, e]
    simp only [Nat.add_assoc]
theorem inv1_stop {s : List UInt8} {k : Nat} {all : List (List UInt8 × List UInt8)} {acc acc' : List Fld} {n x : List UInt8} (h : Inv1 s k all acc n x) (hg : goesOn (lineOf (s.drop k)) = false)
    (hk : acc'.map lst = (all ++ [(n, trimL x)]).take 1024) (hl : acc'.length ≤ 1024) (hf : ∀ f ∈ acc', Fits f) : Inv s k (all ++ [(n, trimL x)]) acc' := by
  have e := contL_stop hg
  refine ⟨?_, ?_, hk, hl, hf⟩
  · rw [← h.flds, e]
    simp
  · rw [← h.body, e]
    simp
theorem kept_more {all : List (List UInt8 × List UInt8)} {acc : List Fld} {f : Fld} (h : acc.map lst = all.take 1024) (hl : acc.length < 1024) : (acc ++ [f]).map lst = (all ++ [lst f]).take 1024 := by
  have hal : all.length < 1024 := by
    have := congrArg List.length h
    simp at this
    omega
  rw [List.take_of_length_le (by omega)] at h
  rw [List.take_of_length_le (by simp; omega), List.map_append, h]
  rfl
theorem kept_full {all : List (List UInt8 × List UInt8)} {acc : List Fld} {x : List UInt8 × List UInt8} (h : acc.map lst = all.take 1024) (hl : ¬ acc.length < 1024) : acc.map lst = (all ++ [x]).take 1024 := by
  have hal : 1024 ≤ all.length := by
    have := congrArg List.length h
    simp at this
    omega
  rw [h, List.take_append_of_le_length hal]
theorem two_cells (w : World) (x y : Value) (t : TypeId) : ∀ j u, [x, y][j]? = some u → (w.alloc (.cells #[x, y] t)).cell? (Addr.add ⟨w.heap.size, 0, none⟩ j) = some u := by
  intro j u hj
  match j, hj with
  | 0, hj => simp at hj; subst hj; simp [Addr.add]
  | 1, hj => simp at hj; subst hj; simp [Addr.add]

end Go.Proofs.YtdallfakfhajdaaGreatDoor

/-
  What head.Parse does, over this seat's program: a header's fields, and where the body begins.
-/
set_option linter.unusedVariables false
namespace Go.Proofs.YtdallfakfhajdaaGreatDoor
open Go.RowKit Go.Proofs.Hed

set_option maxHeartbeats 40000000 in
set_option maxRecDepth 100000 in
/-- head.Parse tells the fields, and where the body begins. -/
theorem parse_any (s : ByteArray) (w : World) (hs : s.size ≤ 16777216) :
    Calls Tryz.prog 23 #[.string s] w fun e w' => ∃ v l, e = .returned (.tuple #[v, .int .i64 ((parseL s.data.toList).2 : Int)]) ∧ RowF w' v l ∧ l.map lst = (parseL s.data.toList).1.take 1024 ∧ Below w.heap.size w w' := by
  have hsl := sizeL s
  have HF0 := hide (firstLine_any s w (by omega))
  go_enter Tryz.func23, Tryz.ntmps23
  go_wp2
  refine wp_scope_both 0 1 (by decide) (Jfield s w) (Jmore s w) (leftP s) rfl rfl ?_ ?_ ?_
  · intro hp
    go_wp2_with fail
    refine (unhide HF0).mono ?_
    rintro e w1 ⟨rfl, rfl⟩
    go_wp2
    go_step3
    rename_i K hK
    refine hK _ _ (hp _ _ (Jfield.mk 0 (.slice none 0 0) [] [] rfl (Nat.zero_le _) (hide ⟨rfl, Nat.zero_add _, rfl, by simp, by simp⟩) (hide ⟨rfl, Or.inl ⟨rfl, rfl⟩⟩) (hide (Below.refl _ _))))
  · rintro a' w' hp1 ⟨k, lv, acc, all, u, rfl, hk, HI, HO, HB⟩
    have HP1 := hide hp1
    clear hp1
    have hdl : (s.data.toList.drop k).length = s.size - k := by rw [List.length_drop, hsl]
    have hln := lineN_le (s.data.toList.drop k)
    have hlo := lineOf_len (s.data.toList.drop k)
    have HCT := hide (fun W => cut_any (bts (lineOf (s.data.toList.drop k))) W (by rw [size_bts]; omega))
    rw [toList_bts] at HCT
    have HROW := hide (fun (W : World) (h : W.ownsRow w.heap.size 39 2 lv acc.length (flatF acc)) => rowF_of_own h (by have := (unhide HI).len; omega) (unhide HI).fits)
    by_cases h0 : lineOf (s.data.toList.drop k) = []
    · have hz := parseL_end h0
      have hI := unhide HI
      have hf := hI.flds
      have hb := hI.body
      rw [hz] at hf hb
      simp only [List.append_nil] at hf
      simp only at hb
      have HFL := hide hf
      have HBD := hide hb
      rw [h0] at HCT ⊢
      have he : (bts []).toList.isEmpty = true := by rw [empty_size, size_bts]; rfl
      have hcn : colon [] = none := rfl
      rw [hcn] at HCT
      simp only at HCT
      generalize lineN (s.data.toList.drop k) = z at *
      clear hf hb hz hI h0 hlo hcn
      go_wp2_with fail
      refine (unhide HCT _).mono ?_
      rintro e w2 ⟨rfl, q, rfl⟩
      go_wp2
      simp only [jumpTwo]
      go_ret2
      refine ⟨lv, acc, ?_, unhide HROW _ (unhide HO), by rw [(unhide HI).kept, unhide HFL], below_drewN (unhide HB) _⟩
      rw [← unhide HBD]
      go_num
    · have he : (bts (lineOf (s.data.toList.drop k))).toList.isEmpty = false := by
        rw [empty_size, size_bts]
        exact decide_eq_false (fun h => h0 (List.eq_nil_of_length_eq_zero h))
      cases hc : colon (lineOf (s.data.toList.drop k)) with
      | none =>
        have hz := parseL_none h0 hc
        have hI := unhide HI
        have hf := hI.flds
        have hb := hI.body
        rw [hz] at hf hb
        simp only [List.append_nil] at hf
        simp only [Nat.add_zero] at hb
        have HFL := hide hf
        have HBD := hide hb
        rw [hc] at HCT
        simp only at HCT
        generalize lineN (s.data.toList.drop k) = z at *
        generalize bts (lineOf (s.data.toList.drop k)) = line at *
        clear hf hb hz hI h0 hlo hc
        go_wp2_with fail
        refine (unhide HCT _).mono ?_
        rintro e w2 ⟨rfl, q, rfl⟩
        go_wp2
        simp only [jumpTwo]
        go_ret2
        refine ⟨lv, acc, ?_, unhide HROW _ (unhide HO), by rw [(unhide HI).kept, unhide HFL], below_drewN (unhide HB) _⟩
        rw [← unhide HBD]
        rfl
      | some p =>
        obtain ⟨n, x⟩ := p
        have hcl := colon_len hc
        have HNM := hide (fun W => isName_any (bts n) W (by rw [size_bts]; omega))
        rw [toList_bts] at HNM
        rw [hc] at HCT
        simp only at HCT
        cases hn : isNm n with
        | false =>
          have hz := parseL_no h0 hc hn
          have hI := unhide HI
          have hf := hI.flds
          have hb := hI.body
          rw [hz] at hf hb
          simp only [List.append_nil] at hf
          simp only [Nat.add_zero] at hb
          have HFL := hide hf
          have HBD := hide hb
          rw [hn] at HNM
          generalize lineN (s.data.toList.drop k) = z at *
          generalize bts (lineOf (s.data.toList.drop k)) = line at *
          clear hf hb hz hI h0 hlo hc hcl hn
          go_wp2_with fail
          refine (unhide HCT _).mono ?_
          rintro e w2 ⟨rfl, q, rfl⟩
          go_wp2_with fail
          refine (unhide HNM _).mono ?_
          rintro e w3 ⟨rfl, rfl⟩
          go_wp2
          simp only [jumpTwo]
          go_ret2
          refine ⟨lv, acc, ?_, unhide HROW _ (unhide HO), by rw [(unhide HI).kept, unhide HFL], below_drewN (unhide HB) _⟩
          rw [← unhide HBD]
          rfl
        | true =>
          have hz := parseL_field h0 hc hn
          have hI := unhide HI
          have hf := hI.flds
          have hb := hI.body
          rw [hz] at hf hb
          simp only [List.drop_drop] at hf hb
          have hlp := lineN_pos (line_ne h0)
          rw [hn] at HNM
          have HI1 : Hid (Inv1 s.data.toList (k + lineN (s.data.toList.drop k)) all acc n ([] ++ x)) := hide ⟨by
            rw [← hf, List.nil_append, Nat.add_assoc], by rw [← hb]; simp only [Nat.add_assoc], hI.kept, hI.len, hI.fits⟩
          have hkz : k + lineN (s.data.toList.drop k) ≤ s.size := by omega
          have hxl : ([] : List UInt8).length + x.length ≤ k + lineN (s.data.toList.drop k) := by simp; omega
          have hnl : n.length ≤ s.size := by omega
          generalize lineN (s.data.toList.drop k) = z at *
          generalize bts (lineOf (s.data.toList.drop k)) = line at *
          clear hf hb hz hI h0 hlo hc hcl hn
          go_wp2_with fail
          refine (unhide HCT _).mono ?_
          rintro e w2 ⟨rfl, q, rfl⟩
          go_wp2_with fail
          refine (unhide HNM _).mono ?_
          rintro e w3 ⟨rfl, rfl⟩
          go_wp2
          go_step3
          rename_i K hK
          refine hK _ _ (unhide HP1 _ _ (Jmore.mk k z w'.heap.size lv acc all n x [] (w'.drewN q) rfl hkz hlp hxl hnl HI1 (hide (Lib.IsBuilderF.of (Lib.fresh_isBuilder 65 5 (w'.drewN q)))) rfl HO (hide (show Below (w'.drewN q).heap.size (w'.drewN q) _ from (Below.refl _ _).alloc (Nat.le_refl _) _)) (hide (below_drewN (unhide HB) _))) (Nat.le_refl _))
  · rintro a' w' ⟨k, z, b, lv, acc, all, n, piece, bs, wb, u, rfl, hkz, hz1, hbl, hnl, HI, HBU, hwb, HO, HBB, HBW⟩
    have HWS := hide (writeString_k b b bs (bts piece) w' (unhide HBU) (by rw [size_bts]; omega) (by have := (unhide HBB).size; omega))
    rw [toList_bts] at HWS
    have S1 := fun W => slice_from s ((k : Int) + (z : Int)) (k + z) (by omega) hkz W
    have HFL := hide (fun W => firstLine_any (s.extract (k + z) s.size) W (by rw [size_part s (k + z) s.size (Nat.le_refl _)]; omega))
    rw [toList_from] at HFL
    generalize s.extract (k + z) s.size = sx at S1 HFL
    have hdl : (s.data.toList.drop (k + z)).length = s.size - (k + z) := by rw [List.length_drop, hsl]
    have hln := lineN_le (s.data.toList.drop (k + z))
    have hlo := lineOf_len (s.data.toList.drop (k + z))
    rw [hdl] at hln
    obtain ⟨L, hL⟩ : ∃ L, lineOf (s.data.toList.drop (k + z)) = L := ⟨_, rfl⟩
    obtain ⟨z2, hz2⟩ : ∃ z2, lineN (s.data.toList.drop (k + z)) = z2 := ⟨_, rfl⟩
    rw [hL, hz2] at HFL hlo
    rw [hz2] at hln
    have HLZ := hide (And.intro hL hz2)
    have HNUM := hide (And.intro hkz (And.intro hz1 (And.intro hbl (And.intro hnl (And.intro hln (And.intro hlo (And.intro hwb hs)))))))
    have hkb : (k : Int) + (z : Int) ≤ 16777216 := by omega
    clear hL hz2 hkz hz1 hbl hnl hln hlo hwb hs hdl hsl HBU
    go_wp2_with fail
    refine (unhide HWS).mono ?_
    rintro e w2 ⟨rfl, hbu2, b2⟩
    have HBU2 := hide hbu2
    have HBB2 := hide ((unhide HBB).trans b2)
    clear hbu2 b2 HWS HBB
    go_wp2_with fail
    refine (unhide HFL _).mono ?_
    rintro e w2 ⟨rfl, rfl⟩
    clear HFL S1
    cases hg : goesOn L with
    | true =>
      obtain ⟨c, r, rfl⟩ : ∃ c r, L = c :: r := by
        cases L with
        | nil => cases hg
        | cons c r => exact ⟨c, r, rfl⟩
      have hg' : isB c = true := hg
      obtain ⟨X, hX⟩ : ∃ X, bts (c :: r) = X := ⟨_, rfl⟩
      have hXs : 0 < X.size := by rw [← hX, size_bts]; simp
      have hXl : X.data.toList = c :: r := by rw [← hX, toList_bts]
      have hXc : isB X[0] = true := by rw [goes_first hXl hXs]; exact hg
      have hemp : X.toList.isEmpty = false := by rw [empty_size]; exact decide_eq_false (by omega)
      have HBL := hide (fun W => isBlank_any X[0] W)
      rw [hXc] at HBL
      have hgg : goesOn (lineOf (s.data.toList.drop (k + z))) = true := by rw [(unhide HLZ).1]; exact hg
      have hI2 := inv1_go (unhide HI) hgg
      rw [(unhide HLZ).1, (unhide HLZ).2] at hI2
      have hz2p := lineN_pos (goes_ne hgg)
      rw [(unhide HLZ).2] at hz2p
      have HI2 := hide hI2
      have HZP := hide hz2p
      have HXX := hide hX
      rw [hX]
      have hxs' : (0 : Int) < (X.size : Int) := by omega
      clear hX hg hg' hgg hI2 hz2p hXc hXl
      go_wp2_with fail
      refine (unhide HBL _).mono ?_
      rintro e w2 ⟨rfl, rfl⟩
      go_wp2
      go_step3
      obtain ⟨q1, q2, q3, q4, q5, q6, q7, q8⟩ := unhide HNUM
      refine Or.inr ⟨rfl, Jmore.mk (k + z) z2 b lv acc all n (c :: r) (bs ++ piece) wb ?_ (by omega) (unhide HZP) (by rw [List.length_append]; omega) q4 HI2 HBU2 q7 HO HBB2 HBW, ?_⟩
      · rw [show ((k + z : Nat) : Int) = (k : Int) + (z : Int) by omega, unhide HXX]
        rfl
      · simp only [leftP]
        simp [intOf]
        omega
    | false =>
      obtain ⟨la, lc, rfl⟩ : ∃ la lc, lv = .slice la acc.length lc := by
        rcases (unhide HO).2 with ⟨hv, h0⟩ | ⟨g, cap, cur, hv, _⟩
        · exact ⟨none, 0, by rw [hv, h0]⟩
        · exact ⟨_, _, hv⟩
      have hI := unhide HI
      have hacl := hI.len
      have hgg : goesOn (lineOf (s.data.toList.drop (k + z))) = false := by rw [(unhide HLZ).1]; exact hg
      obtain ⟨q1, q2, q3, q4, q5, q6, q7, q8⟩ := unhide HNUM
      have htl := trimL_len (bs ++ piece)
      rw [List.length_append] at htl
      have HCL := hide (fun W => cloneS_any (bts n) W (by rw [size_bts]; omega))
      have HTR := hide (fun W => trim_any ⟨(bs ++ piece).toArray⟩ W (by show (bts (bs ++ piece)).size ≤ _; rw [size_bts, List.length_append]; omega))
      rw [show (ByteArray.mk (bs ++ piece).toArray).data.toList = bs ++ piece from toList_bts _] at HTR
      have hfit : Fits (bts n, bts (trimL (bs ++ piece))) := ⟨by show (bts n).size ≤ _; rw [size_bts]; omega, by show (bts (trimL (bs ++ piece))).size ≤ _; rw [size_bts]; omega⟩
      obtain ⟨X, hX⟩ : ∃ X, bts L = X := ⟨_, rfl⟩
      have hXs : X.size = L.length := by rw [← hX, size_bts]
      have hXl : X.data.toList = L := by rw [← hX, toList_bts]
      have HXX := hide hX
      rw [hX]
      obtain ⟨i0, hi, hz0, hzz1, hz2⟩ := info_parts fldInfo
      clear q1 q2 q3 q4 q5 q6 q7 q8 hX htl
      by_cases hlen : acc.length < 1024
      · have hinv : Inv s.data.toList (k + z) (all ++ [(n, trimL (bs ++ piece))]) (acc ++ [(bts n, bts (trimL (bs ++ piece)))]) := inv1_stop hI hgg (by
          have := kept_more (f := (bts n, bts (trimL (bs ++ piece)))) hI.kept hlen
          rw [this]
          simp only [lst, toList_bts]) (by simp; omega) (by
          intro f hf
          rw [List.mem_append, List.mem_singleton] at hf
          rcases hf with hf | rfl
          · exact hI.fits f hf
          · exact hfit)
        have HIY := hide hinv
        have hlen' : (acc.length : Int) < 1024 := by omega
        clear hinv hI hgg hfit hacl
        by_cases hL0 : X.size = 0
        · have hemp : X.toList.isEmpty = true := by rw [empty_size]; exact decide_eq_true hL0
          clear hXs hXl hg hL0
          go_wp2_with fail
          refine (unhide HCL _).mono ?_
          rintro e w4 ⟨rfl, b4⟩
          have hz3 : b ≤ w2.heap.size := by have := (unhide HBB2).size; have := (unhide HNUM).2.2.2.2.2.2.1; omega
          have HBU4 := hide (isB_below (unhide HBU2) b4)
          have HBB4 := hide ((unhide HBB2).trans (b4.mono hz3))
          have HZ4 : Hid (b ≤ w4.heap.size) := hide (by have := (unhide HBB4).size; have := (unhide HNUM).2.2.2.2.2.2.1; omega)
          clear b4 hz3 HBU2 HBB2 HCL
          go_wp2_with fail
          refine (Tryz.Builder_String_any_k b b (bs ++ piece) w4 (unhide HBU4) (unhide HZ4)).mono ?_
          rintro e w5 ⟨rfl, _, b5, _⟩
          have HBB5 := hide ((unhide HBB4).trans b5)
          clear b5 HBU4 HBB4 HZ4
          go_wp2_with fail
          refine (unhide HTR _).mono ?_
          rintro e w6 ⟨rfl, b6⟩
          have hbb6 : Below b wb w6 := (unhide HBB5).trans (b6.mono (by have := (unhide HBB5).size; have := (unhide HNUM).2.2.2.2.2.2.1; omega))
          have hwb := (unhide HNUM).2.2.2.2.2.2.1
          have hown6 := own_below (unhide HO) (by rw [hwb]; exact hbb6)
          have hbw6 : Below w.heap.size w w6 := (unhide HBW).trans (hbb6.mono (by have := (unhide HBW).size; omega))
          have hz6 := hbw6.size
          have HB6 := hide hbw6
          clear b6 hbb6 hbw6 HBB5 HTR hwb
          go_wp2_with (at_builtin; refine wpList_append_own _ rfl _ _ 40 rfl w.heap.size 39 i0 (.agg #[.string ByteArray.empty, .string ByteArray.empty]) 2 32 Tryz.underlying40 hi hz0 hzz1 hz2 rfl (by decide) _ _ _ rfl (hown6.alloc _) ⟨w6.heap.size, 0, none⟩ 1 1 [.string (bts n), .string (bts (trimL (bs ++ piece)))] rfl rfl (two_cells _ _ _ _) (by intro u hu; simp at hu; rcases hu with rfl | rfl <;> rfl) (by unfold maxLen; omega) (by omega) (by simp; omega) ?_)
          intro v' w7 hown7 hgrow _
          have HB7 := hide (own_up hown6 hgrow (unhide HB6) hz6)
          have HO7 := hide hown7
          clear hown6 hown7 hgrow
          go_wp2
          go_step3
          obtain ⟨q1, q2, q3, q4, q5, q6, q7, q8⟩ := unhide HNUM
          refine Or.inl ⟨rfl, Jfield.mk (k + z) v' (acc ++ [(bts n, bts (trimL (bs ++ piece)))]) (all ++ [(n, trimL (bs ++ piece))]) ?_ q1 HIY ?_ HB7, ?_⟩
          · rw [show ((k + z : Nat) : Int) = (k : Int) + (z : Int) by omega, (unhide HLZ).1, (unhide HLZ).2, unhide HXX]
            rfl
          · have h7 := unhide HO7
            rw [show flatF acc ++ [.string (bts n), .string (bts (trimL (bs ++ piece)))] = flatF (acc ++ [(bts n, bts (trimL (bs ++ piece)))]) by rw [flatF_append]; rfl] at h7
            exact hide (by simpa using h7)
          · simp only [leftP]
            simp [intOf]
            omega
        · have hemp : X.toList.isEmpty = false := by rw [empty_size]; exact decide_eq_false hL0
          have hL1 : 0 < X.size := by omega
          have HBL := hide (fun W => isBlank_any X[0] W)
          rw [goes_first hXl hL1, hg] at HBL
          have hl0 : (0 : Int) < (X.size : Int) := by omega
          clear hXs hXl hg hL0
          go_wp2_with fail
          refine (unhide HBL _).mono ?_
          rintro e w2 ⟨rfl, rfl⟩
          go_wp2_with fail
          refine (unhide HCL _).mono ?_
          rintro e w4 ⟨rfl, b4⟩
          have hz3 : b ≤ w2.heap.size := by have := (unhide HBB2).size; have := (unhide HNUM).2.2.2.2.2.2.1; omega
          have HBU4 := hide (isB_below (unhide HBU2) b4)
          have HBB4 := hide ((unhide HBB2).trans (b4.mono hz3))
          have HZ4 : Hid (b ≤ w4.heap.size) := hide (by have := (unhide HBB4).size; have := (unhide HNUM).2.2.2.2.2.2.1; omega)
          clear b4 hz3 HBU2 HBB2 HCL
          go_wp2_with fail
          refine (Tryz.Builder_String_any_k b b (bs ++ piece) w4 (unhide HBU4) (unhide HZ4)).mono ?_
          rintro e w5 ⟨rfl, _, b5, _⟩
          have HBB5 := hide ((unhide HBB4).trans b5)
          clear b5 HBU4 HBB4 HZ4
          go_wp2_with fail
          refine (unhide HTR _).mono ?_
          rintro e w6 ⟨rfl, b6⟩
          have hbb6 : Below b wb w6 := (unhide HBB5).trans (b6.mono (by have := (unhide HBB5).size; have := (unhide HNUM).2.2.2.2.2.2.1; omega))
          have hwb := (unhide HNUM).2.2.2.2.2.2.1
          have hown6 := own_below (unhide HO) (by rw [hwb]; exact hbb6)
          have hbw6 : Below w.heap.size w w6 := (unhide HBW).trans (hbb6.mono (by have := (unhide HBW).size; omega))
          have hz6 := hbw6.size
          have HB6 := hide hbw6
          clear b6 hbb6 hbw6 HBB5 HTR hwb
          go_wp2_with (at_builtin; refine wpList_append_own _ rfl _ _ 40 rfl w.heap.size 39 i0 (.agg #[.string ByteArray.empty, .string ByteArray.empty]) 2 32 Tryz.underlying40 hi hz0 hzz1 hz2 rfl (by decide) _ _ _ rfl (hown6.alloc _) ⟨w6.heap.size, 0, none⟩ 1 1 [.string (bts n), .string (bts (trimL (bs ++ piece)))] rfl rfl (two_cells _ _ _ _) (by intro u hu; simp at hu; rcases hu with rfl | rfl <;> rfl) (by unfold maxLen; omega) (by omega) (by simp; omega) ?_)
          intro v' w7 hown7 hgrow _
          have HB7 := hide (own_up hown6 hgrow (unhide HB6) hz6)
          have HO7 := hide hown7
          clear hown6 hown7 hgrow
          go_wp2
          go_step3
          obtain ⟨q1, q2, q3, q4, q5, q6, q7, q8⟩ := unhide HNUM
          refine Or.inl ⟨rfl, Jfield.mk (k + z) v' (acc ++ [(bts n, bts (trimL (bs ++ piece)))]) (all ++ [(n, trimL (bs ++ piece))]) ?_ q1 HIY ?_ HB7, ?_⟩
          · rw [show ((k + z : Nat) : Int) = (k : Int) + (z : Int) by omega, (unhide HLZ).1, (unhide HLZ).2, unhide HXX]
            rfl
          · have h7 := unhide HO7
            rw [show flatF acc ++ [.string (bts n), .string (bts (trimL (bs ++ piece)))] = flatF (acc ++ [(bts n, bts (trimL (bs ++ piece)))]) by rw [flatF_append]; rfl] at h7
            exact hide (by simpa using h7)
          · simp only [leftP]
            simp [intOf]
            omega
      · have hinv : Inv s.data.toList (k + z) (all ++ [(n, trimL (bs ++ piece))]) acc := inv1_stop hI hgg (kept_full hI.kept hlen) hI.len hI.fits
        have HIN := hide hinv
        have hlen' : ¬ (acc.length : Int) < 1024 := by omega
        clear hinv hI hgg hfit hacl HCL HTR
        by_cases hL0 : X.size = 0
        · have hemp : X.toList.isEmpty = true := by rw [empty_size]; exact decide_eq_true hL0
          clear hXs hXl hg hL0
          have hwb := (unhide HNUM).2.2.2.2.2.2.1
          have hbb2 := unhide HBB2
          have hown6 := own_below (unhide HO) (by rw [hwb]; exact hbb2)
          have HO7 := hide hown6
          have HB7 := hide ((unhide HBW).trans (hbb2.mono (by have := (unhide HBW).size; omega)))
          clear hbb2 hown6 hwb
          go_wp2
          go_step3
          obtain ⟨q1, q2, q3, q4, q5, q6, q7, q8⟩ := unhide HNUM
          refine Or.inl ⟨rfl, Jfield.mk (k + z) (.slice la acc.length lc) acc (all ++ [(n, trimL (bs ++ piece))]) ?_ q1 HIN HO7 HB7, ?_⟩
          · rw [show ((k + z : Nat) : Int) = (k : Int) + (z : Int) by omega, (unhide HLZ).1, (unhide HLZ).2, unhide HXX]
            rfl
          · simp only [leftP]
            simp [intOf]
            omega
        · have hemp : X.toList.isEmpty = false := by rw [empty_size]; exact decide_eq_false hL0
          have hL1 : 0 < X.size := by omega
          have HBL := hide (fun W => isBlank_any X[0] W)
          rw [goes_first hXl hL1, hg] at HBL
          have hl0 : (0 : Int) < (X.size : Int) := by omega
          clear hXs hXl hg hL0
          go_wp2_with fail
          refine (unhide HBL _).mono ?_
          rintro e w2 ⟨rfl, rfl⟩
          have hwb := (unhide HNUM).2.2.2.2.2.2.1
          have hbb2 := unhide HBB2
          have hown6 := own_below (unhide HO) (by rw [hwb]; exact hbb2)
          have HO7 := hide hown6
          have HB7 := hide ((unhide HBW).trans (hbb2.mono (by have := (unhide HBW).size; omega)))
          clear hbb2 hown6 hwb
          go_wp2
          go_step3
          obtain ⟨q1, q2, q3, q4, q5, q6, q7, q8⟩ := unhide HNUM
          refine Or.inl ⟨rfl, Jfield.mk (k + z) (.slice la acc.length lc) acc (all ++ [(n, trimL (bs ++ piece))]) ?_ q1 HIN HO7 HB7, ?_⟩
          · rw [show ((k + z : Nat) : Int) = (k : Int) + (z : Int) by omega, (unhide HLZ).1, (unhide HLZ).2, unhide HXX]
            rfl
          · simp only [leftP]
            simp [intOf]
            omega

end Go.Proofs.YtdallfakfhajdaaGreatDoor

/-
  What strings.IndexRune tells of a letter that is not of ASCII in a text of two letters of ASCII, over this seat's program: there is none.
-/
set_option linter.unusedVariables false
namespace Go.Proofs.YtdallfakfhajdaaGreatDoor
open Go.RowKit

theorem iterB (w : World) (s : ByteArray) (k : Nat) : Below w.heap.size w (w.iter s k) := (Below.refl _ w).alloc (Nat.le_refl _) _

set_option maxHeartbeats 2000000 in
set_option maxRecDepth 100000 in
theorem indexRune_err (C : ByteArray) (w : World) (h2 : C.size = 2) (ha : ∀ (j : Nat) (h : j < C.size), (C[j]'h).toNat < 128) :
    Calls Tryz.prog 138 #[.string C, .int .i32 65533] w fun e w' => e = .returned (.int .i64 (-1)) ∧ Below w.heap.size w w' := by
  have HA := hide ha
  clear ha h2
  go_enter Tryz.func138, Tryz.ntmps138
  go_wp2
  go_loopg [5, 6] C.size (fun g _ _ wx => ∃ i : Nat, i + g = C.size ∧ wx = w.iter C i)
  case atStart => exact ⟨0, by omega, rfl⟩
  case round =>
    obtain ⟨i, hig, rfl⟩ := hrel
    cases gk with
    | zero =>
      obtain rfl : i = C.size := by omega
      have hnx := fun ty => run_next_end (P := Tryz.prog) w C C.size ty (by omega)
      go_wp2
      go_ret
      exact ⟨rfl, iterB _ _ _⟩
    | succ g =>
      have hi : i < C.size := by omega
      have hx := unhide HA i hi
      have hnx := fun ty => run_next_ascii (P := Tryz.prog) w C i ty hi hx
      obtain ⟨x, hxx⟩ : ∃ x : UInt8, C[i]'hi = x := ⟨_, rfl⟩
      rw [hxx] at hnx hx
      clear hxx
      have hne : ((x.toNat : Int) == 65533) = false := by rw [beq_eq_false_iff_ne]; omega
      go_wp2
      go_roundg g
      case measure => omega
      case rel => exact ⟨i + 1, by omega, rfl⟩

set_option maxHeartbeats 2000000 in
set_option maxRecDepth 100000 in
theorem indexRune_no (C : ByteArray) (r : Int) (w : World) (h128 : 128 ≤ r) (hne : r ≠ 65533) (hv : Lib.validRune r = false) :
    Calls Tryz.prog 138 #[.string C, .int .i32 r] w fun e w' => e = .returned (.int .i64 (-1)) ∧ Below w.heap.size w w' := by
  have HV := hide (fun W => Tryz.utf8_ValidRune r W)
  rw [hv] at HV
  have hne' : (r == 65533) = false := by rw [beq_eq_false_iff_ne]; exact hne
  have h0 : 0 ≤ r := by omega
  have h1 : ¬ r < 128 := by omega
  clear hne hv
  go_enter Tryz.func138, Tryz.ntmps138
  go_wp2_with fail
  refine (unhide HV _).mono ?_
  rintro e _ ⟨rfl, rfl⟩
  go_wp2
  go_ret
  exact ⟨rfl, Below.refl _ _⟩

set_option maxHeartbeats 2000000 in
set_option maxRecDepth 100000 in
theorem indexRune_yes (C : ByteArray) (r : Int) (w : World) (h128 : 128 ≤ r) (hne : r ≠ 65533) (hv : Lib.validRune r = true) (h2 : C.size = 2) (ha : ∀ (j : Nat) (h : j < C.size), (C[j]'h).toNat < 128) :
    Calls Tryz.prog 138 #[.string C, .int .i32 r] w fun e w' => e = .returned (.int .i64 (-1)) ∧ Below w.heap.size w w' := by
  have HV := hide (fun W => Tryz.utf8_ValidRune r W)
  rw [hv] at HV
  have hne' : (r == 65533) = false := by rw [beq_eq_false_iff_ne]; exact hne
  have h0 : 0 ≤ r := by omega
  have h1 : ¬ r < 128 := by omega
  obtain ⟨e1, e2, e3⟩ := encode_facts r (by rw [validRune_eq]; exact hv) h128
  clear hne hv
  obtain ⟨rs, hrs⟩ : ∃ rs, Utf8.encode r = rs := ⟨_, rfl⟩
  rw [hrs] at e1 e2
  by_cases h3 : rs.size = 2
  · have hl1 : 1 < rs.size := by omega
    have hr1 : 128 ≤ (rs[1]'hl1).toNat := by
      subst hrs
      have := e3 (by omega)
      simpa [h3] using this
    have c1 := ha 1 (by omega)
    obtain ⟨x, hx⟩ : ∃ x : UInt8, C[1]'(by omega) = x := ⟨_, rfl⟩
    obtain ⟨y, hy⟩ : ∃ y : UInt8, rs[1]'hl1 = y := ⟨_, rfl⟩
    rw [hx] at c1
    rw [hy] at hr1
    have hne2 : ((x.toNat : Int) == (y.toNat : Int)) = false := by rw [beq_eq_false_iff_ne]; omega
    have HIB := hide (fun W => Tryz.strings_IndexByte (C.extract 2 C.size) (y.toNat : Int) W)
    have hxt : C.extract 2 C.size = ⟨#[]⟩ := by
      apply ext_list
      rw [toList_from, List.drop_of_length_le (by rw [sizeL]; omega)]
    rw [hxt] at HIB
    have S1 := fun W => slice_from C 2 2 rfl (by omega) W
    rw [hxt] at S1
    rw [show Lib.indexByte (⟨#[]⟩ : ByteArray).data.toList ((y.toNat : Int)).toNat.toUInt8 = -1 from rfl] at HIB
    clear e1 e2 e3 ha hxt
    go_enter Tryz.func138, Tryz.ntmps138
    go_wp2_with fail
    refine (unhide HV _).mono ?_
    rintro e w ⟨rfl, rfl⟩
    go_wp2_with fail
    refine wp_scope_straight ?_
    go_wp2
    go_loopw [9] (fun i wr => i = .int .i64 1 ∧ wr = w) (fun _ _ => 0)
    case atStart => exact ⟨rfl, rfl⟩
    case round =>
      obtain ⟨rfl, rfl⟩ := hrel
      go_wp2
      refine wp_scope_straight ?_
      go_wp2
      go_quiet (fail)
      have HB : Hid (Below wr.heap.size wr (wr.drewN nq)) := hide ⟨rfl, rfl, rfl, Nat.le_refl _, fun _ _ => rfl⟩
      generalize wr.drewN nq = wz at HB ⊢
      have hw2 : IntKind.i64.wrap 2 = 2 := by decide
      go_wp2
      go_quiet ((go_at_call 97; exact Calls.quiet_of_same (unhide HIB _)))
      go_wp2
      simp +zetaDelta only [Exit.noGoto, Exit.inBlock, Exit.then]
      go_ret
      exact ⟨rfl, (unhide HB).trans ⟨rfl, rfl, rfl, Nat.le_refl _, fun _ _ => rfl⟩⟩
  · have hs3 : (2 : Int) < (rs.size : Int) := by omega
    have hs4 : (rs.size : Int) ≤ 4 := by omega
    clear e1 e2 e3 ha
    go_enter Tryz.func138, Tryz.ntmps138
    go_wp2_with fail
    refine (unhide HV _).mono ?_
    rintro e w ⟨rfl, rfl⟩
    go_wp2_with fail
    refine wp_scope_straight ?_
    go_wp2
    go_loopw [9] (fun i wr => i = .int .i64 ((rs.size : Int) - 1) ∧ wr = w) (fun _ _ => 0)
    case atStart => exact ⟨rfl, rfl⟩
    case round =>
      obtain ⟨rfl, rfl⟩ := hrel
      have hs5 : ¬ (rs.size : Int) - 1 < 2 := by omega
      go_wp2
      (try simp only [Exit.noGoto])
      go_ret
      exact ⟨rfl, Below.refl _ _⟩

end Go.Proofs.YtdallfakfhajdaaGreatDoor

/-
  What strings.IndexAny tells of two letters of ASCII in whatever text, over this seat's program.
-/
set_option linter.unusedVariables false
namespace Go.Proofs.YtdallfakfhajdaaGreatDoor
open Go.RowKit

theorem get_byte (s : ByteArray) (k : Nat) (h : k < s.size) : s.get! k = s[k]'h := by
  have := get_at s k h
  simpa using this

/-- A letter that is not of ASCII has no byte that is. -/
theorem decode_bytes (s : ByteArray) (pos : Nat) (h : pos < s.size) (ha : 128 ≤ (s[pos]'h).toNat) :
    pos + (Utf8.decode s pos).2 ≤ s.size ∧ ∀ j, j < (Utf8.decode s pos).2 → ∀ hj : pos + j < s.size, 128 ≤ (s[pos + j]'hj).toNat := by
  have hg : (s.get! (pos + 0)).toNat = (s[pos]'h).toNat := by rw [get_at s pos h]
  have one : pos + 1 ≤ s.size ∧ ∀ j, j < 1 → ∀ hj : pos + j < s.size, 128 ≤ (s[pos + j]'hj).toNat := by
    refine ⟨by omega, fun j hj hjs => ?_⟩
    obtain rfl : j = 0 := by omega
    simpa using ha
  have cont : ∀ k, (decide (pos + k < s.size) && ((s.get! (pos + k)).toNat / 64 == 2)) = true → ∃ hk : pos + k < s.size, 128 ≤ (s[pos + k]'hk).toNat := by
    intro k hk
    rw [Bool.and_eq_true, decide_eq_true_eq] at hk
    refine ⟨hk.1, ?_⟩
    have h2 := hk.2
    rw [get_byte s (pos + k) hk.1] at h2
    have h3 := beq_iff_eq.1 h2
    omega
  unfold Utf8.decode
  simp only [hg]
  rw [if_neg (by omega)]
  split
  · rename_i h1
    rw [Bool.and_eq_true] at h1
    obtain ⟨k1, b1⟩ := cont 1 h1.2
    split
    · refine ⟨by show pos + 2 ≤ _; omega, fun j hj hjs => ?_⟩
      have hj' : j < 2 := hj
      rcases (by omega : j = 0 ∨ j = 1) with rfl | rfl
      · simpa using ha
      · exact b1
    · exact one
  · split
    · rename_i _ h1
      rw [Bool.and_eq_true, Bool.and_eq_true] at h1
      obtain ⟨k1, b1⟩ := cont 1 h1.1.2
      obtain ⟨k2, b2⟩ := cont 2 h1.2
      split
      · refine ⟨by show pos + 3 ≤ _; omega, fun j hj hjs => ?_⟩
        have hj' : j < 3 := hj
        rcases (by omega : j = 0 ∨ j = 1 ∨ j = 2) with rfl | rfl | rfl
        · simpa using ha
        · exact b1
        · exact b2
      · exact one
    · split
      · rename_i _ _ h1
        rw [Bool.and_eq_true, Bool.and_eq_true, Bool.and_eq_true] at h1
        obtain ⟨k1, b1⟩ := cont 1 h1.1.1.2
        obtain ⟨k2, b2⟩ := cont 2 h1.1.2
        obtain ⟨k3, b3⟩ := cont 3 h1.2
        split
        · refine ⟨by show pos + 4 ≤ _; omega, fun j hj hjs => ?_⟩
          have hj' : j < 4 := hj
          rcases (by omega : j = 0 ∨ j = 1 ∨ j = 2 ∨ j = 3) with rfl | rfl | rfl | rfl
          · simpa using ha
          · exact b1
          · exact b2
          · exact b3
        · exact one
      · exact one

/-- strings.IndexRune at a letter that is not of ASCII. -/
theorem indexRune_high (C : ByteArray) (r : Int) (w : World) (h128 : 128 ≤ r) (h2 : C.size = 2) (ha : ∀ (j : Nat) (h : j < C.size), (C[j]'h).toNat < 128) :
    Calls Tryz.prog 138 #[.string C, .int .i32 r] w fun e w' => e = .returned (.int .i64 (-1)) ∧ Below w.heap.size w w' := by
  by_cases he : r = 65533
  · subst he; exact indexRune_err C w h2 ha
  · cases hv : Lib.validRune r
    · exact indexRune_no C r w h128 he hv
    · exact indexRune_yes C r w h128 he hv h2 ha

theorem noAny_more {s C : ByteArray} {i n : Nat} (h : Lib.NoAny s.data.toList C.data.toList i) (hb : ∀ j, j < n → ∀ hj : i + j < s.size, 128 ≤ (s[i + j]'hj).toNat) (hC : ∀ c ∈ C.data.toList, c.toNat < 128) : Lib.NoAny s.data.toList C.data.toList (i + n) := by
  intro j b hj hs
  by_cases hji : j < i
  · exact h j b hji hs
  · have hlt : j < s.size := by
      have := (List.getElem?_eq_some_iff.1 hs).1
      rwa [sizeL] at this
    have h1 := hb (j - i) (by omega) (by omega)
    have e : s[i + (j - i)]'(by omega) = s[j]'hlt := by congr 1; omega
    rw [e] at h1
    have h3 : s[j]'hlt = b := by
      have := (List.getElem?_eq_some_iff.1 hs).2
      rw [← this]; rfl
    rw [h3] at h1
    cases hc : C.data.toList.contains b
    · rfl
    · have := hC b (by simpa using hc)
      omega

theorem iterAtB {B k : Nat} {w wr : World} (h : Below B w wr) (hk : B ≤ k) (s : ByteArray) (p : Nat) : Below B w (wr.iterAt k s p) := by
  refine ⟨h.os, h.tape, h.output, by simpa [World.iterAt] using h.size, fun i hi => ?_⟩
  rw [← h.block i hi]
  show (wr.heap.setIfInBounds k _)[i]? = _
  rw [Array.getElem?_setIfInBounds_ne (by omega)]

set_option maxHeartbeats 4000000 in
set_option maxRecDepth 100000 in
theorem indexAny_short (s C : ByteArray) (w : World) (h2 : C.size = 2) (ha : ∀ (j : Nat) (h : j < C.size), (C[j]'h).toNat < 128) (h8 : s.size ≤ 8) :
    Calls Tryz.prog 109 #[.string s, .string C] w fun e w' => e = .returned (.int .i64 (Lib.indexAny s.data.toList C.data.toList)) ∧ Below w.heap.size w w' := by
  have hCm : ∀ c ∈ C.data.toList, c.toNat < 128 := by
    intro c hc
    obtain ⟨j, hj, rfl⟩ := List.getElem_of_mem hc
    exact ha j (by rwa [sizeL] at hj)
  have HCM := hide hCm
  have HIR := hide (fun (r : Int) (h : 128 ≤ r) W => indexRune_high C r W h h2 ha)
  have hemp : C.toList.isEmpty = false := by
    rw [Lib.toList_data]
    cases h : C.data.toList with
    | nil => have := sizeL C; rw [h, List.length_nil] at this; omega
    | cons _ _ => rfl
  have hn1 : ((C.size : Int) == 1) = false := beq_eq_false_iff_ne.2 (by omega)
  have HSU := hide (fun W => Tryz.strings_shouldUseASCIISet (s.size : Int) W)
  rw [show decide ((8 : Int) < (s.size : Int)) = false from decide_eq_false (by omega)] at HSU
  clear h2 ha hCm h8
  go_enter Tryz.func109, Tryz.ntmps109
  go_wp2_with fail
  refine (unhide HSU _).mono ?_
  rintro e w ⟨rfl, rfl⟩
  go_wp2
  go_loopg [9, 10] s.size (fun g _ _ wx => ∃ i : Nat, i + g = s.size ∧ Hid (wx.heap[w.heap.size]? = some (.stringIter s i)) ∧ Hid (Below w.heap.size w wx) ∧ Hid (Lib.NoAny s.data.toList C.data.toList i))
  case atStart => exact ⟨0, by omega, hide (World.iter_heap w s 0), hide (iterB _ _ _), hide (Lib.NoAny.zero _ _)⟩
  case round =>
    obtain ⟨i, hig, HH, HB, HN⟩ := hrel
    cases gk with
    | zero =>
      obtain rfl : i = s.size := by omega
      have hnx := fun ty => Lib.run_next_end_at (P := Tryz.prog) wr w.heap.size s s.size ty (unhide HH) (by omega)
      go_wp2
      go_ret
      exact ⟨by rw [Lib.indexAny_none (by rw [sizeL]; exact unhide HN)]; rfl, unhide HB⟩
    | succ g =>
      have hi : i < s.size := by omega
      by_cases hlow : (s[i]'hi).toNat < 128
      · have hnx := fun ty => Lib.run_next_ascii_at (P := Tryz.prog) wr w.heap.size s i ty (unhide HH) hi hlow
        have HH1 := hide (Lib.iterAt_heap wr w.heap.size s i (i + 1) (unhide HH))
        have HB1 := hide (iterAtB (unhide HB) (Nat.le_refl _) s (i + 1))
        obtain ⟨x, hx⟩ : ∃ x : UInt8, s[i]'hi = x := ⟨_, rfl⟩
        have hxl : s.data.toList[i]? = some x := by rw [← hx, List.getElem?_eq_getElem (by rw [sizeL]; exact hi)]; rfl
        rw [hx] at hnx hlow
        have HX := hide hxl
        have HRA := hide (fun W => Tryz.strings_IndexRune_ascii C (x.toNat : Int) W (by omega) (by omega))
        rw [show ((x.toNat : Int)).toNat.toUInt8 = x by simp] at HRA
        have hcon := Lib.contains_iff_indexByte C.data.toList x
        clear hxl hx HH HB
        cases hin : C.data.toList.contains x
        · rw [hin] at hcon
          have hlt : ¬ ((0 : Int) ≤ Lib.indexByte C.data.toList x) := of_decide_eq_false hcon.symm
          have HIN := hide hin
          clear hcon hin
          go_wp2_with fail
          refine (unhide HRA _).mono ?_
          rintro e _ ⟨rfl, rfl⟩
          go_wp2
          go_roundg g
          case measure => omega
          case rel => exact ⟨i + 1, by omega, HH1, HB1, hide ((unhide HN).succ (unhide HX) (unhide HIN))⟩
        · rw [hin] at hcon
          have hge : (0 : Int) ≤ Lib.indexByte C.data.toList x := of_decide_eq_true hcon.symm
          have HIN := hide hin
          clear hcon hin
          go_wp2_with fail
          refine (unhide HRA _).mono ?_
          rintro e _ ⟨rfl, rfl⟩
          go_wp2
          go_ret
          exact ⟨by rw [Lib.indexAny_hit (unhide HN) (unhide HX) (unhide HIN)]; rfl, unhide HB1⟩
      · have hhi : 128 ≤ (s[i]'hi).toNat := by omega
        have hnx := fun ty => Lib.run_next_any_at (P := Tryz.prog) wr w.heap.size s i ty (unhide HH) hi
        obtain ⟨d1, d2⟩ := decode_high s i hi hhi
        obtain ⟨b1, b2⟩ := decode_bytes s i hi hhi
        obtain ⟨r, n, hrn⟩ : ∃ r n, Utf8.decode s i = (r, n) := ⟨_, _, rfl⟩
        rw [hrn] at d1 d2 b1 b2
        simp only [hrn] at hnx
        simp only at d1 d2 b1 b2
        have HN1 := hide (noAny_more (unhide HN) b2 (unhide HCM))
        have HH1 := hide (Lib.iterAt_heap wr w.heap.size s i (i + n) (unhide HH))
        have HB1 := hide (iterAtB (unhide HB) (Nat.le_refl _) s (i + n))
        have HRR := hide (unhide HIR (r : Int) (by omega))
        clear hrn b2 HH HB hhi hlow d1 HN
        go_wp2_with fail
        refine (unhide HRR _).mono ?_
        rintro e w2 ⟨rfl, hb2⟩
        have HB2 := hide ((unhide HB1).trans (hb2.mono (unhide HB1).size))
        have HH2 : Hid (w2.heap[w.heap.size]? = some (.stringIter s (i + n))) := hide (by
          rw [hb2.block w.heap.size (Array.getElem?_eq_some_iff.1 (unhide HH1)).1]; exact unhide HH1)
        clear hb2
        go_wp2
        go_roundg (s.size - (i + n))
        case measure => omega
        case rel => exact ⟨i + n, by omega, HH2, HB2, HN1⟩

end Go.Proofs.YtdallfakfhajdaaGreatDoor

/-
  What strings.ContainsAny at line ends, head.isValue, writeField and Write do, over this seat's program.
-/
set_option linter.unusedVariables false
namespace Go.Proofs.YtdallfakfhajdaaGreatDoor
open Go.RowKit Go.Proofs.Hed

theorem indexAny_any (s C : ByteArray) (w : World) (h2 : C.size = 2) (ha : ∀ (j : Nat) (h : j < C.size), (C[j]'h).toNat < 128) (hs : s.size < 4294967281) :
    Calls Tryz.prog 109 #[.string s, .string C] w fun e w' => e = .returned (.int .i64 (Lib.indexAny s.data.toList C.data.toList)) ∧ Below w.heap.size w w' := by
  by_cases h8 : s.size ≤ 8
  · exact indexAny_short s C w h2 ha h8
  · refine (Any.strings_IndexAny_long Tryz.lays153 (zero_of_info (show (Tryz.prog.info? _).map (fun i => (i.zero, i.size)) = some (some (.agg (Array.replicate 256 (.bool false))), 256) by kernel_rfl)).1 (by kernel_rfl) s C w (by omega) (by omega) hs (by omega) (fun j b hb => by
      obtain ⟨hj, rfl⟩ := List.getElem?_eq_some_iff.1 hb
      exact ha j (by rwa [sizeL] at hj))).mono ?_
    rintro e w' ⟨rfl, rfl⟩
    exact ⟨rfl, ((Below.refl _ w).alloc (Nat.le_refl _) _).alloc (by simp) _⟩

theorem any_lf' : ∀ v : List UInt8, 0 ≤ Lib.indexAny v [13, 10] ↔ v.all (fun c => c != 10 && c != 13) = false
  | [] => by simp [Lib.indexAny]
  | c :: r => by
    have ih := any_lf' r
    have hg := Lib.indexAny_ge [13, 10] r
    by_cases h13 : c = 13
    · subst h13; simp [Lib.indexAny]
    · by_cases h10 : c = 10
      · subst h10; simp [Lib.indexAny]
      · have e : Lib.indexAny (c :: r) [13, 10] = if Lib.indexAny r [13, 10] == -1 then -1 else Lib.indexAny r [13, 10] + 1 := by
          simp [Lib.indexAny, h13, h10]
        have hb : (c :: r).all (fun c => c != 10 && c != 13) = r.all (fun c => c != 10 && c != 13) := by
          rw [List.all_cons]
          simp [h13, h10]
        rw [e, hb, ← ih]
        by_cases h : Lib.indexAny r [13, 10] = -1
        · rw [if_pos (by simpa using h), h]
        · rw [if_neg (by simpa using h)]
          omega
theorem any_lf (v : List UInt8) : decide (0 ≤ Lib.indexAny v [13, 10]) = !(v.all (fun c => c != 10 && c != 13)) := by
  have := any_lf' v
  cases h : v.all (fun c => c != 10 && c != 13)
  · rw [decide_eq_true (this.2 h)]; rfl
  · rw [decide_eq_false (fun hh => by rw [this.1 hh] at h; cases h)]; rfl

set_option maxHeartbeats 1000000 in
theorem containsAny_any (s : ByteArray) (w : World) (hs : s.size < 4294967281) :
    Calls Tryz.prog 95 #[.string s, .string ⟨#[13, 10]⟩] w fun e w' => e = .returned (.bool (!(s.data.toList.all (fun c => c != 10 && c != 13)))) ∧ Below w.heap.size w w' := by
  have HI := hide (indexAny_any s ⟨#[13, 10]⟩ w rfl (by decide) hs)
  rw [show (⟨#[13, 10]⟩ : ByteArray).data.toList = [13, 10] from rfl] at HI
  rw [← any_lf]
  generalize Lib.indexAny s.data.toList [13, 10] = i at HI ⊢
  go_enter Tryz.func95, Tryz.ntmps95
  go_wp2_with fail
  refine (unhide HI).mono ?_
  rintro e w1 ⟨rfl, hb⟩
  have HB := hide hb
  clear hb
  go_wp2
  go_ret
  exact ⟨rfl, unhide HB⟩

theorem last_byte (s : ByteArray) (h : 0 < s.size) : s.data.toList.getLast? = some (s[s.size - 1]'(by omega)) := by
  rw [List.getLast?_eq_getElem?, sizeL, List.getElem?_eq_getElem (by rw [sizeL]; omega)]
  rfl

theorem isVl_cons (c x : UInt8) (r : List UInt8) (hl : (c :: r).getLast? = some x) : isVl (c :: r) = ((c :: r).all (fun c => c != 10 && c != 13) && (!isB c && !isB x)) := by
  unfold isVl
  rw [hl, Bool.and_assoc]
theorem isVl_pos (s : ByteArray) (h : 0 < s.size) : isVl s.data.toList = (s.data.toList.all (fun c => c != 10 && c != 13) && (!isB (s[0]'h) && !isB (s[s.size - 1]'(by omega)))) := by
  have hl := last_byte s h
  obtain ⟨t, ht⟩ : ∃ t, s.data.toList = (s[0]'h) :: t := ⟨_, by have := drop_byte s 0 h; rwa [List.drop_zero] at this⟩
  rw [ht] at hl ⊢
  exact isVl_cons _ _ _ hl

set_option maxHeartbeats 1000000 in
theorem isValue_any (s : ByteArray) (w : World) (hs : s.size ≤ 16777216) :
    Calls Tryz.prog 52 #[.string s] w fun e w' => e = .returned (.bool (isVl s.data.toList)) ∧ Below w.heap.size w w' := by
  have HC := hide (containsAny_any s w (by omega))
  by_cases h0 : s.size = 0
  · have hnil : s.data.toList = [] := List.eq_nil_of_length_eq_zero (by rw [sizeL]; exact h0)
    have hemp : s.toList.isEmpty = true := by rw [empty_size]; exact decide_eq_true h0
    rw [hnil] at HC ⊢
    rw [show (!(([] : List UInt8).all (fun c => c != 10 && c != 13))) = false from rfl] at HC
    rw [show isVl [] = true from rfl]
    clear hnil h0
    go_enter Tryz.func52, Tryz.ntmps52
    go_wp2_with fail
    refine (unhide HC).mono ?_
    rintro e w1 ⟨rfl, hb⟩
    have HB := hide hb
    clear hb
    go_wp2
    go_ret
    exact ⟨rfl, unhide HB⟩
  have hpos : 0 < s.size := by omega
  have hemp : s.toList.isEmpty = false := by rw [empty_size]; exact decide_eq_false h0
  rw [isVl_pos s hpos]
  cases hall : s.data.toList.all (fun c => c != 10 && c != 13)
  · rw [hall] at HC
    simp only [Bool.false_and]
    clear hall
    go_enter Tryz.func52, Tryz.ntmps52
    go_wp2_with fail
    refine (unhide HC).mono ?_
    rintro e w1 ⟨rfl, hb⟩
    have HB := hide hb
    clear hb
    go_wp2
    go_ret
    exact ⟨rfl, unhide HB⟩
  rw [hall] at HC
  clear hall
  simp only [Bool.true_and]
  have HL := hide (fun W => isBlank_any (s[s.size - 1]'(by omega)) W)
  have HF := hide (fun W => isBlank_any (s[0]'hpos) W)
  have hp' : (0 : Int) < (s.size : Int) := by omega
  have hb' : (s.size : Int) ≤ 16777216 := by omega
  have hix : ((s.size : Int) - 1).toNat = s.size - 1 := by omega
  cases hf : isB (s[0]'hpos)
  · rw [hf] at HF
    simp only [Bool.not_false, Bool.true_and]
    generalize isB (s[s.size - 1]'(by omega)) = bl at HL ⊢
    go_enter Tryz.func52, Tryz.ntmps52
    go_wp2_with fail
    refine (unhide HC).mono ?_
    rintro e w1 ⟨rfl, hb⟩
    have HB := hide hb
    clear hb
    go_wp2_with fail
    refine (unhide HF _).mono ?_
    rintro e _ ⟨rfl, rfl⟩
    go_wp2_with fail
    refine (unhide HL _).mono ?_
    rintro e _ ⟨rfl, rfl⟩
    go_wp2
    go_ret
    exact ⟨rfl, unhide HB⟩
  · rw [hf] at HF
    simp only [Bool.not_true, Bool.false_and]
    go_enter Tryz.func52, Tryz.ntmps52
    go_wp2_with fail
    refine (unhide HC).mono ?_
    rintro e w1 ⟨rfl, hb⟩
    have HB := hide hb
    clear hb
    go_wp2_with fail
    refine (unhide HF _).mono ?_
    rintro e _ ⟨rfl, rfl⟩
    go_wp2
    go_ret
    exact ⟨rfl, unhide HB⟩

end Go.Proofs.YtdallfakfhajdaaGreatDoor

/-
  What head.writeField and head.Write do, over this seat's program.
-/
set_option linter.unusedVariables false
namespace Go.Proofs.YtdallfakfhajdaaGreatDoor
open Go.RowKit Go.Proofs.Hed

set_option maxHeartbeats 2000000 in
set_option maxRecDepth 100000 in
theorem writeString_o (B b : Nat) (l : List UInt8) (s : ByteArray) (w : World) (h : Lib.IsBuilderF 65 5 B b (Lib.byteCells l) w) (hlen : l.length + s.size ≤ 140737488355328) (hBw : B ≤ w.heap.size) :
    Calls Tryz.prog 57 #[.pointer (some ⟨b, 0, none⟩), .string s] w fun e w' => e = .returned (.tuple #[.int .i64 s.size, .nilIface]) ∧ (Lib.IsBuilderF 65 5 B b (Lib.byteCells (l ++ s.data.toList)) w' ∧ Below B w w' ∧ Lib.OthersKept 5 (some b) w w') := by
  obtain ⟨i0, hi, hz0, hz1, hz2⟩ := info_parts bInfo
  have hll : (Lib.byteCells l).length = l.length := Lib.byteCells_length l
  go_enter Tryz.func57, Tryz.ntmps57
  go_wp2_with (go_at_call 82; refine (copyCheck_k B b (Lib.byteCells l) _ h).mono ?_)
  rintro e w1 ⟨rfl, h1, hb1, hk1⟩
  obtain ⟨hB, v, hbk, hown, hne⟩ := h1
  have c0 : w1.cell? ⟨b, 0, none⟩ = some (.pointer (some ⟨b, 0, none⟩)) := by rw [Lib.cell_of_heap hbk]; rfl
  have c1 : w1.cell? ⟨b, 1, none⟩ = some v := by rw [Lib.cell_of_heap hbk]; rfl
  go_wp2_with (at_builtin; refine Lib.wpList_append_own_stringF _ rfl _ _ 36 9 rfl B 5 i0 Tryz.underlying36 Tryz.underlying9 hi hz0 hz1 hz2 _ _ _ rfl hown s rfl ?c3 ?c4 ?c5 ?_)
  case c3 => unfold maxLen; omega
  case c4 => omega
  case c5 => have := hb1.size; omega
  intro v' w2 hown' hgrow _
  have hlt : b < w1.heap.size := by
    rcases Nat.lt_or_ge b w1.heap.size with h' | h'
    · exact h'
    · simp [Array.getElem?_eq_none h'] at hbk
  have hb2 : w2.heap[b]? = some (.cells #[.pointer (some ⟨b, 0, none⟩), v] 65 (0, 0)) := by
    rw [hgrow.block b hlt (fun e => hne e.symm)]
    exact hbk
  have d0 : w2.cell? ⟨b, 0, none⟩ = some (.pointer (some ⟨b, 0, none⟩)) := by rw [Lib.cell_of_heap hb2]; rfl
  have d1 : w2.cell? ⟨b, 1, none⟩ = some v := by rw [Lib.cell_of_heap hb2]; rfl
  have f1 : w2.frozen? ⟨b, 1, none⟩ = false := Lib.frozen_of_heap hb2 1
  obtain ⟨ao, n', cap, rfl⟩ : ∃ ao n' cap, v' = .slice ao n' cap := by
    rcases hown'.2 with ⟨hv, _⟩ | ⟨g, cap, cur, fz, hv, _⟩
    · exact ⟨_, _, _, hv⟩
    · exact ⟨_, _, _, hv⟩
  go_wp2
  go_ret2
  refine ⟨rfl, Or.inr ?_, ?_, (hk1.grown hgrow (Lib.ownsRowF_kind hown)).setCell ⟨b, 1, none⟩ rfl _⟩
  · have := Lib.BuilderAtF.put (T := 65) (e := 5) hB hb2 (bs' := Lib.byteCells l ++ Lib.strCells s) (by simpa [Lib.strCells_length, hll] using hown') (by decide)
    rw [strCells_eq, ← Lib.byteCells_append] at this
    exact this
  · exact (hb1.grown hgrow (by have := hb1.size; omega) (fun k hk => (hown.lt k hk).1)).setCell (p := ⟨b, 1, none⟩) hB _

/-- A field's box beside a builder at work. -/
structure WrF (u W : World) (k : Nat) (x y : ByteArray) (l : List UInt8) : Prop where
  wr : Wr u W l
  box : Blk W k 39 #[.string x, .string y]
  ne : k ≠ u.heap.size

theorem keep_blk {u W W' : World} {k : Nat} {x y : ByteArray} (h : Blk W k 39 #[.string x, .string y]) (ne : k ≠ u.heap.size) (ho : Lib.OthersKept 5 (some u.heap.size) W W') : Blk W' k 39 #[.string x, .string y] :=
  ho k _ h (by simpa using ne) (fun c fz e => by simp at e)

theorem fByte {u W : World} {k : Nat} {x y : ByteArray} {l : List UInt8} (h : WrF u W k x y l) (c : UInt8) (z : Int) (hz : z = (c.toNat : Int)) (hl : l.length ≤ 1099511627776) :
    Calls Tryz.prog 39 #[.pointer (some ⟨u.heap.size, 0, none⟩), .int .u8 z] W fun e w' => e = .returned .nilIface ∧ WrF u w' k x y (l ++ [c]) := by
  refine (writeByte_k u.heap.size u.heap.size (Lib.byteCells l) z W h.wr.isb (by rw [Lib.byteCells_length]; omega) h.wr.bel.size).mono ?_
  rintro e w' ⟨rfl, h1, h2, h3⟩
  refine ⟨rfl, ⟨?_, h.wr.bel.trans h2⟩, keep_blk h.box h.ne h3, h.ne⟩
  rw [← byteCells_snoc l c z hz]
  exact Or.inr h1

theorem fStr {u W : World} {k : Nat} {x y : ByteArray} {l : List UInt8} (h : WrF u W k x y l) (s : ByteArray) (hl : l.length + s.size ≤ 1099511627776) :
    Calls Tryz.prog 57 #[.pointer (some ⟨u.heap.size, 0, none⟩), .string s] W fun e w' => e = .returned (.tuple #[.int .i64 s.size, .nilIface]) ∧ WrF u w' k x y (l ++ s.data.toList) := by
  refine (writeString_o u.heap.size u.heap.size l s W h.wr.isb (by omega) h.wr.bel.size).mono ?_
  rintro e w' ⟨rfl, h1, h2, h3⟩
  exact ⟨rfl, ⟨h1, h.wr.bel.trans h2⟩, keep_blk h.box h.ne h3, h.ne⟩

theorem WrF.c0 {u W : World} {k : Nat} {x y : ByteArray} {l : List UInt8} (h : WrF u W k x y l) : W.cell? ⟨k, 0, none⟩ = some (.string x) := (Blk.cell h.box 0).trans rfl
theorem WrF.c1 {u W : World} {k : Nat} {x y : ByteArray} {l : List UInt8} (h : WrF u W k x y l) : W.cell? ⟨k, 1, none⟩ = some (.string y) := (Blk.cell h.box 1).trans rfl

theorem Wr.lt {u W : World} {l : List UInt8} (h : Wr u W l) : u.heap.size < W.heap.size := by
  rcases h.isb with ⟨_, v, hbk, _⟩ | ⟨_, v, hbk, _⟩
  · exact (Array.getElem?_eq_some_iff.1 hbk).1
  · exact (Array.getElem?_eq_some_iff.1 hbk).1

set_option maxHeartbeats 1000000 in
theorem wField {u W : World} {l : List UInt8} (h : Wr u W l) (x y : ByteArray) (hx : x.size ≤ 16777216) (hy : y.size ≤ 16777216) (hl : l.length ≤ 549755813888) :
    Calls Tryz.prog 54 #[.pointer (some ⟨u.heap.size, 0, none⟩), .agg #[.string x, .string y]] W fun e w' => e = .returned (.tuple #[]) ∧ Wr u w' (l ++ fieldL [10] (x.data.toList, y.data.toList)) := by
  have hA : Below W.heap.size W (W.alloc (.cells #[.string x, .string y] 39)) := (Below.refl _ W).alloc (Nat.le_refl _) _
  have HW := hide (show WrF u (W.alloc (.cells #[.string x, .string y] 39)) W.heap.size x y l from ⟨h.below hA, Blk.new W _ _, by have := h.lt; omega⟩)
  have hsx := sizeL x
  have hsy := sizeL y
  have HSZ := hide (And.intro hsx hsy)
  clear hA h hsx hsy
  have c0 := (unhide HW).c0
  have hfin : fieldL [10] (x.data.toList, y.data.toList) = x.data.toList ++ [58] ++ (if y.data.toList = [] then [] else 32 :: y.data.toList) ++ [10] := rfl
  by_cases h0 : y.size = 0
  · have hnil : y.data.toList = [] := List.eq_nil_of_length_eq_zero (by rw [sizeL]; exact h0)
    have hemp : y.toList.isEmpty = true := by rw [empty_size]; exact decide_eq_true h0
    rw [hnil, if_pos rfl] at hfin
    rw [hnil]
    have HFIN := hide hfin
    have HNIL := hide hnil
    clear hfin hnil h0
    go_enter Tryz.func54, Tryz.ntmps54
    go_wp2_with fail
    generalize W.alloc (.cells #[.string x, .string y] 39) = W0 at HW c0 ⊢
    refine (fStr (unhide HW) x (by omega)).mono ?_
    rintro e W1 ⟨rfl, h⟩
    have HW1 := hide h
    clear h HW c0
    go_wp2_with fail
    refine (fByte (unhide HW1) 58 58 rfl (by rw [List.length_append, sizeL]; omega)).mono ?_
    rintro e W2 ⟨rfl, h⟩
    have c1 := h.c1
    have HW2 := hide h
    clear h HW1
    go_wp2_with fail
    refine (fStr (unhide HW2) y (by rw [List.length_append, List.length_append, sizeL]; simp; omega)).mono ?_
    rintro e W3 ⟨rfl, h⟩
    have HW3 := hide h
    clear h HW2 c1
    go_wp2_with fail
    refine (fByte (unhide HW3) 10 10 rfl (by rw [unhide HNIL]; simp only [List.length_append, sizeL, List.length_cons, List.length_nil]; omega)).mono ?_
    rintro e W4 ⟨rfl, h⟩
    have HW4 := hide h.wr
    clear h HW3
    go_wp2
    go_end0
    refine ⟨rfl, ?_⟩
    have := unhide HW4
    rw [unhide HFIN]
    rw [unhide HNIL] at this
    simpa using this
  · have hne : ¬ y.data.toList = [] := by
      intro e
      have := sizeL y
      rw [e] at this
      simp at this
      omega
    have hemp : y.toList.isEmpty = false := by rw [empty_size]; exact decide_eq_false h0
    rw [if_neg hne] at hfin
    have HFIN := hide hfin
    clear hfin hne h0
    go_enter Tryz.func54, Tryz.ntmps54
    go_wp2_with fail
    generalize W.alloc (.cells #[.string x, .string y] 39) = W0 at HW c0 ⊢
    refine (fStr (unhide HW) x (by omega)).mono ?_
    rintro e W1 ⟨rfl, h⟩
    have HW1 := hide h
    clear h HW c0
    go_wp2_with fail
    refine (fByte (unhide HW1) 58 58 rfl (by rw [List.length_append, sizeL]; omega)).mono ?_
    rintro e W2 ⟨rfl, h⟩
    have c1 := h.c1
    have HW2 := hide h
    clear h HW1
    go_wp2_with fail
    refine (fByte (unhide HW2) 32 32 rfl (by rw [List.length_append, List.length_append, sizeL]; simp; omega)).mono ?_
    rintro e W2 ⟨rfl, h⟩
    have HW2b := hide h
    have c1 := h.c1
    clear h HW2
    go_wp2_with fail
    refine (fStr (unhide HW2b) y (by simp only [List.length_append, sizeL, List.length_cons, List.length_nil]; omega)).mono ?_
    rintro e W3 ⟨rfl, h⟩
    have HW3 := hide h
    clear h HW2b c1
    go_wp2_with fail
    refine (fByte (unhide HW3) 10 10 rfl (by simp only [List.length_append, sizeL, List.length_cons, List.length_nil]; omega)).mono ?_
    rintro e W4 ⟨rfl, h⟩
    have HW4 := hide h.wr
    clear h HW3
    go_wp2
    go_end0
    refine ⟨rfl, ?_⟩
    have := unhide HW4
    rw [unhide HFIN]
    simpa using this

end Go.Proofs.YtdallfakfhajdaaGreatDoor

/-
  What head.Write does, over this seat's program.
-/
set_option linter.unusedVariables false
namespace Go.Proofs.YtdallfakfhajdaaGreatDoor
open Go.RowKit Go.Proofs.Hed

/-- How many bytes some fields' lines have at most. -/
def sumF : List Fld → Nat
  | [] => 0
  | f :: r => f.1.size + f.2.size + 3 + sumF r
theorem sumF_append (a b : List Fld) : sumF (a ++ b) = sumF a + sumF b := by
  induction a with
  | nil => simp [sumF]
  | cons f r ih => simp only [List.cons_append, sumF, ih]; omega
theorem sumF_le (l : List Fld) (h : ∀ f ∈ l, Fits f) : sumF l ≤ l.length * 33554435 := by
  induction l with
  | nil => simp [sumF]
  | cons f r ih =>
    have h1 := h f (by simp)
    have h2 := ih (fun g hg => h g (by simp [hg]))
    have := h1.1
    have := h1.2
    simp only [sumF, List.length_cons]
    omega
theorem field_len (f : Fld) : (fieldL [10] (lst f)).length ≤ f.1.size + f.2.size + 3 := by
  have h1 := sizeL f.1
  have h2 := sizeL f.2
  unfold fieldL lst
  simp only [List.length_append, List.length_cons, List.length_nil]
  split
  · simp; omega
  · simp; omega
theorem flat_len (l : List Fld) : ((l.map lst).map (fieldL [10])).flatten.length ≤ sumF l := by
  induction l with
  | nil => simp [sumF]
  | cons f r ih =>
    have := field_len f
    simp only [List.map_cons, List.flatten_cons, List.length_append, sumF]
    omega
theorem take_next (l : List Fld) (k : Nat) (h : k < l.length) : l.take (k + 1) = l.take k ++ [l[k]] := List.take_succ_eq_append_getElem h

set_option maxHeartbeats 4000000 in
set_option maxRecDepth 100000 in
/-- head.Write writes the header's text, or tells what is wrong. -/
theorem hwrite_any (v : Value) (l : List Fld) (w : World) (h : RowF w v l) :
    Calls Tryz.prog 22 #[v] w fun e w' => e = .returned (.tuple #[.string (bts (writeR (l.map lst)).1), .int .i64 (writeR (l.map lst)).2]) ∧ Below w.heap.size w w' := by
  obtain ⟨a, cap, rfl, hl, hfit, hc⟩ := h
  have HC := hide hc
  have HF := hide hfit
  clear hc hfit
  go_enter Tryz.func22, Tryz.ntmps22
  go_wp2
  go_loopw [4, 12] (fun s z wr => ∃ k : Nat, z = .int .i64 k ∧ k ≤ l.length ∧ s = .int .i64 ((1 + sumF (l.take k) : Nat) : Int) ∧ Hid ((l.take k).all (fun f => okF (lst f)) = true) ∧ Hid (Below w.heap.size w wr)) (fun _ z _ => l.length - (intOf z).toNat)
  case atStart => exact ⟨0, rfl, Nat.zero_le _, by simp [sumF], hide (by simp), hide (Below.refl _ _)⟩
  case round =>
    obtain ⟨k, rfl, hk, rfl, HA, HB⟩ := hrel
    have hsb := sumF_le (l.take k) (fun f hf => unhide HF f (List.mem_of_mem_take hf))
    have htl : (l.take k).length = k := by rw [List.length_take]; omega
    rw [htl] at hsb
    have HSB := hide (And.intro hsb hl)
    by_cases hlt : k < l.length
    · have hlt1 : (k : Int) < (l.length : Int) := by omega
      have hx : ∃ b off, a = some ⟨b, off, none⟩ ∧ b < w.heap.size ∧ wr.cell? ⟨b, off + k * 2, none⟩ = some (.string l[k].1) ∧ wr.cell? ⟨b, off + k * 2 + 1, none⟩ = some (.string l[k].2) := by
        rcases unhide HC with h | ⟨b, off, ha, hb, hcj⟩
        · subst h; simp at hlt
        · obtain ⟨c0, c1⟩ := row_cells hcj hlt
          exact ⟨b, off, ha, hb, ((unhide HB).cell (p := ⟨b, off + k * 2, none⟩) hb).trans c0, ((unhide HB).cell (p := ⟨b, off + k * 2 + 1, none⟩) hb).trans c1⟩
      obtain ⟨b, off, rfl, hb, c0, c1⟩ := hx
      have hzr := (unhide HB).size
      have hf := unhide HF l[k] (List.getElem_mem hlt)
      have HNM := hide (fun W => isName_any l[k].1 W (by have := hf.1; omega))
      have HVL := hide (fun W => isValue_any l[k].2 W hf.2)
      have HBA := hide ((unhide HB).alloc hzr (.cells #[.string l[k].1, .string l[k].2] 39))
      have hall : (l.take (k + 1)).all (fun f => okF (lst f)) = okF (lst l[k]) := by
        rw [take_next l k hlt, List.all_append, unhide HA]
        simp
      have hok : okF (lst l[k]) = (isNm l[k].1.data.toList && isVl l[k].2.data.toList) := rfl
      have hsum : 1 + sumF (l.take (k + 1)) = 1 + sumF (l.take k) + (l[k].1.size + l[k].2.size + 3) := by
        rw [take_next l k hlt, sumF_append]
        simp only [sumF]
        omega
      have hbad : okF (lst l[k]) = false → writeR (l.map lst) = ([], 2) := by
        intro hb
        unfold writeR
        rw [if_neg]
        intro hh
        rw [List.all_eq_true] at hh
        have := hh (lst l[k]) (List.mem_map_of_mem (List.getElem_mem hlt))
        rw [hb] at this
        cases this
      have HBAD := hide hbad
      have HALL := hide hall
      have HSUM := hide hsum
      have HOK := hide hok
      have hf1 := hf.1
      have hf2 := hf.2
      generalize hX : l[k].1 = x at c0 HNM HBA HOK HSUM hf1
      generalize hY : l[k].2 = y at c1 HVL HBA HOK HSUM hf2
      clear hbad hall hsum hok hf hsb htl hX hY HA HB hzr
      have hsz : (sumF (l.take k) : Int) ≤ 150000000000000 := by have := (unhide HSB).1; have := (unhide HSB).2; omega
      generalize sumF (l.take k) = S at HSUM hsz HSB
      have hszp : ((1 + S : Nat) : Int) ≤ 150000000000001 := by omega
      generalize hQ : ((1 + S : Nat) : Int) = Q at hszp
      have HQ := hide hQ
      have hq0 : 0 ≤ Q := by omega
      clear hQ hsz
      cases hn : isNm x.data.toList
      · rw [hn] at HNM HOK
        have HW2 : Hid (writeR (l.map lst) = ([], 2)) := hide (unhide HBAD (unhide HOK))
        clear hn HVL HALL HSUM HBAD HOK
        go_wp2_with fail
        refine (unhide HNM _).mono ?_
        rintro e _ ⟨rfl, rfl⟩
        go_wp2
        go_ret2
        exact ⟨by rw [unhide HW2]; rfl, unhide HBA⟩
      · rw [hn] at HNM HOK
        cases hv : isVl y.data.toList
        · rw [hv] at HVL HOK
          have HW2 : Hid (writeR (l.map lst) = ([], 2)) := hide (unhide HBAD (unhide HOK))
          clear hn hv HALL HSUM HBAD HOK
          go_wp2_with fail
          refine (unhide HNM _).mono ?_
          rintro e _ ⟨rfl, rfl⟩
          go_wp2_with fail
          refine (unhide HVL _).mono ?_
          rintro e w3 ⟨rfl, hb3⟩
          have HB3 := hide ((unhide HBA).trans (hb3.mono (unhide HBA).size))
          clear hb3
          go_wp2
          go_ret2
          exact ⟨by rw [unhide HW2]; rfl, unhide HB3⟩
        · rw [hv] at HVL HOK
          have HA1 : Hid ((l.take (k + 1)).all (fun f => okF (lst f)) = true) := hide (by rw [unhide HALL, unhide HOK]; rfl)
          have HBX := hide (Blk.new wr 39 #[.string x, .string y])
          clear hn hv HALL HBAD HOK
          go_wp2_with fail
          refine (unhide HNM _).mono ?_
          rintro e _ ⟨rfl, rfl⟩
          go_wp2_with fail
          refine (unhide HVL _).mono ?_
          rintro e w3 ⟨rfl, hb3⟩
          have HB3 := hide ((unhide HBA).trans (hb3.mono (unhide HBA).size))
          have hbx := (unhide HBX).below hb3
          have k0 : w3.cell? ⟨wr.heap.size, 0, none⟩ = some (.string x) := (Blk.cell hbx 0).trans rfl
          have k1 : w3.cell? ⟨wr.heap.size, 1, none⟩ = some (.string y) := (Blk.cell hbx 1).trans rfl
          have hf1' : (x.size : Int) ≤ 16777216 := by omega
          have hf2' : (y.size : Int) ≤ 16777216 := by omega
          clear hb3 hbx HBX
          go_wp2
          exact ⟨⟨k + 1, by go_num, by omega, by rw [unhide HSUM]; have := unhide HQ; congr 1; omega, HA1, HB3⟩, by simp [intOf]; omega⟩
    · have hlt1 : ¬ (k : Int) < (l.length : Int) := by omega
      obtain rfl : k = l.length := by omega
      rw [List.take_length] at HA HSB
      rw [List.take_length]
      have hokall : (l.map lst).all okF = true := by rw [List.all_map]; exact unhide HA
      have hsz : (sumF l : Int) ≤ 150000000000000 := by have := (unhide HSB).1; have := (unhide HSB).2; omega
      by_cases hm : l.length ≤ 1024
      · have hwr : writeR (l.map lst) = (textL [10] (l.map lst), 0) := by
          unfold writeR
          rw [if_pos hokall, if_pos (by rw [List.length_map]; exact hm)]
        have hm' : ¬ (1024 : Int) < (l.length : Int) := by omega
        have HWR := hide hwr
        obtain ⟨u0, hu0⟩ : ∃ u0, u0 = wr := ⟨_, rfl⟩
        subst hu0
        have HGR := hide (grow_new (1 + sumF l) u0 (by omega))
        have hsl : sumF l ≤ 34359741440 := by have := (unhide HSB).1; omega
        have HSL := hide hsl
        clear hwr hokall hsz HSB htl hsb
        go_wp2_with fail
        refine (unhide HGR).mono ?_
        rintro e w2 ⟨rfl, g1, g2, _⟩
        have HWB : Hid (Wr u0 w2 []) := hide ⟨g1, g2⟩
        clear g1 g2 HGR
        go_wp2
        go_loopw [44] (fun z wx => ∃ j : Nat, z = .int .i64 j ∧ j ≤ l.length ∧ Hid (Wr u0 wx (((l.take j).map lst).map (fieldL [10])).flatten)) (fun z _ => l.length - (intOf z).toNat)
        case atStart => exact ⟨0, rfl, Nat.zero_le _, HWB⟩
        case round =>
          obtain ⟨j, rfl, hj, HW⟩ := hrel
          by_cases hlt : j < l.length
          · have hlt2 : (j : Int) < (l.length : Int) := by omega
            have hx : ∃ b off, a = some ⟨b, off, none⟩ ∧ b < w.heap.size ∧ wr.cell? ⟨b, off + j * 2, none⟩ = some (.string l[j].1) ∧ wr.cell? ⟨b, off + j * 2 + 1, none⟩ = some (.string l[j].2) := by
              rcases unhide HC with h | ⟨b, off, ha, hb, hcj⟩
              · subst h; simp at hlt
              · obtain ⟨c0, c1⟩ := row_cells hcj hlt
                have hbb : Below w.heap.size w wr := (unhide HB).trans ((unhide HW).bel.mono (unhide HB).size)
                exact ⟨b, off, ha, hb, (hbb.cell (p := ⟨b, off + j * 2, none⟩) hb).trans c0, (hbb.cell (p := ⟨b, off + j * 2 + 1, none⟩) hb).trans c1⟩
            obtain ⟨b, off, rfl, hb, c0, c1⟩ := hx
            have hf := unhide HF l[j] (List.getElem_mem hlt)
            have hA : Below wr.heap.size wr (wr.alloc (.cells #[.string l[j].1, .string l[j].2] 39)) := (Below.refl _ _).alloc (Nat.le_refl _) _
            have hlen : ((((l.take j).map lst).map (fieldL [10])).flatten).length ≤ 549755813888 := by
              have h1 := flat_len (l.take j)
              have h2 := sumF_append (l.take j) (l.drop j)
              rw [List.take_append_drop] at h2
              have := unhide HSL
              omega
            have HFD := hide (wField ((unhide HW).below hA) l[j].1 l[j].2 hf.1 hf.2 hlen)
            have hnx : (((l.take (j + 1)).map lst).map (fieldL [10])).flatten = (((l.take j).map lst).map (fieldL [10])).flatten ++ fieldL [10] (l[j].1.data.toList, l[j].2.data.toList) := by
              rw [take_next l j hlt, List.map_append, List.map_append, List.flatten_append]
              simp only [List.map_cons, List.map_nil, List.flatten_cons, List.flatten_nil, List.append_nil]
              rfl
            rw [← hnx] at HFD
            have HBX := hide (Blk.new wr 39 #[.string l[j].1, .string l[j].2])
            generalize l[j].1 = x at c0 HFD HBX
            generalize l[j].2 = y at c1 HFD HBX
            clear hA hlen hf hnx HW
            have d0 : (wr.alloc (.cells #[.string x, .string y] 39)).cell? ⟨wr.heap.size, 0, none⟩ = some (.string x) := (Blk.cell (unhide HBX) 0).trans rfl
            have d1 : (wr.alloc (.cells #[.string x, .string y] 39)).cell? ⟨wr.heap.size, 1, none⟩ = some (.string y) := (Blk.cell (unhide HBX) 1).trans rfl
            go_wp2_with fail
            refine (unhide HFD).mono ?_
            rintro e w3 ⟨rfl, h3⟩
            have HW3 := hide h3
            clear h3 HFD HBX
            go_wp2
            exact ⟨⟨j + 1, by go_num, by omega, HW3⟩, by simp [intOf]; omega⟩
          · have hlt2 : ¬ (j : Int) < (l.length : Int) := by omega
            obtain rfl : j = l.length := by omega
            rw [List.take_length] at HW
            have hlen : ((((l.map lst).map (fieldL [10])).flatten).length ≤ 549755813888) := by
              have h1 := flat_len l
              have := unhide HSL
              omega
            have HBY := hide (wByte (unhide HW) 10 10 rfl (by omega))
            rw [show ((l.map lst).map (fieldL [10])).flatten ++ [10] = textL [10] (l.map lst) from rfl] at HBY
            clear HW hlen
            go_wp2_with fail
            refine (unhide HBY).mono ?_
            rintro e w3 ⟨rfl, h3⟩
            have HS := hide (Tryz.Builder_String_any_f _ _ _ w3 h3.isb h3.bel.size)
            have HB3 := hide ((unhide HB).trans (h3.bel.mono (unhide HB).size))
            have HZ := hide h3.bel.size
            clear h3 HBY
            go_wp2_with fail
            refine (unhide HS).mono ?_
            rintro e w4 ⟨rfl, _, hb4⟩
            have HB4 := hide ((unhide HB3).trans (hb4.mono (unhide HB).size))
            clear hb4 HS
            go_wp2
            go_ret2
            exact ⟨by rw [unhide HWR]; rfl, unhide HB4⟩
      · have hwr : writeR (l.map lst) = ([], 15) := by
          unfold writeR
          rw [if_pos hokall, if_neg (by rw [List.length_map]; exact hm)]
        have hm' : (1024 : Int) < (l.length : Int) := by omega
        have HWR := hide hwr
        clear hwr hokall HSB
        go_wp2
        go_ret2
        exact ⟨by rw [unhide HWR]; rfl, unhide HB⟩

end Go.Proofs.YtdallfakfhajdaaGreatDoor

/-
  What missiveref08.Same does, and append of fields, over this seat's program.
-/
set_option linter.unusedVariables false
namespace Go.Proofs.YtdallfakfhajdaaGreatDoor
open Go.RowKit Go.Proofs.Hed

theorem takeF_next {l r : List Fld} {k : Nat} (hl : k < l.length) (hr : k < r.length) : l.take (k + 1) = r.take (k + 1) ↔ l.take k = r.take k ∧ l[k] = r[k] := by
  rw [List.take_succ_eq_append_getElem hl, List.take_succ_eq_append_getElem hr]
  constructor
  · intro h
    have := List.append_inj' h rfl
    exact ⟨this.1, by simpa using this.2⟩
  · rintro ⟨h1, h2⟩
    rw [h1, h2]

theorem add_offF (b off j : Nat) : Addr.add ⟨b, off, none⟩ j = ⟨b, off + j, none⟩ := by
  unfold Addr.add
  by_cases h0 : j = 0
  · simp [h0]
  · simp [h0]

/-- The run of an append of fields. -/
theorem run_append_rowF (w : World) (B : Nat) (v : Value) (ad : Addr) (cap : Nat) (k l : List Fld) (ty : TypeId) (hown : w.ownsRow B 39 2 v k.length (flatF k)) (hx : RowF w (.slice (some ad) l.length cap) l) (hkl : k.length + l.length ≤ 4194304) (hB : B ≤ w.heap.size) :
    ∃ v' w', (Builtin.append_ #[40, 40] ty #[v, .slice (some ad) l.length cap]).run Tryz.prog w = .ok v' w' ∧ w'.ownsRow B 39 2 v' (k ++ l).length (flatF (k ++ l)) ∧ Below B w w' := by
  obtain ⟨i0, hi, hz0, hz1, hz2⟩ := info_parts fldInfo
  obtain ⟨a, cap', hv, hlen, hfit, hc⟩ := hx
  have hnews : ∀ j u, (flatF l)[j]? = some u → w.cell? (ad.add j) = some u := by
    intro j u hj
    rcases hc with hc | ⟨b, off, ha, hlt, hc⟩
    · subst hc; simp [flatF] at hj
    · have : some ad = a := by injection hv
      rw [ha] at this
      obtain rfl := Option.some.inj this
      rw [add_offF]
      exact hc j u hj
  obtain ⟨v', w', hrun, h2, h3, h4⟩ := run_append_own (P := Tryz.prog) w B 40 ty 39 i0 (.agg #[.string ByteArray.empty, .string ByteArray.empty]) 2 32 Tryz.underlying40 hi hz0 hz1 hz2 rfl (by decide) v k.length (flatF k) hown ad l.length cap (flatF l) (flatF_length l) hnews (by
    intro u hu
    unfold flatF at hu
    obtain ⟨f, _, hf⟩ := List.mem_flatMap.1 hu
    simp only [cellsF, List.mem_cons, List.not_mem_nil, or_false] at hf
    rcases hf with rfl | rfl <;> rfl) (by unfold maxLen; omega) (by omega) hB
  refine ⟨v', w', hrun, by rw [List.length_append, flatF_append]; exact h2, ?_⟩
  refine ⟨h3.os, h3.tape, h3.output, h3.size, fun i hi' => h3.block i (by omega) ?_⟩
  rcases hown.2 with ⟨rfl, _⟩ | ⟨g, cap, cur, rfl, hg, _⟩
  · simp [Value.ownBlock]
  · simp [Value.ownBlock]; omega

/-- An append whose run is known, guarded or not. -/
theorem wpList_append_runF {P : Program} {w w' : World} {v v' xv : Value} {ty : TypeId} {ops : Array Oper} {rest : List Oper} {o : Oper} {a : Act} {Q : Exit → Act → World → Prop} (hw : Region.wanted o (yielded ops a.tmps) = true) (s x : Operand) (t : TypeId)
    (ho : o.op = .call { callee := .builtin .append, args := #[s, x], argTypes := #[t, t] }) (hty : o.type = ty) (hs : a.eval s = v) (hx : a.eval x = xv)
    (hrun : (Builtin.append_ #[t, t] ty #[v, xv]).run P w = .ok v' w')
    (h : wpList P ops Q rest (a.put o.dst v') w') : wpList P ops Q (o :: rest) a w := by
  refine wpList_step fun K hK => ?_
  rw [if_pos hw]
  subst hty
  unfold Oper.wp
  simp [execOp, ho, resolve, invoke, builtin, hs, hx, hrun, Result.andThen]
  exact hK _ _ h
theorem own_emptyF (w : World) : (w.alloc (.cells #[] 39)).ownsRow w.heap.size 39 2 (.slice (some ⟨w.heap.size, 0, none⟩) 0 0) ([] : List Fld).length (flatF []) :=
  World.ownsRow_lit w #[] 0 (Nat.le_refl _) (by unfold maxLen; omega) rfl

end Go.Proofs.YtdallfakfhajdaaGreatDoor

/-
  The walk of missivelaw08.lives, over this seat's program.
-/
set_option linter.unusedVariables false
namespace Go.Proofs.YtdallfakfhajdaaGreatDoor
open Go.RowKit Go.Proofs.Hed

/-- Fields of bytes. -/
def fld (p : List UInt8 × List UInt8) : Fld := (bts p.1, bts p.2)
theorem fld_lst (f : Fld) : fld (lst f) = f := by
  obtain ⟨a, b⟩ := f
  simp only [fld, lst, bts_toList]
theorem lst_fld (p : List UInt8 × List UInt8) : lst (fld p) = p := by
  obtain ⟨a, b⟩ := p
  simp only [fld, lst, toList_bts]
theorem flds_of {l : List Fld} {L : List (List UInt8 × List UInt8)} (h : l.map lst = L) : l = L.map fld := by
  rw [← h, List.map_map]
  conv => lhs; rw [← List.map_id l]
  apply List.map_congr_left
  intro f _
  exact (fld_lst f).symm
theorem map_fld (L : List (List UInt8 × List UInt8)) : (L.map fld).map lst = L := by
  rw [List.map_map]
  conv => rhs; rw [← List.map_id L]
  apply List.map_congr_left
  intro f _
  exact lst_fld f

/-- A literal's fields. -/
theorem rowF_lit (w : World) (l : List Fld) (cs : Array Value) (hcs : cs.toList = flatF l) (hl : l.length ≤ 4194304) (hf : ∀ f ∈ l, Fits f) : RowF (w.alloc (.cells cs 39)) (.slice (some ⟨w.heap.size, 0, none⟩) l.length l.length) l := by
  refine ⟨_, _, rfl, hl, hf, .inr ⟨w.heap.size, 0, rfl, by simp, fun j u hj => ?_⟩⟩
  rw [Nat.zero_add, World.cell?_alloc_at _ _ _ _ (by simp), ← Array.getElem?_toList, hcs]
  exact hj
theorem rowS_lit (w : World) (l : List ByteArray) (cs : Array Value) (hcs : cs.toList = l.map Value.string) (hl : l.length ≤ 9223372036854775807) (hn : ∀ s ∈ l, s.size ≤ 9223372036854775807) : RowS (w.alloc (.cells cs 9)) (.slice (some ⟨w.heap.size, 0, none⟩) l.length l.length) l := by
  refine ⟨_, _, rfl, hl, hn, .inr ⟨w.heap.size, 0, rfl, by simp, fun j hj => ?_⟩⟩
  rw [Nat.zero_add, World.cell?_alloc_at _ _ _ _ (by simp), ← Array.getElem?_toList, hcs, List.getElem?_map, List.getElem?_eq_getElem hj]
  rfl

def livesF : List (List UInt8 × List UInt8) := [([65], [98, 32, 99]), ([88], [121])]

end Go.Proofs.YtdallfakfhajdaaGreatDoor

/-
  The walk of missivelaw08.HeadBack, over this seat's program.
-/
set_option linter.unusedVariables false
namespace Go.Proofs.YtdallfakfhajdaaGreatDoor
open Go.RowKit Go.Proofs.Hed

/-- What is written, is parsed. -/
theorem write_ok {L : List (List UInt8 × List UInt8)} (h : (writeR L).2 = 0) : L.all okF = true ∧ L.length ≤ 1024 ∧ (writeR L).1 = textL [10] L := by
  unfold writeR at *
  split at h
  · rename_i h1
    split at h
    · rename_i h2
      rw [if_pos h1, if_pos h2]
      exact ⟨h1, h2, rfl⟩
    · cases h
  · cases h
theorem write_not {L : List (List UInt8 × List UInt8)} (h : (writeR L).2 ≠ 0) : (writeR L).1 = [] := by
  unfold writeR at *
  split at h
  · split at h
    · exact absurd rfl h
    · rename_i h1 h2
      rw [if_pos h1, if_neg h2]
  · rename_i h1
    rw [if_neg h1]
theorem flat_le (l : List Fld) : (textL [10] (l.map lst)).length ≤ sumF l + 1 := by
  have := flat_len l
  unfold textL
  simp only [List.length_append, List.length_cons, List.length_nil]
  omega
theorem back_flds {l l' : List Fld} (h : l'.map lst = (l.map lst)) : l' = l := by
  rw [flds_of h, ← flds_of (rfl : l.map lst = l.map lst)]

/-- Bytes that are parsed into fields are no fewer than these. -/
theorem parseF_bulk : ∀ (f : Nat) (s : List UInt8), ((parseF f s).1.map (fun p => p.1.length + p.2.length)).sum ≤ s.length
  | 0, _ => by simp [parseF]
  | f + 1, s => by
    have h1 := lineN_le s
    have h0 := lineOf_len s
    simp only [parseF]
    split
    · simp
    · split
      · simp
      · rename_i n v hc
        split
        · have h2 := parseF_bulk f (s.drop (lineN s + (contL (s.drop (lineN s))).2))
          have h3 := contL_le (s.drop (lineN s))
          have h4 := contL_len (s.drop (lineN s))
          have h5 := colon_len hc
          have h6 := trimL_len (v ++ (contL (s.drop (lineN s))).1)
          rw [List.length_append] at h6
          rw [List.length_drop] at h2 h3
          simp only [List.map_cons, List.sum_cons]
          omega
        · simp
theorem take_sum (f : List UInt8 × List UInt8 → Nat) (n : Nat) : ∀ L : List (List UInt8 × List UInt8), ((L.take n).map f).sum ≤ (L.map f).sum := by
  intro L
  induction L generalizing n with
  | nil => simp
  | cons p r ih =>
    cases n with
    | zero => simp
    | succ n =>
      have := ih n
      simp only [List.take_succ_cons, List.map_cons, List.sum_cons]
      omega
theorem sumF_of (l : List Fld) : sumF l = ((l.map lst).map (fun p => p.1.length + p.2.length)).sum + l.length * 3 := by
  induction l with
  | nil => rfl
  | cons f r ih =>
    have h1 := sizeL f.1
    have h2 := sizeL f.2
    simp only [sumF, List.map_cons, List.sum_cons, List.length_cons, ih, lst, h1, h2]
    omega
theorem parsed_sum {l : List Fld} {s : List UInt8} (h : l.map lst = (parseL s).1.take 1024) : sumF l ≤ s.length + 3072 := by
  have h1 := take_sum (fun p => p.1.length + p.2.length) 1024 (parseL s).1
  have h2 := parseF_bulk (s.length + 1) s
  have h3 := congrArg List.length h
  rw [List.length_map, List.length_take] at h3
  rw [sumF_of, h]
  unfold parseL at h1 ⊢
  omega

end Go.Proofs.YtdallfakfhajdaaGreatDoor

/-
  Bytes at work: a slice of bytes made of a text, changed place by place, over this seat's program.
-/
set_option linter.unusedVariables false
namespace Go.Proofs.YtdallfakfhajdaaGreatDoor
open Go.RowKit

/-- The world has the bytes l in block b, from its first cell on, and none of them is frozen. -/
structure Bytes (w : World) (b : Nat) (l : List UInt8) : Prop where
  cell : ∀ j (h : j < l.length), w.cell? ⟨b, j, none⟩ = some (.int .u8 (l[j].toNat : Int))
  free : ∀ j, j < l.length → w.frozen? ⟨b, j, none⟩ = false

theorem bytes_new (w : World) (l : List UInt8) (cap : Nat) : Bytes (w.alloc (.cells (bytesRow (bts l) cap) 5 ((bytesRow (bts l) cap).size, (bytesRow (bts l) cap).size + 1))).drew w.heap.size l := by
  have hsz : l.length ≤ (bytesRow (bts l) cap).size := by
    simp [bytesRow, bts]
  refine ⟨fun j hj => ?_, fun j hj => ?_⟩
  · have := World.cell?_alloc_mark w.drew (bytesRow (bts l) cap) 5 ((bytesRow (bts l) cap).size, (bytesRow (bts l) cap).size + 1) j
    refine Eq.trans this ?_
    simp [bytesRow, bts, Array.getElem?_append, hj]
  · have hh : (w.alloc (.cells (bytesRow (bts l) cap) 5 ((bytesRow (bts l) cap).size, (bytesRow (bts l) cap).size + 1))).drew.heap[w.heap.size]? = some (.cells (bytesRow (bts l) cap) 5 ((bytesRow (bts l) cap).size, (bytesRow (bts l) cap).size + 1)) := by
      show (w.heap.push _)[w.heap.size]? = _
      simp
    unfold World.frozen?
    simp only [hh]
    simp
    omega

theorem Bytes.set {w : World} {b : Nat} {l : List UInt8} (h : Bytes w b l) (t : Nat) (ht : t < l.length) (z : UInt8) : Bytes (w.setCell ⟨b, t, none⟩ (.int .u8 (z.toNat : Int))) b (l.set t z) := by
  refine ⟨fun j hj => ?_, fun j hj => ?_⟩
  · have hj' : j < l.length := by simpa using hj
    by_cases e : j = t
    · subst e
      rw [World.cell?_setCell_same _ _ _ (h.cell j ht), List.getElem_set_self]
    · rw [World.cell?_setCell_other _ _ _ _ (by intro hh; have h3 := congrArg Addr.off hh; simp at h3; omega), h.cell j hj', List.getElem_set_ne (by omega)]
  · have hj' : j < l.length := by simpa using hj
    rw [World.frozen?_setCell]; exact h.free j hj'

/-- The first k changed, the rest as they were. -/
def greF (f : UInt8 → UInt8) (k : Nat) (l : List UInt8) : List UInt8 := (l.take k).map f ++ l.drop k
variable (f : UInt8 → UInt8)
theorem greF_len (k : Nat) (l : List UInt8) : (greF f k l).length = l.length := by simp [greF]; omega
theorem greF_at (k : Nat) (l : List UInt8) (h : k < l.length) : (greF f k l)[k]'(by rw [greF_len]; exact h) = l[k] := by
  unfold greF
  rw [List.getElem_append_right (by simp; omega)]
  simp [Nat.min_eq_left (Nat.le_of_lt h)]
theorem greF_next (k : Nat) (l : List UInt8) (h : k < l.length) : greF f (k + 1) l = (greF f k l).set k (f l[k]) := by
  unfold greF
  rw [List.set_append_right _ _ (by simp; omega)]
  simp only [List.length_map, List.length_take, Nat.min_eq_left (Nat.le_of_lt h), Nat.sub_self]
  rw [List.drop_eq_getElem_cons h, List.set_cons_zero, List.take_succ_eq_append_getElem h]
  simp only [List.map_append, List.map_cons, List.map_nil, List.append_assoc, List.cons_append, List.nil_append]
theorem greF_same (k : Nat) (l : List UInt8) (h : k < l.length) (hu : f l[k] = l[k]) : greF f (k + 1) l = greF f k l := by
  rw [greF_next f k l h, hu]
  conv => lhs; rw [← greF_at f k l h]
  rw [List.set_getElem_self]
theorem greF_all (l : List UInt8) (k : Nat) (h : l.length ≤ k) : greF f k l = l.map f := by simp [greF, List.take_of_length_le h, List.drop_eq_nil_of_le h]

end Go.Proofs.YtdallfakfhajdaaGreatDoor

/-
  Numbers as few bytes, in plain mathematics: the bytes of a number, what bytes begin with, and that the two are each other's way back.
-/
namespace Go.Proofs.Num

/-- A number's bytes: seven bits a byte, the lowest first; f bounds how many. -/
def putF : Nat → Nat → List UInt8
  | 0, n => [UInt8.ofNat n]
  | f + 1, n => if n < 128 then [UInt8.ofNat n] else UInt8.ofNat (n % 128 + 128) :: putF f (n / 128)

/-- A number's bytes. -/
def putL (n : Nat) : List UInt8 := putF n n

theorem putF_enough : ∀ (f g n : Nat), n ≤ f → n ≤ g → putF f n = putF g n := by
  intro f
  induction f with
  | zero =>
    intro g n hf hg
    have : n = 0 := by omega
    subst this
    cases g <;> simp [putF]
  | succ f ih =>
    intro g n hf hg
    cases g with
    | zero =>
      have : n = 0 := by omega
      subst this
      simp [putF]
    | succ g =>
      simp only [putF]
      by_cases h : n < 128
      · simp [h]
      · rw [if_neg h, if_neg h, ih g (n / 128) (by omega) (by omega)]

/-- What a list of bytes begins with, read from place i on with n read so far: the number, how many bytes it has, the error's number. -/
def scanFrom : List UInt8 → Nat → Nat → Nat × Nat × Nat
  | [], _, _ => (0, 0, 5)
  | b :: r, i, n =>
    if i = 9 ∧ 1 < b.toNat then (0, 0, 7)
    else if 128 ≤ b.toNat then scanFrom r (i + 1) (n + b.toNat % 128 * 2 ^ (7 * i))
    else if b.toNat = 0 ∧ 0 < i then (0, 0, 7)
    else (n + b.toNat % 128 * 2 ^ (7 * i), i + 1, 0)

def scanL (s : List UInt8) : Nat × Nat × Nat := scanFrom s 0 0

theorem putL_small {n : Nat} (h : n < 128) : putL n = [UInt8.ofNat n] := by
  unfold putL
  cases n with
  | zero => rfl
  | succ n => simp [putF, h]
theorem putL_big {n : Nat} (h : 128 ≤ n) : putL n = UInt8.ofNat (n % 128 + 128) :: putL (n / 128) := by
  unfold putL
  obtain ⟨m, rfl⟩ : ∃ m, n = m + 1 := ⟨n - 1, by omega⟩
  rw [putF, if_neg (by omega), putF_enough m ((m + 1) / 128) ((m + 1) / 128) (by omega) (by omega)]

theorem putL_pos (n : Nat) : 0 < (putL n).length := by
  by_cases h : n < 128
  · simp [putL_small h]
  · simp [putL_big (show 128 ≤ n by omega)]

/-- A number below 128^k has at most k bytes, and one from 128^k on has more. -/
theorem putL_len (k : Nat) : ∀ n, (putL n).length ≤ k + 1 ↔ n < 2 ^ (7 * (k + 1)) := by
  induction k with
  | zero =>
    intro n
    by_cases h : n < 128
    · simp [putL_small h, h]
    · have := putL_pos (n / 128)
      simp only [putL_big (show 128 ≤ n by omega), List.length_cons]
      constructor
      · intro h'; omega
      · intro h'; exact absurd h' h
  | succ k ih =>
    intro n
    have e : 2 ^ (7 * (k + 1 + 1)) = 128 * 2 ^ (7 * (k + 1)) := by rw [show 7 * (k + 1 + 1) = 7 + 7 * (k + 1) by omega, Nat.pow_add]
    by_cases h : n < 128
    · have hp : 0 < 2 ^ (7 * (k + 1)) := Nat.two_pow_pos _
      simp only [putL_small h, List.length_cons, List.length_nil]
      constructor
      · intro _; omega
      · intro _; omega
    · have := ih (n / 128)
      simp only [putL_big (show 128 ≤ n by omega), List.length_cons]
      rw [e]
      constructor
      · intro h'; have := this.1 (by omega); omega
      · intro h'; have := this.2 (by omega); omega

theorem putL_len10 {n : Nat} (h : n < 18446744073709551616) : (putL n).length ≤ 10 := by
  have := (putL_len 9 n).2 (Nat.lt_of_lt_of_le h (by decide))
  omega

/-- What is put is scanned, whatever stands behind it. -/
theorem scanFrom_put (r : List UInt8) : ∀ (m i n : Nat), i ≤ 9 → m * 2 ^ (7 * i) + n < 18446744073709551616 → (0 < m ∨ i = 0) →
    scanFrom (putL m ++ r) i n = (n + m * 2 ^ (7 * i), i + (putL m).length, 0) := by
  intro m
  induction m using Nat.strongRecOn with
  | _ m ih =>
    intro i n hi hm hz
    have e9 : i = 9 → m ≤ 1 := by
      intro h; subst h
      have : (2 : Nat) ^ (7 * 9) = 9223372036854775808 := by decide
      rw [this] at hm; omega
    by_cases h : m < 128
    · rw [putL_small h]
      have ht : (UInt8.ofNat m).toNat = m := by simp [Nat.mod_eq_of_lt (show m < 256 by omega)]
      simp only [List.cons_append, List.nil_append, scanFrom, ht, List.length_cons, List.length_nil]
      rw [if_neg (by intro hh; have := e9 hh.1; omega), if_neg (by omega), if_neg (by omega), Nat.mod_eq_of_lt h]
    · have hb : 128 ≤ m := by omega
      rw [putL_big hb]
      have ht : (UInt8.ofNat (m % 128 + 128)).toNat = m % 128 + 128 := by simp [Nat.mod_eq_of_lt (show m % 128 + 128 < 256 by omega)]
      simp only [List.cons_append, scanFrom, ht, List.length_cons]
      have hi9 : i ≠ 9 := by intro hh; have := e9 hh; omega
      rw [if_neg (by intro hh; exact hi9 hh.1), if_pos (by omega)]
      have e : 2 ^ (7 * (i + 1)) = 128 * 2 ^ (7 * i) := by rw [show 7 * (i + 1) = 7 + 7 * i by omega, Nat.pow_add]
      have em : m / 128 * (128 * 2 ^ (7 * i)) + m % 128 * 2 ^ (7 * i) = m * 2 ^ (7 * i) := by
        rw [← Nat.mul_assoc, ← Nat.add_mul]
        congr 1
        omega
      have emod : (m % 128 + 128) % 128 = m % 128 := by omega
      rw [emod, ih (m / 128) (by omega) (i + 1) _ (by omega) (by rw [e]; omega) (by omega), e]
      simp only [Prod.mk.injEq, and_true]
      exact ⟨by omega, by omega⟩

theorem scanL_put (n : Nat) (r : List UInt8) (h : n < 18446744073709551616) : scanL (putL n ++ r) = (n, (putL n).length, 0) := by
  have := scanFrom_put r n 0 0 (by omega) (by simpa using h) (Or.inr rfl)
  simpa [scanL] using this

/-- What is scanned well has its bytes. -/
theorem scanFrom_ok : ∀ (s : List UInt8) (i n m k : Nat), i ≤ 9 → n < 2 ^ (7 * i) → scanFrom s i n = (m, k, 0) →
    ∃ q r, m = n + q * 2 ^ (7 * i) ∧ s = putL q ++ r ∧ k = i + (putL q).length ∧ m < 18446744073709551616 ∧ k ≤ 10 ∧ (0 < q ∨ i = 0) := by
  intro s
  induction s with
  | nil => intro i n m k _ _ h; simp [scanFrom] at h
  | cons b r ih =>
    intro i n m k hi hn h
    have hb : b.toNat < 256 := b.toNat_lt
    have e : 2 ^ (7 * (i + 1)) = 128 * 2 ^ (7 * i) := by rw [show 7 * (i + 1) = 7 + 7 * i by omega, Nat.pow_add]
    have hp : 2 ^ (7 * i) ≤ 2 ^ (7 * 9) := Nat.pow_le_pow_right (by decide) (by omega)
    have h63 : (2 : Nat) ^ (7 * 9) = 9223372036854775808 := by decide
    simp only [scanFrom] at h
    by_cases h9 : i = 9 ∧ 1 < b.toNat
    · simp [h9] at h
    · rw [if_neg h9] at h
      by_cases h128 : 128 ≤ b.toNat
      · rw [if_pos h128] at h
        have hi8 : i ≤ 8 := by
          rcases Nat.lt_or_ge i 9 with h' | h'
          · omega
          · exact absurd ⟨by omega, by omega⟩ h9
        have hmul : b.toNat % 128 * 2 ^ (7 * i) ≤ 127 * 2 ^ (7 * i) := Nat.mul_le_mul_right _ (by omega)
        obtain ⟨q, r', hm, hr, hk, hlt, hk10, hq⟩ := ih (i + 1) _ m k (by omega) (by rw [e]; omega) h
        have hq0 : 0 < q := by omega
        refine ⟨b.toNat % 128 + 128 * q, r', ?_, ?_, ?_, hlt, hk10, by omega⟩
        · rw [hm, e, Nat.add_mul, show 128 * q * 2 ^ (7 * i) = q * (128 * 2 ^ (7 * i)) by rw [Nat.mul_comm 128 q, Nat.mul_assoc]]
          omega
        · rw [putL_big (show 128 ≤ b.toNat % 128 + 128 * q by omega), show (b.toNat % 128 + 128 * q) % 128 + 128 = b.toNat by omega, show (b.toNat % 128 + 128 * q) / 128 = q by omega, hr]
          simp
        · rw [putL_big (show 128 ≤ b.toNat % 128 + 128 * q by omega), show (b.toNat % 128 + 128 * q) / 128 = q by omega, hk]
          simp; omega
      · rw [if_neg h128] at h
        by_cases hz : b.toNat = 0 ∧ 0 < i
        · simp [hz] at h
        · rw [if_neg hz] at h
          simp only [Prod.mk.injEq] at h
          obtain ⟨hm, hk, _⟩ := h
          have hbm : b.toNat % 128 = b.toNat := Nat.mod_eq_of_lt (by omega)
          rw [hbm] at hm
          refine ⟨b.toNat, r, hm.symm, ?_, ?_, ?_, by omega, by omega⟩
          · rw [putL_small (by omega)]; simp
          · rw [putL_small (by omega)]; simp; omega
          · rcases Nat.lt_or_ge i 9 with h' | h'
            · have hp8 : 2 ^ (7 * i) ≤ 2 ^ (7 * 8) := Nat.pow_le_pow_right (by decide) (by omega)
              have h56 : (2 : Nat) ^ (7 * 8) = 72057594037927936 := by decide
              have hmul : b.toNat * 2 ^ (7 * i) ≤ 127 * 2 ^ (7 * i) := Nat.mul_le_mul_right _ (by omega)
              omega
            · have hi9 : i = 9 := by omega
              have hb1 : b.toNat ≤ 1 := by
                rcases Nat.lt_or_ge 1 b.toNat with h'' | h''
                · exact absurd ⟨hi9, h''⟩ h9
                · exact h''
              have hmul : b.toNat * 2 ^ (7 * i) ≤ 1 * 2 ^ (7 * i) := Nat.mul_le_mul_right _ hb1
              omega

theorem scanL_ok {s : List UInt8} {m k : Nat} (h : scanL s = (m, k, 0)) : s = putL m ++ s.drop k ∧ k = (putL m).length ∧ m < 18446744073709551616 ∧ k ≤ 10 := by
  obtain ⟨q, r, hm, hr, hk, hlt, hk10, _⟩ := scanFrom_ok s 0 0 m k (by omega) (by simp) h
  have : m = q := by simpa using hm
  subst this
  have hk' : k = (putL m).length := by omega
  refine ⟨?_, hk', hlt, hk10⟩
  rw [hk', hr]
  simp

/-- With an error nothing else is told. -/
theorem scanFrom_no : ∀ (s : List UInt8) (i n : Nat), (scanFrom s i n).2.2 = 0 ∨ scanFrom s i n = (0, 0, 5) ∨ scanFrom s i n = (0, 0, 7) := by
  intro s
  induction s with
  | nil => intro i n; right; left; rfl
  | cons b r ih =>
    intro i n
    simp only [scanFrom]
    split
    · right; right; rfl
    · split
      · exact ih _ _
      · split
        · right; right; rfl
        · left; rfl

theorem scanL_no (s : List UInt8) : (scanL s).2.2 = 0 ∨ scanL s = (0, 0, 5) ∨ scanL s = (0, 0, 7) := scanFrom_no s 0 0
theorem scanL_le (s : List UInt8) : (scanL s).2.1 ≤ s.length ∧ (scanL s).2.1 ≤ 10 ∧ (scanL s).1 < 18446744073709551616 := by
  rcases scanL_no s with h | h | h
  · obtain ⟨m, k, hmk⟩ : ∃ m k, scanL s = (m, k, 0) := ⟨(scanL s).1, (scanL s).2.1, by rw [← h]⟩
    have := scanL_ok hmk
    rw [hmk]
    refine ⟨?_, this.2.2.2, this.2.2.1⟩
    have hl := congrArg List.length this.1
    simp at hl
    have := putL_pos m
    simp only
    omega
  · rw [h]; simp
  · rw [h]; simp
end Go.Proofs.Num

/-
  What vari.write and vari.Put do, over this seat's program: Put answers the number's bytes, and no older memory turns.
-/
set_option linter.unusedVariables false
namespace Go.Proofs.YtdallfakfhajdaaGreatDoor
open Go.RowKit Go.Proofs.Num

theorem or128_fin : ∀ x : Fin 256, x.val ||| 128 = x.val % 128 + 128 := by decide +kernel
theorem or128 (m : Nat) : bits .or .u8 ((m : Int) % 256) 128 = ((m % 128 + 128 : Nat) : Int) := by
  have h1 : ((m : Int) % 256) = ((m % 256 : Nat) : Int) := by omega
  rw [h1]
  refine (u8_or_nat (m % 256) 128 (by omega) (by omega)).trans ?_
  have := or128_fin ⟨m % 256, by omega⟩
  simp only at this
  rw [this]
  omega

set_option maxHeartbeats 1000000 in
set_option maxRecDepth 100000 in
theorem vwrite_any (B b : Nat) (l : List UInt8) (n : Nat) (w : World) (hn : n < 18446744073709551616) (h : Lib.IsBuilderF 65 5 B b (Lib.byteCells l) w) (hlen : l.length + 10 ≤ 140737488355328) (hBw : B ≤ w.heap.size) :
    Calls Tryz.prog 90 #[.pointer (some ⟨b, 0, none⟩), .int .u64 n] w fun e w' => e = .returned (.tuple #[]) ∧ Lib.IsBuilderF 65 5 B b (Lib.byteCells (l ++ putL n)) w' ∧ Below B w w' ∧ Lib.OthersKept 5 (some b) w w' := by
  have hl10 := putL_len10 hn
  go_enter Tryz.func90, Tryz.ntmps90
  go_wp2
  go_loopw [1] (fun v wr => ∃ (m : Nat) (acc : List UInt8), v = .int .u64 m ∧ m < 18446744073709551616 ∧ acc ++ putL m = l ++ putL n ∧ Lib.IsBuilderF 65 5 B b (Lib.byteCells acc) wr ∧ Below B w wr ∧ Lib.OthersKept 5 (some b) w wr) (fun v wr => (intOf v).toNat)
  case atStart => exact ⟨n, l, rfl, hn, rfl, h, Below.refl _ _, Lib.OthersKept.refl _ _ _⟩
  case round =>
    obtain ⟨m, acc, rfl, hm, hacc, hI, hbw, hok⟩ := hrel
    have hal := congrArg List.length hacc
    have hpm := putL_pos m
    simp at hal
    have hbs := hbw.size
    by_cases h128 : 128 ≤ m
    · have hor := or128 m
      have h1 : ((m : Int) % 256) = ((m % 256 : Nat) : Int) := by omega
      have hu : (((m % 128 + 128 : Nat)) : Int) = ((UInt8.ofNat (m % 128 + 128)).toNat : Int) := by simp; omega
      rw [putL_big h128] at hacc
      have H1 := hide hor
      have H2 := hide hu
      have H3 := hide hacc
      clear hor hu hacc h1
      go_wp2_with (go_at_call 39; refine (writeByte_k B b (Lib.byteCells acc) _ _ hI (by rw [Lib.byteCells_length]; omega) (by omega)).mono ?_)
      rintro e w1 ⟨rfl, h1, hb1, hk1⟩
      rw [unhide H1, byteCells_snoc acc _ _ (unhide H2)] at h1
      go_wp2
      go_roundw
      case rel => exact ⟨m / 128, acc ++ [UInt8.ofNat (m % 128 + 128)], by go_num, by omega, by rw [← unhide H3]; simp, Or.inr h1, hbw.trans hb1, hok.trans hk1⟩
      case measure => simp [intOf]; omega
    · have hu : (m : Int) = ((UInt8.ofNat m).toNat : Int) := by simp; omega
      rw [putL_small (by omega)] at hacc
      have H2 := hide hu
      have H3 := hide hacc
      clear hu hacc
      go_wp2_with (go_at_call 39; refine (writeByte_k B b (Lib.byteCells acc) _ _ hI (by rw [Lib.byteCells_length]; omega) (by omega)).mono ?_)
      rintro e w1 ⟨rfl, h1, hb1, hk1⟩
      rw [byteCells_snoc acc _ _ (unhide H2), unhide H3] at h1
      go_wp2
      go_end0
      exact ⟨rfl, Or.inr h1, hbw.trans hb1, hok.trans hk1⟩

set_option maxHeartbeats 1000000 in
set_option maxRecDepth 100000 in
/-- vari.Put answers the number's bytes. -/
theorem put_any (n : Nat) (w : World) (hn : n < 18446744073709551616) :
    Calls Tryz.prog 48 #[.int .u64 n] w fun e w' => e = .returned (.string ⟨(putL n).toArray⟩) ∧ Below w.heap.size w w' := by
  go_enter Tryz.func48, Tryz.ntmps48
  go_wp2_with (go_at_call 90; refine (vwrite_any w.heap.size w.heap.size [] n _ hn (Lib.IsBuilderF.of (Lib.fresh_isBuilder 65 5 w)) (by simp) (by simp)).mono ?_)
  rintro e w1 ⟨rfl, h1, hb1, hk1⟩
  have hs := hb1.size
  simp at hs h1
  go_wp2_with (go_at_call 41; refine (Tryz.Builder_String_any_k w.heap.size w.heap.size (putL n) _ h1 (by omega)).mono ?_)
  rintro e w2 ⟨rfl, _, hb2, _⟩
  go_wp2
  go_ret
  exact ⟨rfl, (((Below.refl _ w).alloc (Nat.le_refl _) _).trans hb1).trans hb2⟩
end Go.Proofs.YtdallfakfhajdaaGreatDoor

/-
  What vari.scan, strings.Clone and vari.Get do, over this seat's program: they tell what the text begins with, and no older memory turns.
-/
set_option linter.unusedVariables false
namespace Go.Proofs.YtdallfakfhajdaaGreatDoor
open Go.RowKit Go.Proofs.Num

/-- A goto to label l0: J0; to label l1: J1; to any other: no way out. -/
def jumpTwoS (l0 l1 : Nat) (J0 J1 : Act → World → Prop) (Q : Exit → Act → World → Prop) : Exit → Act → World → Prop
  | .goto l', a, w => (l' = l0 ∧ J0 a w) ∨ (l' = l1 ∧ J1 a w)
  | e, a, w => Q e a w

section
variable {P : Program} {a : Act} {w : World} {Q : Exit → Act → World → Prop}

/-- A scope with two labels: the run comes back to the first one, each time with less to do, and may leave by the second one, behind which no goto stands. -/
theorem wp_scope_two {c rest0 rest1 : Code} (l0 l1 : Nat) (J0 J1 : Act → World → Prop) (μ : Act → World → Nat) (hf0 : findLabel c l0 = some (Code.skip.seq rest0)) (hf1 : findLabel c l1 = some rest1)
    (first : (∀ a w, J0 a w → rest0.wp P (jumpTwoS l0 l1 J0 J1 Q) a w) → c.wp P (jumpTwoS l0 l1 J0 J1 Q) a w)
    (pass : ∀ a w, J0 a w → rest0.wp P (jumpTwoS l0 l1 (fun a' w' => J0 a' w' ∧ μ a' w' < μ a w) J1 Q) a w)
    (last : ∀ a w, J1 a w → rest1.wp P (jumpTwoS l0 l1 (fun _ _ => False) (fun _ _ => False) Q) a w) : (Code.scope c).wp P Q a w := by
  have pass' : ∀ a w, J0 a w → (Code.skip.seq rest0).wp P (jumpTwoS l0 l1 (fun a' w' => J0 a' w' ∧ μ a' w' < μ a w) J1 Q) a w := fun a w h => wp_seq (wp_skip (pass a w h))
  intro b k cs
  have hg0 : gotoIn l0 (.inScope c :: k) = some (.code (Code.skip.seq rest0) :: .inScope c :: k) := by simp [gotoIn, hf0]
  have hg1 : gotoIn l1 (.inScope c :: k) = some (.code rest1 :: .inScope c :: k) := by simp [gotoIn, hf1]
  have key1 : ∀ a w, J1 a w → ∃ e a' w', Q e a' w' ∧ Arrives P (lone (b.at a (.code rest1 :: .inScope c :: k)) cs w) b k cs e a' w' := by
    intro a w hJ
    obtain ⟨e, a₁, w₁, hq, harr⟩ := last a w hJ b (.inScope c :: k) cs
    cases e with
    | normal => exact ⟨.normal, a₁, w₁, hq, Steps.trans harr (.one step_inScope)⟩
    | exit id => exact ⟨.exit id, a₁, w₁, hq, fun k' hk => harr k' (by simp [exitTo, hk])⟩
    | goto l' => rcases hq with ⟨_, h⟩ | ⟨_, h⟩ <;> exact h.elim
    | ret => exact ⟨_, a₁, w₁, hq, harr⟩
    | panic ch => exact ⟨_, a₁, w₁, hq, harr⟩
    | outgrown => exact ⟨_, a₁, w₁, hq, harr⟩
  have key0 : ∀ n a w, μ a w = n → J0 a w → ∃ e a' w', Q e a' w' ∧ Arrives P (lone (b.at a (.code (Code.skip.seq rest0) :: .inScope c :: k)) cs w) b k cs e a' w' := by
    intro n
    induction n using Nat.strongRecOn with
    | _ n ih =>
      intro a w hn hJ
      obtain ⟨e, a₁, w₁, hq, harr⟩ := pass' a w hJ b (.inScope c :: k) cs
      cases e with
      | normal => exact ⟨.normal, a₁, w₁, hq, Steps.trans harr (.one step_inScope)⟩
      | exit id => exact ⟨.exit id, a₁, w₁, hq, fun k' hk => harr k' (by simp [exitTo, hk])⟩
      | goto l' =>
        rcases hq with ⟨rfl, hJ', hlt⟩ | ⟨rfl, hJ'⟩
        · obtain ⟨e₂, a₂, w₂, hq₂, harr₂⟩ := ih _ (by omega) a₁ w₁ rfl hJ'
          exact ⟨e₂, a₂, w₂, hq₂, .of_steps (harr _ hg0) harr₂⟩
        · obtain ⟨e₂, a₂, w₂, hq₂, harr₂⟩ := key1 a₁ w₁ hJ'
          exact ⟨e₂, a₂, w₂, hq₂, .of_steps (harr _ hg1) harr₂⟩
      | ret => exact ⟨_, a₁, w₁, hq, harr⟩
      | panic ch => exact ⟨_, a₁, w₁, hq, harr⟩
      | outgrown => exact ⟨_, a₁, w₁, hq, harr⟩
  have hp : ∀ a w, J0 a w → rest0.wp P (jumpTwoS l0 l1 J0 J1 Q) a w := fun a w h => wp_mono (pass a w h) fun e a' w' hq => by
    cases e with
    | goto l' => rcases hq with ⟨e, hj, _⟩ | h2
                 · exact Or.inl ⟨e, hj⟩
                 · exact Or.inr h2
    | _ => exact hq
  obtain ⟨e, a₁, w₁, hq, harr⟩ := first hp b (.inScope c :: k) cs
  cases e with
  | normal => exact ⟨.normal, a₁, w₁, hq, .head step_scope (Steps.trans harr (.one step_inScope))⟩
  | exit id => exact ⟨.exit id, a₁, w₁, hq, fun k' hk => .head step_scope (harr k' (by simp [exitTo, hk]))⟩
  | goto l' =>
    rcases hq with ⟨rfl, hJ'⟩ | ⟨rfl, hJ'⟩
    · obtain ⟨e₂, a₂, w₂, hq₂, harr₂⟩ := key0 _ a₁ w₁ rfl hJ'
      exact ⟨e₂, a₂, w₂, hq₂, .of_steps (.head step_scope (harr _ hg0)) harr₂⟩
    · obtain ⟨e₂, a₂, w₂, hq₂, harr₂⟩ := key1 a₁ w₁ hJ'
      exact ⟨e₂, a₂, w₂, hq₂, .of_steps (.head step_scope (harr _ hg1)) harr₂⟩
  | ret => exact ⟨_, a₁, w₁, hq, .of_steps (.one step_scope) harr⟩
  | panic ch => exact ⟨_, a₁, w₁, hq, .of_steps (.one step_scope) harr⟩
  | outgrown => exact ⟨_, a₁, w₁, hq, .of_steps (.one step_scope) harr⟩
end

/-- What the frame of scan holds at its label 'next', k bytes read. -/
def Nxt (s : ByteArray) (w : World) (a' : Act) (w' : World) : Prop :=
  w' = w ∧ ∃ (k n : Nat) (u7 u8 u9 u10 u11 u12 u13 u14 u15 u16 u17 u18 u19 u20 u21 u22 u23 u24 u25 u26 u27 u28 u29 u30 u31 u32 u33 u34 u35 u36 u37 u38 u39 u40 : Value), a' = { tmps := #[.string s, undef, .int .u64 0, .int .i64 0, .int .i64 0, .int .u64 n, .int .i64 k, u7, u8, u9, u10, u11, u12, u13, u14, u15, u16, u17, u18, u19, u20, u21, u22, u23, u24, u25, u26, u27, u28, u29, u30, u31, u32, u33, u34, u35, u36, u37, u38, u39, u40], defers := [] } ∧ k ≤ s.size ∧ k ≤ 9 ∧ n < 2 ^ (7 * k) ∧ scanFrom (s.data.toList.drop k) k n = scanL s.data.toList
/-- .. and at its label 'wrong'. -/
def Wrg (s : ByteArray) (w : World) (a' : Act) (w' : World) : Prop :=
  w' = w ∧ ∃ (u5 u6 u7 u8 u9 u10 u11 u12 u13 u14 u15 u16 u17 u18 u19 u20 u21 u22 u23 u24 u25 u26 u27 u28 u29 u30 u31 u32 u33 u34 u35 u36 u37 u38 u39 u40 : Value), a' = { tmps := #[.string s, undef, .int .u64 0, .int .i64 0, .int .i64 0, u5, u6, u7, u8, u9, u10, u11, u12, u13, u14, u15, u16, u17, u18, u19, u20, u21, u22, u23, u24, u25, u26, u27, u28, u29, u30, u31, u32, u33, u34, u35, u36, u37, u38, u39, u40], defers := [] } ∧ scanL s.data.toList = (0, 0, 7)

theorem joinE_lt (n c k : Nat) (hn : n < 2 ^ (7 * k)) : n + c % 128 * 2 ^ (7 * k) < 2 ^ (7 * (k + 1)) := by
  have e : 2 ^ (7 * (k + 1)) = 128 * 2 ^ (7 * k) := by rw [show 7 * (k + 1) = 7 + 7 * k by omega, Nat.pow_add]
  have hmul : c % 128 * 2 ^ (7 * k) ≤ 127 * 2 ^ (7 * k) := Nat.mul_le_mul_right _ (by omega)
  rw [e]; omega

theorem joinE_u64 (n c k : Nat) (hk : k ≤ 9) (hn : n < 2 ^ (7 * k)) (hc : c < 256) (h9 : k = 9 → c ≤ 1) : n + c % 128 * 2 ^ (7 * k) < 18446744073709551616 := by
  rcases Nat.lt_or_ge k 9 with h' | h'
  · have h1 := joinE_lt n c k hn
    have hp : 2 ^ (7 * (k + 1)) ≤ 2 ^ (7 * 9) := Nat.pow_le_pow_right (by decide) (by omega)
    have h63 : (2 : Nat) ^ (7 * 9) = 9223372036854775808 := by decide
    omega
  · have hk9 : k = 9 := by omega
    subst hk9
    have h63 : (2 : Nat) ^ (7 * 9) = 9223372036854775808 := by decide
    have := h9 rfl
    rw [h63] at hn ⊢
    omega

theorem wrap_u64 (n : Nat) (h : n < 18446744073709551616) : IntKind.u64.wrap (n : Int) = n := by
  simp [IntKind.wrap, IntKind.bits, IntKind.signed]; omega

theorem joinE (n c k : Nat) (hk : k ≤ 9) (hn : n < 2 ^ (7 * k)) (hc : c < 256) (h9 : k = 9 → c ≤ 1) :
    bits .or .u64 (n : Int) (IntKind.u64.wrap (IntKind.u64.wrap (bits .and .u8 (c : Int) 127) * 2 ^ (7 * k))) = ((n + c % 128 * 2 ^ (7 * k) : Nat) : Int) := by
  have hu := joinE_u64 n c k hk hn hc h9
  have e1 : bits .and .u8 (c : Int) 127 = ((c % 128 : Nat) : Int) := (u8_and_nat c 127 hc (by omega)).trans (by rw [nat_mask7])
  rw [e1, wrap_u64 _ (by omega), show (((c % 128 : Nat) : Int) * 2 ^ (7 * k)) = ((c % 128 * 2 ^ (7 * k) : Nat) : Int) by simp, wrap_u64 _ (by omega)]
  refine (u64_or_nat _ _ (by omega) (by omega)).trans ?_
  rw [Nat.or_comm, nat_join (7 * k) _ n (Nat.mul_mod_left _ _) hn, Nat.add_comm]

set_option maxHeartbeats 1000000 in
set_option maxRecDepth 100000 in
theorem scan_any (s : ByteArray) (w : World) (hs : s.size ≤ maxLen) :
    Calls Tryz.prog 89 #[.string s] w fun e w' => e = .returned (.tuple #[.int .u64 (scanL s.data.toList).1, .int .i64 (scanL s.data.toList).2.1, .int .i64 (scanL s.data.toList).2.2]) ∧ w' = w := by
  unfold maxLen at hs
  go_enter Tryz.func89, Tryz.ntmps89
  go_wp2
  refine wp_scope_two 0 1 (Nxt s w) (Wrg s w) (fun a' _ => (10 - intOf (a'.tmps.getD 6 undef)).toNat) rfl rfl ?_ ?_ ?_
  · intro hp
    go_wp2
    go_step3
    rename_i K hK
    exact hK _ _ (hp _ _ ⟨rfl, 0, 0, _, _, _, _, _, _, _, _, _, _, _, _, _, _, _, _, _, _, _, _, _, _, _, _, _, _, _, _, _, _, _, _, _, _, rfl, Nat.zero_le _, by omega, by decide, rfl⟩)
  · rintro a' w' ⟨rfl, k, n, u7, u8, u9, u10, u11, u12, u13, u14, u15, u16, u17, u18, u19, u20, u21, u22, u23, u24, u25, u26, u27, u28, u29, u30, u31, u32, u33, u34, u35, u36, u37, u38, u39, u40, rfl, hk, hk9, hn, hsc⟩
    have HS := hide hsc
    have HN := hide hn
    clear hsc hn
    by_cases hend : k = s.size
    · have hb : ((k : Int) == (s.size : Int)) = true := by simp [hend]
      have hfin : scanL s.data.toList = (0, 0, 5) := by rw [← unhide HS, hend, drop_end s (Nat.le_refl _)]; rfl
      have HF := hide hfin
      clear hfin hend
      go_wp2
      simp only [jumpTwoS]
      go_ret3
      exact ⟨by rw [unhide HF]; rfl, rfl⟩
    · have hlt : k < s.size := by omega
      have hb : ((k : Int) == (s.size : Int)) = false := by simp; omega
      have hc := s[k].toNat_lt
      have hdrop := drop_byte s k hlt
      by_cases h9 : k = 9 ∧ 1 < s[k].toNat
      · have hb9 : ((k : Int) == 9) = true := by simp [h9.1]
        have hb1 : 1 < s[k].toNat := h9.2
        have hfin : scanL s.data.toList = (0, 0, 7) := by rw [← unhide HS, hdrop, scanFrom, if_pos h9]
        have HF := hide hfin
        clear hfin h9 hdrop
        go_wp2
        go_step3
        exact Or.inr ⟨rfl, rfl, _, _, _, _, _, _, _, _, _, _, _, _, _, _, _, _, _, _, _, _, _, _, _, _, _, _, _, _, _, _, _, _, _, _, _, _, rfl, unhide HF⟩
      · have h9c : k = 9 → s[k].toNat ≤ 1 := fun e => by omega
        have HJ := hide (joinE n s[k].toNat k (by omega) (unhide HN) hc h9c)
        by_cases h128 : 128 ≤ s[k].toNat
        · have hk8 : k ≤ 8 := by omega
          have hb9 : ((k : Int) == 9) = false := by simp; omega
          have hfin : scanFrom (s.data.toList.drop (k + 1)) (k + 1) (n + s[k].toNat % 128 * 2 ^ (7 * k)) = scanL s.data.toList := by rw [← unhide HS, hdrop, scanFrom, if_neg h9, if_pos h128]
          have HF := hide hfin
          clear hfin h9 h9c hdrop
          go_wp2
          go_step3
          rw [unhide HJ]
          refine Or.inl ⟨rfl, ⟨rfl, k + 1, _, _, _, _, _, _, _, _, _, _, _, _, _, _, _, _, _, _, _, _, _, _, _, _, _, _, _, _, _, _, _, _, _, _, _, rfl, by omega, by omega, joinE_lt n _ k (unhide HN), unhide HF⟩, ?_⟩
          simp [intOf]
          omega
        · by_cases hz : s[k].toNat = 0 ∧ 0 < k
          · have hfin : scanL s.data.toList = (0, 0, 7) := by rw [← unhide HS, hdrop, scanFrom, if_neg h9, if_neg h128, if_pos hz]
            have HF := hide hfin
            have hz0 : ((s[k].toNat : Int) == 0) = true := by simp [hz.1]
            have hz1 : 0 < k := hz.2
            have hz2 : s[k].toNat ≤ 1 := by omega
            clear hfin h9 h9c hdrop hz
            by_cases h9' : k = 9
            · have hb9 : ((k : Int) == 9) = true := by simp [h9']
              clear h9'
              go_wp2
              go_step3
              exact Or.inr ⟨rfl, rfl, _, _, _, _, _, _, _, _, _, _, _, _, _, _, _, _, _, _, _, _, _, _, _, _, _, _, _, _, _, _, _, _, _, _, _, _, rfl, unhide HF⟩
            · have hb9 : ((k : Int) == 9) = false := by simp; omega
              go_wp2
              go_step3
              exact Or.inr ⟨rfl, rfl, _, _, _, _, _, _, _, _, _, _, _, _, _, _, _, _, _, _, _, _, _, _, _, _, _, _, _, _, _, _, _, _, _, _, _, _, rfl, unhide HF⟩
          · have hfin : scanL s.data.toList = (n + s[k].toNat % 128 * 2 ^ (7 * k), k + 1, 0) := by rw [← unhide HS, hdrop, scanFrom, if_neg h9, if_neg h128, if_neg hz]
            have HF := hide hfin
            by_cases h9' : k = 9
            · have hb9 : ((k : Int) == 9) = true := by simp [h9']
              have hz0 : ((s[k].toNat : Int) == 0) = false := by simp; omega
              have hz2 : s[k].toNat ≤ 1 := by omega
              clear h9' hfin h9 h9c hdrop hz
              go_wp2
              simp only [jumpTwoS]
              go_ret3
              refine ⟨?_, rfl⟩
              rw [unhide HF, unhide HJ]
              rfl
            · have hb9 : ((k : Int) == 9) = false := by simp; omega
              by_cases hz0 : s[k].toNat = 0
              · have hz1 : ((s[k].toNat : Int) == 0) = true := by simp [hz0]
                have hk1 : ¬ 0 < k := by omega
                clear hfin h9 h9c hdrop hz hz0
                go_wp2
                simp only [jumpTwoS]
                go_ret3
                refine ⟨?_, rfl⟩
                rw [unhide HF, unhide HJ]
                rfl
              · have hz1 : ((s[k].toNat : Int) == 0) = false := by simp; omega
                clear hfin h9 h9c hdrop hz hz0
                go_wp2
                simp only [jumpTwoS]
                go_ret3
                refine ⟨?_, rfl⟩
                rw [unhide HF, unhide HJ]
                rfl
  · rintro a' w' ⟨rfl, u5, u6, u7, u8, u9, u10, u11, u12, u13, u14, u15, u16, u17, u18, u19, u20, u21, u22, u23, u24, u25, u26, u27, u28, u29, u30, u31, u32, u33, u34, u35, u36, u37, u38, u39, u40, rfl, hfin⟩
    have HF := hide hfin
    clear hfin
    go_wp2
    simp only [jumpTwoS]
    go_ret3
    exact ⟨by rw [unhide HF]; rfl, rfl⟩

set_option maxHeartbeats 400000 in
/-- strings.Clone answers the same bytes. -/
theorem clone_any (s : ByteArray) (w : World) (hs : s.size ≤ 281474976710656) :
    Calls Tryz.prog 28 #[.string s] w fun e w' => e = .returned (.string s) ∧ Below w.heap.size w w' := by
  go_enter Tryz.func28, Tryz.ntmps28
  go_wp2_with (go_at_call 70; refine (Tryz.stringslite_Clone s _ hs).mono ?_)
  rintro e w1 ⟨rfl, hb⟩
  go_wp2
  go_ret
  exact ⟨rfl, hb⟩

/-- What is behind the number that s begins with; nothing, if it begins with none. -/
def restOf (s : ByteArray) : ByteArray := if (scanL s.data.toList).2.2 = 0 then s.extract (scanL s.data.toList).2.1 s.size else ByteArray.empty

set_option maxHeartbeats 400000 in
/-- vari.Get tells the number that s begins with, and what is behind it, or the error. -/
theorem get_any (s : ByteArray) (w : World) (hs : s.size ≤ 281474976710656) :
    Calls Tryz.prog 47 #[.string s] w fun e w' => e = .returned (.tuple #[.int .u64 (scanL s.data.toList).1, .string (restOf s), .int .i64 (scanL s.data.toList).2.2]) ∧ Below w.heap.size w w' := by
  have hle := scanL_le s.data.toList
  have hsz : s.data.toList.length = s.size := Array.length_toList ..
  obtain ⟨m, k, e0, hsc⟩ : ∃ m k e0, scanL s.data.toList = (m, k, e0) := ⟨_, _, _, rfl⟩
  have hno := scanL_no s.data.toList
  have hrest : restOf s = if e0 = 0 then s.extract k s.size else ByteArray.empty := by simp [restOf, hsc]
  have hscan := scan_any s w (by unfold maxLen; omega)
  rw [hsc] at hno hle hscan ⊢
  simp only at hno hle
  rw [hsz] at hle
  obtain ⟨hk, hk10, hm⟩ := hle
  have HC := hide hscan
  clear hsc hsz hscan
  by_cases he : e0 = 0
  · subst he
    rw [if_pos rfl] at hrest
    have HR := hide hrest
    clear hrest hno
    have hext : (s.extract k s.size).size ≤ 281474976710656 := by rw [ByteArray.size_extract]; omega
    go_enter Tryz.func47, Tryz.ntmps47
    go_wp2_with (first | (go_at_call 89; refine (unhide HC).mono ?_; rintro e w1 ⟨rfl, rfl⟩) | (go_at_call 28; refine (clone_any (s.extract k s.size) _ hext).mono ?_; rintro e w2 ⟨rfl, hb⟩))
    go_ret3
    exact ⟨by rw [unhide HR]; rfl, hb⟩
  · rw [if_neg he] at hrest
    have hne : ((e0 : Int) == 0) = false := by simp; omega
    have hm0 : m = 0 := by
      rcases hno with h | h | h
      · exact absurd h he
      · simp at h; exact h.1
      · simp at h; exact h.1
    subst hm0
    have HR := hide hrest
    clear hrest hno he
    go_enter Tryz.func47, Tryz.ntmps47
    go_wp2_with (go_at_call 89; refine (unhide HC).mono ?_; rintro e w1 ⟨rfl, rfl⟩)
    go_ret3
    exact ⟨by rw [unhide HR]; rfl, Below.refl _ _⟩
end Go.Proofs.YtdallfakfhajdaaGreatDoor

/-
  What missivetop.begins does, over this seat's program: it answers true.
-/
set_option linter.unusedVariables false
namespace Go.Proofs.YtdallfakfhajdaaGreatDoor
open Go.RowKit Go.Proofs.Num

theorem put_300 (w : World) : Calls Tryz.prog 48 #[.int .u64 300] w fun e w' => e = .returned (.string { data := #[172, 2] }) ∧ Below w.heap.size w w' := by
  have h := put_any 300 w (by decide)
  rw [show putL 300 = [172, 2] by rw [putL_big (by decide), putL_small (by decide)]; rfl] at h
  exact h
theorem get_300 (w : World) : Calls Tryz.prog 47 #[.string { data := #[172, 2, 120] }] w fun e w' => e = .returned (.tuple #[.int .u64 300, .string { data := #[120] }, .int .i64 0]) ∧ Below w.heap.size w w' := by
  have h := get_any { data := #[172, 2, 120] } w (by decide)
  rw [show scanL (ByteArray.mk #[172, 2, 120]).data.toList = (300, 2, 0) by decide +kernel, show restOf { data := #[172, 2, 120] } = { data := #[120] } by decide +kernel] at h
  exact h

set_option maxHeartbeats 400000 in
theorem begins_any (w : World) : Calls Tryz.prog 20 #[] w fun e w' => e = .returned (.bool true) ∧ Below w.heap.size w w' := by
  go_enter Tryz.func20, Tryz.ntmps20
  go_wp2_with fail
  refine (put_300 _).mono ?_
  rintro e w1 ⟨rfl, b1⟩
  go_wp2_with fail
  rw [show (({ data := #[172, 2] } : ByteArray) ++ { data := #[120] }) = { data := #[172, 2, 120] } by decide +kernel]
  refine (get_300 _).mono ?_
  rintro e w2 ⟨rfl, b2⟩
  go_wp2
  go_ret
  exact ⟨rfl, belows' b1 b2⟩
end Go.Proofs.YtdallfakfhajdaaGreatDoor

/-
  What missivetop.TopWorded does, over this seat's program: it answers true.
-/
set_option linter.unusedVariables false
namespace Go.Proofs.YtdallfakfhajdaaGreatDoor
open Go.RowKit Go.Proofs.Enc Go.Proofs.Rns Go.Proofs.Dcl Go.Proofs.Hed

theorem wordT_last (base : Bool) (t : List UInt8) : (wordT base t).getLast? = some 61 := by rw [wordT_eq]; simp [List.getLast?_append, List.getLast?_cons]
theorem wordT_head (base : Bool) (t r : List UInt8) : (wordT base t ++ r).head? = some 61 := by rw [wordT_eq]; simp
theorem jw_last (base : Bool) : ∀ (sp : Bool) (ts : List (List UInt8)), ts ≠ [] → (jw base sp ts).getLast? = some 61
  | sp, [], h => absurd rfl h
  | sp, t :: r, _ => by
    rw [jw]
    cases r with
    | nil => simp [jw, List.getLast?_append, wordT_last]
    | cons a b =>
      have := jw_last base true (a :: b) (by simp)
      rw [List.getLast?_append, List.getLast?_append, this]
      simp
theorem jw_vl (base : Bool) (ts : List (List UInt8)) : isVl (jw base false ts) = true := by
  have h1 := jw_pl base false ts
  have hall : (jw base false ts).all (fun c => c != 10 && c != 13) = true := List.all_eq_true.2 fun c hc => by
    have h2 := h1 c hc
    have e1 : c ≠ 10 := fun e => by rw [e] at h2; revert h2; decide
    have e2 : c ≠ 13 := fun e => by rw [e] at h2; revert h2; decide
    simp [e1, e2]
  cases ts with
  | nil => rfl
  | cons t r =>
    have hl := jw_last base false (t :: r) (by simp)
    have hh : (jw base false (t :: r)).head? = some 61 := by simp only [jw]; exact wordT_head base t _
    unfold isVl
    rw [hall, hl]
    cases hj : jw base false (t :: r) with
    | nil => rw [hj] at hh; cases hh
    | cons a b =>
      rw [hj] at hh
      obtain rfl := Option.some.inj hh
      show ((true && !isB 61) && !isB 61) = true
      decide
def dvL (D : List UInt8) : List UInt8 := ([120, 44, 32] ++ D).map dsh
theorem dvL_eq (D : List UInt8) : dvL D = [120, 44, 32] ++ D.map dsh := by
  unfold dvL
  rw [List.map_append]
  rfl
theorem dv_vl (y m d : Nat) (hv : vldB y m d = true) : isVl (dvL (dayT y m d)) = true := by
  rw [dvL_eq]
  have ha := day_ascii2 y m d hv
  obtain ⟨y1, y2, m1, m2, d1, d2⟩ := vld_iff.1 hv
  have d3 := dim_le y m
  have hm : m - 1 < 12 := by omega
  obtain ⟨_, hnb, hna⟩ := name_map (m - 1) hm
  have hdgr : ∀ n, n < 10 → 48 ≤ (dg n).toNat := fun n h => by rw [dg_nat n h]; omega
  have htwr : ∀ n, n < 100 → ∀ c ∈ twoL n, 48 ≤ c.toNat := by
    intro n hn c hc
    simp only [twoL, List.mem_cons, List.not_mem_nil, or_false] at hc
    rcases hc with rfl | rfl
    · exact hdgr _ (by omega)
    · exact hdgr _ (by omega)
  have hnm : ∀ k, k < 12 → ∀ c ∈ nmL k, 48 ≤ c.toNat := by
    intro k hk
    have : k = 0 ∨ k = 1 ∨ k = 2 ∨ k = 3 ∨ k = 4 ∨ k = 5 ∨ k = 6 ∨ k = 7 ∨ k = 8 ∨ k = 9 ∨ k = 10 ∨ k = 11 := by omega
    rcases this with rfl | rfl | rfl | rfl | rfl | rfl | rfl | rfl | rfl | rfl | rfl | rfl <;> decide +kernel
  rw [day_map y m d hv]
  have hall : ([120, 44, 32] ++ ((if 10 ≤ d then twoL d else [dg d]) ++ 32 :: (nmL (m - 1) ++ 32 :: (twoL (y / 100) ++ twoL (y % 100))))).all (fun c => c != 10 && c != 13) = true := List.all_eq_true.2 fun c hc => by
    have h48 : 32 ≤ c.toNat := by
      simp only [List.mem_append, List.mem_cons, List.not_mem_nil, or_false] at hc
      rcases hc with (rfl | rfl | rfl) | h | rfl | h | rfl | h | h <;> first | decide | skip
      · split at h
        · have := htwr d (by omega) c h; omega
        · simp only [List.mem_cons, List.not_mem_nil, or_false] at h
          subst h
          have := hdgr d (by omega); omega
      · have := hnm _ hm c h; omega
      · have := htwr _ (by omega) c h; omega
      · have := htwr _ (by omega) c h; omega
    have e1 : c ≠ 10 := fun e => by rw [e] at h48; revert h48; decide
    have e2 : c ≠ 13 := fun e => by rw [e] at h48; revert h48; decide
    simp [e1, e2]
  have hlast : ([120, 44, 32] ++ ((if 10 ≤ d then twoL d else [dg d]) ++ 32 :: (nmL (m - 1) ++ 32 :: (twoL (y / 100) ++ twoL (y % 100))))).getLast? = some (dg (y % 100 % 10)) := by
    simp [List.getLast?_append, List.getLast?_cons, twoL]
  unfold isVl
  rw [hall, hlast]
  have h1 := dg_bl (y % 100 % 10) (by omega)
  unfold blB at h1
  have h2 : isB (dg (y % 100 % 10)) = false := by
    unfold isB
    simpa using h1
  simp only [List.cons_append, h2]
  decide
def subjB : ByteArray := ⟨#[83, 117, 98, 106, 101, 99, 116]⟩
def dateB : ByteArray := ⟨#[68, 97, 116, 101]⟩
theorem called_ss (s : ByteArray) : called ⟨#[115, 117, 98, 106, 101, 99, 116]⟩ (subjB, s) = true := show decide (smL subjB.data.toList = smL (⟨#[115, 117, 98, 106, 101, 99, 116]⟩ : ByteArray).data.toList) = true by decide
theorem called_ds (s : ByteArray) : called ⟨#[100, 97, 116, 101]⟩ (subjB, s) = false := show decide (smL subjB.data.toList = smL (⟨#[100, 97, 116, 101]⟩ : ByteArray).data.toList) = false by decide
theorem called_dd (s : ByteArray) : called ⟨#[100, 97, 116, 101]⟩ (dateB, s) = true := show decide (smL dateB.data.toList = smL (⟨#[100, 97, 116, 101]⟩ : ByteArray).data.toList) = true by decide
theorem find_subj (s x : ByteArray) : findV ⟨#[115, 117, 98, 106, 101, 99, 116]⟩ [(subjB, s), (dateB, x)] = .tuple #[.string s, .int .i64 0] := by
  unfold findV
  rw [if_pos (called_ss s)]
theorem find_date (s x : ByteArray) : findV ⟨#[100, 97, 116, 101]⟩ [(subjB, s), (dateB, x)] = .tuple #[.string x, .int .i64 0] := by
  unfold findV
  rw [if_neg (by rw [called_ds]; simp)]
  unfold findV
  rw [if_pos (called_dd x)]

set_option maxHeartbeats 4000000 in
set_option maxRecDepth 100000 in
theorem topWorded_walk (a : Option Addr) (cap : Nat) (l : List Int) (base : Bool) (day : Int) (w : World) (ht : TabW w) (hlt : LTab w) (hv : RowI w (.slice a l.length cap) l) (hc : l.length ≤ cap) (hl : l.length ≤ 1048576) :
    Calls Tryz.prog 8 #[.slice a l.length cap, .bool base, .int .i64 day] w fun e w' => e = .returned (.bool true) ∧ Below w.heap.size w w' := by
  have HT := hide ht
  have HLT := hide hlt
  have HV := hide hv
  have HBG := hide (begins_any w)
  have HE := hide (fun W (h : TabW W) (h2 : RowI W (.slice a l.length cap) l) => encodeW_any a cap l base W h.tab.toRTab h2 hc (by omega))
  clear ht hlt hv
  go_enter Tryz.func8, Tryz.ntmps8
  go_wp2_with fail
  refine (unhide HBG).mono ?_
  rintro e w1 ⟨rfl, b1⟩
  have HT1 := hide ((unhide HT).below b1)
  have HL1 := hide ((unhide HLT).below b1)
  have HV1 := hide ((unhide HV).below b1)
  have HB1 := hide b1
  clear b1 HT HLT HV HBG
  rcases encW_cases base l with he | ⟨hi, he⟩
  · rw [he] at HE
    clear he
    go_wp2_with fail
    refine (unhide HE _ (unhide HT1) (unhide HV1)).mono ?_
    rintro e w2 ⟨rfl, b2⟩
    have HL2 := hide ((unhide HL1).below b2)
    have HB2 := hide (belows' (unhide HB1) b2)
    clear b2 HE
    cases hd : dayB day
    · have HW := hide (write_no day w2 hd)
      clear hd
      go_wp2_with fail
      refine (unhide HW).mono ?_
      rintro e w3 ⟨rfl, h3⟩
      subst h3
      go_wp2
      go_ret
      exact ⟨rfl, unhide HB2⟩
    · obtain ⟨y, m, d, hv, hn⟩ := day_exists hd
      have HW := hide (write_yes y m d day w2 (unhide HL2) hv hn)
      clear hd hv hn
      generalize bts (dayT y m d) = T at HW
      go_wp2_with fail
      refine (unhide HW).mono ?_
      rintro e w3 ⟨rfl, b3⟩
      have HB3 := hide (belows' (unhide HB2) b3)
      clear b3
      go_wp2
      go_ret
      exact ⟨rfl, unhide HB3⟩
  · rw [he] at HE
    clear he
    have hlen := enc_len_le base l
    have hpw := pcW_jw base (chunks l)
    have hvl := jw_vl base (chunks l)
    obtain ⟨s, hs⟩ : ∃ s, s = bts (jw base false (chunks l)) := ⟨_, rfl⟩
    have hsl : s.data.toList = jw base false (chunks l) := by rw [hs, toList_bts]
    have hss : s.size ≤ 15500000 := by rw [← sizeL, hsl]; omega
    rw [← hs] at HE
    rw [← hsl] at hpw hvl
    have HD := hide (fun W (h : TabW W) => decode_word s W h.tab h.err h.max (by omega))
    have hfl : (pcW s.data.toList).flatMap (·.1) = (chunks l).flatMap lettersL := by rw [hpw, wds_flat]
    rw [hfl] at HD
    have HIS : Hid (∀ n ∈ (chunks l).flatMap lettersL, isL (n : Int) = true) := hide (fun n hn => by
      obtain ⟨t, _, ht⟩ := List.mem_flatMap.1 hn
      exact lettersL_is t n ht)
    have HBK := hide (chunks_back hi)
    have HVL := hide hvl
    clear hlen hpw hs hsl hfl hi hvl
    go_wp2_with fail
    refine (unhide HE _ (unhide HT1) (unhide HV1)).mono ?_
    rintro e w2 ⟨rfl, b2⟩
    have HL2 := hide ((unhide HL1).below b2)
    have HT2 := hide ((unhide HT1).below b2)
    have HV2 := hide ((unhide HV1).below b2)
    have HB2 := hide (belows' (unhide HB1) b2)
    clear b2 HE HL1 HT1 HV1 HB1
    cases hd : dayB day
    · have HW := hide (write_no day w2 hd)
      clear hd
      go_wp2_with fail
      refine (unhide HW).mono ?_
      rintro e w3 ⟨rfl, h3⟩
      subst h3
      go_wp2
      go_ret
      exact ⟨rfl, unhide HB2⟩
    · obtain ⟨y, m, d, hv, hn⟩ := day_exists hd
      have hlen := dayT_len y m d (by have := vld_iff.1 hv; omega) (by have := vld_iff.1 hv; omega)
      have HW := hide (write_yes y m d day w2 (unhide HL2) hv hn)
      have HMA := hide (fun W (h : LTab W) => mail_any (dvL (dayT y m d)) W h (by rw [dvL_eq]; simp only [List.length_append, List.length_map, hlen, List.length_cons, List.length_nil]; split <;> decide) (ix_all2 _ (by rw [dvL_eq]; exact day_ascii2 y m d hv) (by rw [dvL_eq]; simp only [List.length_append, List.length_map, hlen, List.length_cons, List.length_nil]; split <;> decide)))
      rw [show mailR (dvL (dayT y m d)) = some day by rw [dvL_eq, mail_day2 y m d hv, hn]] at HMA
      simp only [numV] at HMA
      have HDV := hide (dv_vl y m d hv)
      have hl11 : (dayT y m d).length ≤ 11 := by rw [hlen]; split <;> omega
      clear hd hv hn hlen
      generalize dayT y m d = T at HW HMA HDV hl11
      obtain ⟨D, hD⟩ : ∃ D, D = [120, 44, 32] ++ T := ⟨_, rfl⟩
      have hcat : (⟨#[120, 44, 32]⟩ ++ bts T : ByteArray) = bts D := by rw [hD]; apply ext_list; rw [toList_bts]; simp [bts]
      have hDl : D.length ≤ 14 := by rw [hD]; simp; omega
      have hdv : dvL T = D.map dsh := by rw [hD]; rfl
      rw [hdv] at HMA HDV
      have hTs : (bts T).size ≤ 11 := by rw [size_bts]; exact hl11
      clear hD hdv hl11
      generalize bts T = tb at HW hcat hTs
      go_wp2_with fail
      refine (unhide HW).mono ?_
      rintro e W7 ⟨rfl, b3⟩
      have HL7 := hide ((unhide HL2).below b3)
      have HT7 := hide ((unhide HT2).below b3)
      have HV7 := hide ((unhide HV2).below b3)
      have HB7 := hide (belows' (unhide HB2) b3)
      clear b3 HL2 HT2 HV2 HB2 HW
      have hsb := size_bts D
      have kc := fun (w : World) => run_bytes_of_string (P := Tryz.prog) w 9 36 5 (bts D) Tryz.underlying9 Tryz.underlying36 Tryz.underlying5
      rw [hsb] at kc
      go_upto_region 8 with (fail)
      have HBY := hide (bytes_new W7 D (grownCap W7 D.length 0 5))
      have bN : Below W7.heap.size W7 (W7.alloc (.cells (bytesRow (bts D) (grownCap W7 D.length 0 5)) 5 ((bytesRow (bts D) (grownCap W7 D.length 0 5)).size, (bytesRow (bts D) (grownCap W7 D.length 0 5)).size + 1))).drew := ((Below.refl _ W7).alloc (Nat.le_refl _) _).drew
      obtain ⟨W, hW⟩ : ∃ W, W = (W7.alloc (.cells (bytesRow (bts D) (grownCap W7 D.length 0 5)) 5 ((bytesRow (bts D) (grownCap W7 D.length 0 5)).size, (bytesRow (bts D) (grownCap W7 D.length 0 5)).size + 1))).drew := ⟨_, rfl⟩
      rw [← hW] at HBY bN ⊢
      clear hW kc
      generalize grownCap W7 D.length 0 5 = cap2
      obtain ⟨B, hB⟩ : ∃ B, B = W7.heap.size := ⟨_, rfl⟩
      rw [← hB] at HBY bN ⊢
      have HBE := hide hB
      have HBN := hide bN
      clear hB hsb bN hcat
      go_wp2
      go_loopw [12, 47] (fun x z wr => ∃ k : Nat, z = .int .i64 k ∧ k ≤ D.length ∧ Bytes wr B (greF dsh k D) ∧ Below B W7 wr) (fun _ z _ => D.length - (intOf z).toNat)
      case atStart => exact ⟨0, rfl, Nat.zero_le _, by simpa [greF] using unhide HBY, unhide HBN⟩
      case round =>
        obtain ⟨k, rfl, hk, hby, hbw⟩ := hrel
        by_cases hlt : k < D.length
        · have hcc := hby.cell k (by rw [greF_len]; exact hlt)
          rw [greF_at dsh k D hlt] at hcc
          have hfz := hby.free k (by rw [greF_len]; exact hlt)
          have hlt' : (k : Int) < (D.length : Int) := by omega
          by_cases h45 : D[k] = 45
          · have hn := hby.set k (by rw [greF_len]; exact hlt) (dsh D[k])
            rw [← greF_next dsh k D hlt, h45, show ((dsh 45).toNat : Int) = 32 from rfl] at hn
            have HN := hide hn
            have HB2 := hide (hbw.setCell (p := ⟨B, k, none⟩) (Nat.le_refl _) (.int .u8 32))
            rw [h45, show (((45 : UInt8).toNat : Nat) : Int) = 45 from rfl] at hcc
            clear hn h45 hby hbw
            go_wp2
            exact ⟨⟨k + 1, by go_num, by omega, unhide HN, unhide HB2⟩, by simp [intOf]; omega⟩
          · have hup : dsh D[k] = D[k] := by unfold dsh; rw [if_neg h45]
            have HN := hide (show Bytes wr B (greF dsh (k + 1) D) by rw [greF_same dsh k D hlt hup]; exact hby)
            have HB2 := hide hbw
            have hne : ((D[k].toNat : Int) == 45) = false := by
              rw [beq_eq_false_iff_ne]
              intro e
              apply h45
              apply UInt8.toNat_inj.1
              have : (45 : UInt8).toNat = 45 := rfl
              omega
            clear hup hby hbw h45
            go_wp2
            exact ⟨⟨k + 1, by go_num, by omega, unhide HN, unhide HB2⟩, by simp [intOf]; omega⟩
        · have hlt' : ¬ (k : Int) < (D.length : Int) := by omega
          rw [greF_all dsh D k (by omega)] at hby
          have hcs : ∀ j (hj : j < (D.map dsh).length), wr.cell? (Addr.add ⟨B, 0, none⟩ j) = some (.int .u8 ((D.map dsh)[j].toNat : Int)) := by
            intro j hj
            have hadd : Addr.add ⟨B, 0, none⟩ j = ⟨B, j, none⟩ := by simp only [Addr.add, Nat.zero_add]; split <;> simp_all
            rw [hadd]
            exact hby.cell j hj
          have hcv := run_convert_bytes_back (P := Tryz.prog) wr 36 9 5 ⟨B, 0, none⟩ cap2 (D.map dsh) Tryz.underlying36 Tryz.underlying5 Tryz.underlying9 hcs
          rw [List.length_map, show ({ data := (D.map dsh).toArray } : ByteArray) = bts (D.map dsh) from rfl] at hcv
          have hbw' : Below W7.heap.size W7 wr := by rw [← unhide HBE]; exact hbw
          have HB8 := hide (belows' (unhide HB7) hbw')
          have HT8 := hide ((unhide HT7).below hbw')
          have HL8 := hide ((unhide HL7).below hbw')
          have HV8 := hide ((unhide HV7).below hbw')
          have hxz : (bts (D.map dsh)).size ≤ 14 := by rw [size_bts, List.length_map]; exact hDl
          have hxl : (bts (D.map dsh)).data.toList = D.map dsh := toList_bts _
          rw [← hxl] at HDV
          clear hcs hby hbw hbw' HB7 HT7 HL7 HV7 hxl
          generalize bts (D.map dsh) = x at hcv hxz HDV HMA
          -- the header
          have hfit : ∀ f ∈ [(subjB, s), (dateB, x)], Fits f := by
            intro f hf
            simp only [List.mem_cons, List.not_mem_nil, or_false] at hf
            rcases hf with rfl | rfl
            · exact ⟨by show subjB.size ≤ 16777216; decide, by show s.size ≤ _; omega⟩
            · exact ⟨by show dateB.size ≤ 16777216; decide, by show x.size ≤ _; omega⟩
          have HRF := hide (rowF_lit wr [(subjB, s), (dateB, x)] #[.string subjB, .string s, .string dateB, .string x] rfl (by show 2 ≤ 4194304; omega) hfit)
          have HWR := hide (hwrite_any _ _ _ (unhide HRF))
          have hok : ([(subjB, s), (dateB, x)].map lst).all okF = true := by
            simp only [List.map_cons, List.map_nil, List.all_cons, List.all_nil, Bool.and_true, Bool.and_eq_true]
            exact ⟨by unfold okF lst; rw [Bool.and_eq_true]; exact ⟨by show isNm subjB.data.toList = true; decide, unhide HVL⟩, by unfold okF lst; rw [Bool.and_eq_true]; exact ⟨by show isNm dateB.data.toList = true; decide, unhide HDV⟩⟩
          have hwr : writeR ([(subjB, s), (dateB, x)].map lst) = (textL [10] ([(subjB, s), (dateB, x)].map lst), 0) := by
            unfold writeR
            rw [if_pos hok, if_pos (by show 2 ≤ 1024; omega)]
          rw [hwr] at HWR
          have hpt := parse_text (e := [10]) (Or.inl rfl) ([(subjB, s), (dateB, x)].map lst) hok []
          rw [List.append_nil] at hpt
          have hfl := flat_le [(subjB, s), (dateB, x)]
          have hsf : sumF [(subjB, s), (dateB, x)] ≤ 15600000 := by
            have e1 : subjB.size = 7 := rfl
            have e2 : dateB.size = 4 := rfl
            simp only [sumF]
            omega
          have HPA := hide (fun W => parse_any (bts (textL [10] ([(subjB, s), (dateB, x)].map lst))) W (by rw [size_bts]; omega))
          rw [toList_bts, hpt] at HPA
          clear hpt hfl hsf hwr hok hfit
          generalize bts (textL [10] ([(subjB, s), (dateB, x)].map lst)) = htx at HWR HPA
          go_wp2_with fail
          refine (unhide HWR).mono ?_
          rintro e W9 ⟨rfl, b9'⟩
          have b9 : Below wr.heap.size wr W9 := belows' ((Below.refl _ wr).alloc (Nat.le_refl _) _) b9'
          have HB9 := hide (belows' (unhide HB8) b9)
          have HT9 := hide ((unhide HT8).below b9)
          have HL9 := hide ((unhide HL8).below b9)
          have HV9 := hide ((unhide HV8).below b9)
          clear b9 b9' HB8 HT8 HL8 HV8 HWR HRF hcv
          go_wp2_with fail
          refine (unhide HPA _).mono ?_
          rintro e W10 ⟨vm, fm, rfl, hrm, hm, b10⟩
          have hml : fm = [(subjB, s), (dateB, x)] := back_flds (by rw [hm, List.take_of_length_le (by show 2 ≤ 1024; omega)])
          subst hml
          have HRM := hide hrm
          have HB10 := hide (belows' (unhide HB9) b10)
          have HT10 := hide ((unhide HT9).below b10)
          have HL10 := hide ((unhide HL9).below b10)
          have HV10 := hide ((unhide HV9).below b10)
          clear hrm hm b10 HPA HB9 HT9 HL9 HV9
          have HF1 := hide (fun W (h : RowF W vm [(subjB, s), (dateB, x)]) => find_any vm _ ⟨#[115, 117, 98, 106, 101, 99, 116]⟩ W h (by decide))
          rw [find_subj] at HF1
          have HF2 := hide (fun W (h : RowF W vm [(subjB, s), (dateB, x)]) => find_any vm _ ⟨#[100, 97, 116, 101]⟩ W h (by decide))
          rw [find_date] at HF2
          go_wp2_with fail
          refine (unhide HF1 _ (unhide HRM)).mono ?_
          rintro e W11 ⟨rfl, b11⟩
          have HRM11 := hide ((unhide HRM).below b11)
          have HB11 := hide (belows' (unhide HB10) b11)
          have HT11 := hide ((unhide HT10).below b11)
          have HL11 := hide ((unhide HL10).below b11)
          have HV11 := hide ((unhide HV10).below b11)
          clear b11 HF1 HRM HB10 HT10 HL10 HV10
          go_wp2_with fail
          refine (unhide HF2 _ (unhide HRM11)).mono ?_
          rintro e W12 ⟨rfl, b12⟩
          have HB12 := hide (belows' (unhide HB11) b12)
          have HT12 := hide ((unhide HT11).below b12)
          have HL12 := hide ((unhide HL11).below b12)
          have HV12 := hide ((unhide HV11).below b12)
          clear b12 HF2 HRM11 HB11 HT11 HL11 HV11
          go_wp2_with fail
          refine (unhide HMA _ (unhide HL12)).mono ?_
          rintro e W13 ⟨rfl, b13⟩
          have HB13 := hide (belows' (unhide HB12) b13)
          have HT13 := hide ((unhide HT12).below b13)
          have HV13 := hide ((unhide HV12).below b13)
          clear b13 HMA HB12 HT12 HL12 HV12
          have hdd : ((day : Int) == day) = true := by simp
          go_wp2_with fail
          refine (unhide HD _ (unhide HT13)).mono ?_
          rintro e W14 ⟨v14, rfl, o14, b14⟩
          have HO := hide (own_rowI o14 (unhide HIS))
          rw [unhide HBK] at HO
          have HLS := hide (letters_top _ _ _ _ W14 (unhide HO) ((unhide HV13).below b14) (by omega))
          rw [decide_eq_true rfl] at HLS
          have HB14 := hide (belows' (unhide HB13) b14)
          clear o14 b14 HD HB13 HT13 HV13
          go_wp2_with fail
          refine (unhide HLS).mono ?_
          rintro e W15 ⟨rfl, b15⟩
          have HB15 := hide (belows' (unhide HB14) b15)
          clear b15
          go_wp2
          go_ret
          exact ⟨by first | rfl | simp, unhide HB15⟩
end Go.Proofs.YtdallfakfhajdaaGreatDoor
