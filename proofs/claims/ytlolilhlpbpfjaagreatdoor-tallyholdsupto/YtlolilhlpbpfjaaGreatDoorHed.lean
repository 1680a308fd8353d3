/-
  A mail's header in plain mathematics: lines, names, values; a header's fields, a header's text; there and back.
-/
namespace Go.Proofs.Hed

/-- Where the first line feed is. -/
def lfAt : List UInt8 → Option Nat
  | [] => none
  | c :: r => if c = 10 then some 0 else (lfAt r).map (· + 1)
/-- A line without a carriage return at its end. -/
def noCr (l : List UInt8) : List UInt8 := if l.getLast? = some 13 then l.dropLast else l
/-- The first line, without its end. -/
def lineOf (s : List UInt8) : List UInt8 := match lfAt s with | none => s | some i => noCr (s.take i)
/-- How many bytes it has with its end. -/
def lineN (s : List UInt8) : Nat := match lfAt s with | none => s.length | some i => i + 1
/-- A space or a tab. -/
def isB (c : UInt8) : Bool := c == 32 || c == 9
/-- Whether a line goes on with the one ahead. -/
def goesOn : List UInt8 → Bool
  | [] => false
  | c :: _ => isB c
/-- Without spaces and tabs at the ends. -/
def trimL (l : List UInt8) : List UInt8 := (l.reverse.dropWhile isB).reverse.dropWhile isB
/-- A byte of a name. -/
def nameB (c : UInt8) : Bool := decide (33 ≤ c.toNat ∧ c.toNat ≤ 126 ∧ c ≠ 58)
def isNm (l : List UInt8) : Bool := l.all nameB && !l.isEmpty
/-- Ahead of the first colon, and behind it. -/
def colon : List UInt8 → Option (List UInt8 × List UInt8)
  | [] => none
  | c :: r => if c = 58 then some ([], r) else (colon r).map fun p => (c :: p.1, p.2)
/-- Lines that go on: what they are, and how many bytes; f bounds how many. -/
def contF : Nat → List UInt8 → List UInt8 × Nat
  | 0, _ => ([], 0)
  | f + 1, s => if goesOn (lineOf s) then let r := contF f (s.drop (lineN s)); (lineOf s ++ r.1, lineN s + r.2) else ([], 0)
def contL (s : List UInt8) : List UInt8 × Nat := contF s.length s
/-- A header's fields, all of them, and where the body begins. -/
def parseF : Nat → List UInt8 → List (List UInt8 × List UInt8) × Nat
  | 0, _ => ([], 0)
  | f + 1, s =>
    if lineOf s = [] then ([], lineN s)
    else match colon (lineOf s) with
      | none => ([], 0)
      | some (n, v) =>
        if isNm n then
          let c := contL (s.drop (lineN s))
          let r := parseF f (s.drop (lineN s + c.2))
          ((n, trimL (v ++ c.1)) :: r.1, lineN s + c.2 + r.2)
        else ([], 0)
def parseL (s : List UInt8) : List (List UInt8 × List UInt8) × Nat := parseF (s.length + 1) s

theorem lfAt_lt : ∀ {s : List UInt8} {i : Nat}, lfAt s = some i → i < s.length
  | [], i, h => by simp [lfAt] at h
  | c :: r, i, h => by
    simp only [lfAt] at h
    split at h
    · simp at h; subst h; simp
    · simp only [Option.map_eq_some_iff] at h
      obtain ⟨k, hk, rfl⟩ := h
      have := lfAt_lt hk
      simp; omega
theorem lineN_le (s : List UInt8) : lineN s ≤ s.length := by
  unfold lineN
  split
  · exact Nat.le_refl _
  · rename_i h; have := lfAt_lt h; omega
theorem lineN_pos {s : List UInt8} (h : s ≠ []) : 1 ≤ lineN s := by
  unfold lineN
  split
  · cases s with | nil => exact absurd rfl h | cons c r => simp
  · omega
theorem line_ne {s : List UInt8} (h : lineOf s ≠ []) : s ≠ [] := by
  rintro rfl
  exact h rfl
theorem noCr_len (l : List UInt8) : (noCr l).length ≤ l.length := by
  unfold noCr
  split <;> simp
theorem lineOf_len (s : List UInt8) : (lineOf s).length ≤ lineN s := by
  unfold lineOf lineN
  split
  · exact Nat.le_refl _
  · rename_i i h
    have := noCr_len (s.take i)
    simp only [List.length_take] at this
    omega

theorem contF_le : ∀ (f : Nat) (s : List UInt8), (contF f s).2 ≤ s.length
  | 0, _ => Nat.zero_le _
  | f + 1, s => by
    have h1 := lineN_le s
    have h2 := contF_le f (s.drop (lineN s))
    rw [List.length_drop] at h2
    simp only [contF]
    split <;> simp only <;> omega
theorem goes_ne {s : List UInt8} (h : goesOn (lineOf s) = true) : s ≠ [] := line_ne (by intro e; rw [e] at h; cases h)
theorem contF_enough : ∀ (f g : Nat) (s : List UInt8), s.length ≤ f → s.length ≤ g → contF f s = contF g s
  | 0, g, s, h, _ => by
    have : s = [] := List.eq_nil_of_length_eq_zero (by omega)
    subst this
    cases g with
    | zero => rfl
    | succ g => rfl
  | f + 1, 0, s, _, h => by
    have : s = [] := List.eq_nil_of_length_eq_zero (by omega)
    subst this
    rfl
  | f + 1, g + 1, s, hf, hg => by
    simp only [contF]
    by_cases h : goesOn (lineOf s) = true
    · have := lineN_pos (goes_ne h)
      rw [contF_enough f g (s.drop (lineN s)) (by rw [List.length_drop]; omega) (by rw [List.length_drop]; omega)]
    · rw [if_neg h, if_neg h]
theorem contL_go {s : List UInt8} (h : goesOn (lineOf s) = true) : contL s = (lineOf s ++ (contL (s.drop (lineN s))).1, lineN s + (contL (s.drop (lineN s))).2) := by
  have h1 := lineN_pos (goes_ne h)
  have h0 : s.length ≠ 0 := by have := goes_ne h; simpa using this
  unfold contL
  obtain ⟨k, hk⟩ : ∃ k, s.length = k + 1 := ⟨s.length - 1, by omega⟩
  rw [hk]
  conv => lhs; unfold contF
  rw [if_pos h]
  simp only
  rw [contF_enough k (s.drop (lineN s)).length _ (by rw [List.length_drop]; omega) (Nat.le_refl _)]
theorem contL_stop {s : List UInt8} (h : goesOn (lineOf s) = false) : contL s = ([], 0) := by
  unfold contL
  cases s.length with
  | zero => rfl
  | succ k => unfold contF; rw [h]; rfl
theorem contL_le (s : List UInt8) : (contL s).2 ≤ s.length := contF_le _ _
theorem contF_len : ∀ (f : Nat) (s : List UInt8), (contF f s).1.length ≤ (contF f s).2
  | 0, _ => Nat.le_refl _
  | f + 1, s => by
    have h1 := lineOf_len s
    have h2 := contF_len f (s.drop (lineN s))
    simp only [contF]
    split
    · simp only [List.length_append]; omega
    · simp
theorem contL_len (s : List UInt8) : (contL s).1.length ≤ (contL s).2 := contF_len _ _

theorem parseF_le : ∀ (f : Nat) (s : List UInt8), (parseF f s).2 ≤ s.length
  | 0, _ => Nat.zero_le _
  | f + 1, s => by
    have h1 := lineN_le s
    simp only [parseF]
    split
    · exact h1
    · split
      · simp
      · rename_i n v _
        split
        · have h2 := parseF_le f (s.drop (lineN s + (contL (s.drop (lineN s))).2))
          have h3 := contL_le (s.drop (lineN s))
          rw [List.length_drop] at h2 h3
          simp only
          omega
        · simp
theorem parseL_le (s : List UInt8) : (parseL s).2 ≤ s.length := parseF_le _ _
theorem parseF_enough : ∀ (f g : Nat) (s : List UInt8), s.length < f → s.length < g → parseF f s = parseF g s
  | 0, _, _, h, _ => by omega
  | _ + 1, 0, _, _, h => by omega
  | f + 1, g + 1, s, hf, hg => by
    simp only [parseF]
    by_cases h0 : lineOf s = []
    · rw [if_pos h0, if_pos h0]
    · rw [if_neg h0, if_neg h0]
      have h1 := lineN_pos (line_ne h0)
      have hl := lineN_le s
      split
      · rfl
      · split
        · rw [parseF_enough f g _ (by rw [List.length_drop]; omega) (by rw [List.length_drop]; omega)]
        · rfl
theorem parseL_end {s : List UInt8} (h : lineOf s = []) : parseL s = ([], lineN s) := by
  unfold parseL parseF
  rw [if_pos h]
theorem parseL_none {s : List UInt8} (h : lineOf s ≠ []) (hc : colon (lineOf s) = none) : parseL s = ([], 0) := by
  unfold parseL parseF
  rw [if_neg h, hc]
theorem parseL_no {s n v : List UInt8} (h : lineOf s ≠ []) (hc : colon (lineOf s) = some (n, v)) (hn : isNm n = false) : parseL s = ([], 0) := by
  unfold parseL parseF
  rw [if_neg h, hc]
  simp only [hn]
  rfl
theorem parseL_field {s n v : List UInt8} (h : lineOf s ≠ []) (hc : colon (lineOf s) = some (n, v)) (hn : isNm n = true) :
    parseL s = ((n, trimL (v ++ (contL (s.drop (lineN s))).1)) :: (parseL (s.drop (lineN s + (contL (s.drop (lineN s))).2))).1,
      lineN s + (contL (s.drop (lineN s))).2 + (parseL (s.drop (lineN s + (contL (s.drop (lineN s))).2))).2) := by
  have h1 := lineN_pos (line_ne h)
  have hl := lineN_le s
  have h0 : s.length ≠ 0 := by have := line_ne h; simpa using this
  unfold parseL
  conv => lhs; unfold parseF
  rw [if_neg h, hc]
  simp only [hn, if_true]
  rw [parseF_enough s.length ((s.drop (lineN s + (contL (s.drop (lineN s))).2)).length + 1) _ (by rw [List.length_drop]; omega) (by omega)]

theorem colon_len : ∀ {l n v : List UInt8}, colon l = some (n, v) → n.length + 1 + v.length = l.length
  | [], n, v, h => by simp [colon] at h
  | c :: r, n, v, h => by
    simp only [colon] at h
    split at h
    · simp at h; obtain ⟨rfl, rfl⟩ := h; simp; omega
    · simp only [Option.map_eq_some_iff] at h
      obtain ⟨⟨a, b⟩, hk, hp⟩ := h
      simp at hp
      obtain ⟨rfl, rfl⟩ := hp
      have := colon_len hk
      simp; omega

/-! ### Written -/

/-- A value that may be written. -/
def isVl (v : List UInt8) : Bool := v.all (fun c => c != 10 && c != 13) && (match v with | [] => true | c :: _ => !isB c) && (match v.getLast? with | none => true | some c => !isB c)
def okF (f : List UInt8 × List UInt8) : Bool := isNm f.1 && isVl f.2
/-- A field's line. -/
def fieldL (e : List UInt8) (f : List UInt8 × List UInt8) : List UInt8 := f.1 ++ [58] ++ (if f.2 = [] then [] else 32 :: f.2) ++ e
/-- A header's text, each line with the end e. -/
def textL (e : List UInt8) (l : List (List UInt8 × List UInt8)) : List UInt8 := (l.map (fieldL e)).flatten ++ e
/-- The text that is written, or the error. -/
def writeR (l : List (List UInt8 × List UInt8)) : List UInt8 × Int := if l.all okF then (if l.length ≤ 1024 then (textL [10] l, 0) else ([], 15)) else ([], 2)

/-- The two ends that a line may have. -/
def End (e : List UInt8) : Prop := e = [10] ∨ e = [13, 10]
theorem lfAt_app : ∀ (a r : List UInt8), (∀ c ∈ a, c ≠ 10) → lfAt (a ++ 10 :: r) = some a.length
  | [], r, _ => by simp [lfAt]
  | c :: a, r, h => by
    simp only [List.cons_append, lfAt]
    rw [if_neg (h c (by simp)), lfAt_app a r (fun d hd => h d (by simp [hd]))]
    rfl
theorem noCr_of {a : List UInt8} (h : ∀ c ∈ a, c ≠ 13) : noCr a = a := by
  unfold noCr
  rw [if_neg]
  intro e
  exact h 13 (List.mem_of_getLast? e) rfl
theorem noCr_cr (a : List UInt8) : noCr (a ++ [13]) = a := by simp [noCr]
theorem line_end {e a r : List UInt8} (he : End e) (h10 : ∀ c ∈ a, c ≠ 10) (h13 : ∀ c ∈ a, c ≠ 13) : lineOf (a ++ e ++ r) = a ∧ lineN (a ++ e ++ r) = a.length + e.length := by
  rcases he with rfl | rfl
  · have := lfAt_app a r h10
    unfold lineOf lineN
    rw [show a ++ [10] ++ r = a ++ 10 :: r by simp, this]
    simp [noCr_of h13]
  · have := lfAt_app (a ++ [13]) r (by intro c hc; simp at hc; rcases hc with hc | rfl; exact h10 c hc; decide)
    unfold lineOf lineN
    rw [show a ++ [13, 10] ++ r = (a ++ [13]) ++ 10 :: r by simp, this]
    simp only
    rw [List.take_left' rfl, noCr_cr]
    simp
theorem name_facts {n : List UInt8} (h : isNm n = true) : n ≠ [] ∧ ∀ c ∈ n, c ≠ 10 ∧ c ≠ 13 ∧ c ≠ 58 ∧ isB c = false := by
  simp only [isNm, Bool.and_eq_true, List.all_eq_true] at h
  obtain ⟨h1, h2⟩ := h
  refine ⟨by rintro rfl; simp at h2, fun c hc => ?_⟩
  have := h1 c hc
  simp only [nameB, decide_eq_true_eq] at this
  obtain ⟨ha, hb, hd⟩ := this
  refine ⟨?_, ?_, hd, ?_⟩
  · rintro rfl; simp at ha
  · rintro rfl; simp at ha
  · simp only [isB, Bool.or_eq_false_iff, beq_eq_false_iff_ne]
    constructor
    · rintro rfl; simp at ha
    · rintro rfl; simp at ha
theorem colon_app : ∀ (n r : List UInt8), (∀ c ∈ n, c ≠ 58) → colon (n ++ 58 :: r) = some (n, r)
  | [], r, _ => by simp [colon]
  | c :: n, r, h => by
    simp only [List.cons_append, colon]
    rw [if_neg (h c (by simp)), colon_app n r (fun d hd => h d (by simp [hd]))]
    rfl
theorem trim_val {v : List UInt8} (h : isVl v = true) : trimL v = v ∧ trimL (32 :: v) = v := by
  simp only [isVl, Bool.and_eq_true] at h
  obtain ⟨⟨_, h2⟩, h3⟩ := h
  have e1 : v.dropWhile isB = v := by
    cases v with
    | nil => rfl
    | cons c r => simp at h2; simp [List.dropWhile, h2]
  have e2 : (v.reverse.dropWhile isB) = v.reverse := by
    rw [List.getLast?_eq_head?_reverse] at h3
    cases hr : v.reverse with
    | nil => rfl
    | cons c r => rw [hr] at h3; simp at h3; simp [List.dropWhile, h3]
  constructor
  · unfold trimL; rw [e2, List.reverse_reverse, e1]
  · unfold trimL
    cases v with
    | nil => decide
    | cons c r =>
      have e3 : ((32 :: c :: r).reverse.dropWhile isB) = (32 :: c :: r).reverse := by
        rw [show (32 :: c :: r).reverse = (c :: r).reverse ++ [32] by simp]
        cases hr : (c :: r).reverse with
        | nil => simp at hr
        | cons d q =>
          rw [hr] at e2
          have hd : isB d = false := by
            cases h : isB d with
            | false => rfl
            | true =>
              simp only [List.dropWhile, h] at e2
              have := congrArg List.length e2
              have hl := (List.dropWhile_sublist (p := isB) (l := q)).length_le
              simp at this
              omega
          simp [hd]
      rw [e3, List.reverse_reverse]
      rw [show (32 :: c :: r).dropWhile isB = (c :: r).dropWhile isB by simp [List.dropWhile, isB], e1]
theorem val_facts {v : List UInt8} (h : isVl v = true) : ∀ c ∈ v, c ≠ 10 ∧ c ≠ 13 := by
  simp only [isVl, Bool.and_eq_true, List.all_eq_true] at h
  intro c hc
  have := h.1.1 c hc
  simpa using this

/-- What begins with a text of fields goes on with no line of the one ahead. -/
theorem text_stop {e : List UInt8} (he : End e) (l : List (List UInt8 × List UInt8)) (hl : l.all okF = true) (body : List UInt8) : goesOn (lineOf (textL e l ++ body)) = false := by
  cases l with
  | nil =>
    have := (line_end (a := []) (r := body) he (by simp) (by simp)).1
    simp only [List.nil_append] at this
    simp only [textL, List.map_nil, List.flatten_nil, List.nil_append]
    rw [this]; rfl
  | cons f l =>
    simp only [List.all_cons, Bool.and_eq_true] at hl
    obtain ⟨hf, hl⟩ := hl
    simp only [okF, Bool.and_eq_true] at hf
    obtain ⟨hn, hv⟩ := hf
    obtain ⟨hne, hnc⟩ := name_facts hn
    have hvc := val_facts hv
    have e1 : textL e (f :: l) ++ body = (f.1 ++ [58] ++ (if f.2 = [] then [] else 32 :: f.2)) ++ e ++ (textL e l ++ body) := by simp [textL, fieldL]
    have hm : ∀ c ∈ f.1 ++ [58] ++ (if f.2 = [] then [] else 32 :: f.2), c ≠ 10 ∧ c ≠ 13 := by
      intro c hc
      simp only [List.mem_append, List.mem_singleton] at hc
      rcases hc with (hc | rfl) | hc
      · exact ⟨(hnc c hc).1, (hnc c hc).2.1⟩
      · decide
      · split at hc
        · cases hc
        · simp only [List.mem_cons] at hc
          rcases hc with rfl | hc
          · decide
          · exact hvc c hc
    rw [e1, (line_end he (fun c hc => (hm c hc).1) (fun c hc => (hm c hc).2)).1]
    obtain ⟨n, v⟩ := f
    cases n with
    | nil => exact absurd rfl hne
    | cons c n => simp only [List.cons_append, goesOn]; exact (hnc c (by simp)).2.2.2
/-- What was written is parsed, and the body begins behind it. -/
theorem parse_text {e : List UInt8} (he : End e) : ∀ (l : List (List UInt8 × List UInt8)), l.all okF = true → ∀ body, parseL (textL e l ++ body) = (l, (textL e l).length)
  | [], _, body => by
    have h := line_end (a := []) (r := body) he (by simp) (by simp)
    simp only [List.nil_append] at h
    simp only [textL, List.map_nil, List.flatten_nil, List.nil_append]
    rw [parseL_end h.1, h.2]
    simp
  | f :: l, hl, body => by
    simp only [List.all_cons, Bool.and_eq_true] at hl
    obtain ⟨hf, hl⟩ := hl
    simp only [okF, Bool.and_eq_true] at hf
    obtain ⟨hn, hv⟩ := hf
    obtain ⟨hne, hnc⟩ := name_facts hn
    have hvc := val_facts hv
    have e1 : textL e (f :: l) ++ body = (f.1 ++ [58] ++ (if f.2 = [] then [] else 32 :: f.2)) ++ e ++ (textL e l ++ body) := by simp [textL, fieldL]
    have hm : ∀ c ∈ f.1 ++ [58] ++ (if f.2 = [] then [] else 32 :: f.2), c ≠ 10 ∧ c ≠ 13 := by
      intro c hc
      simp only [List.mem_append, List.mem_singleton] at hc
      rcases hc with (hc | rfl) | hc
      · exact ⟨(hnc c hc).1, (hnc c hc).2.1⟩
      · decide
      · split at hc
        · cases hc
        · simp only [List.mem_cons] at hc
          rcases hc with rfl | hc
          · decide
          · exact hvc c hc
    obtain ⟨h1, h2⟩ := line_end (r := textL e l ++ body) he (fun c hc => (hm c hc).1) (fun c hc => (hm c hc).2)
    have hd : ((f.1 ++ [58] ++ (if f.2 = [] then [] else 32 :: f.2)) ++ e ++ (textL e l ++ body)).drop ((f.1 ++ [58] ++ (if f.2 = [] then [] else 32 :: f.2)).length + e.length) = textL e l ++ body := by
      rw [← List.length_append, List.drop_left]
    have hc : colon (f.1 ++ [58] ++ (if f.2 = [] then [] else 32 :: f.2)) = some (f.1, if f.2 = [] then [] else 32 :: f.2) := by
      rw [List.append_assoc]
      exact colon_app f.1 _ (fun c hc => (hnc c hc).2.2.1)
    have hL : lineOf ((f.1 ++ [58] ++ (if f.2 = [] then [] else 32 :: f.2)) ++ e ++ (textL e l ++ body)) ≠ [] := by rw [h1]; simp
    rw [e1, parseL_field hL (by rw [h1]; exact hc) hn, h2, hd, contL_stop (text_stop he l hl body)]
    simp only [List.append_nil, Nat.add_zero]
    rw [hd, parse_text he l hl body]
    simp only
    have ht : trimL (if f.2 = [] then [] else 32 :: f.2) = f.2 := by
      split
      · rename_i e; rw [e]; rfl
      · exact (trim_val hv).2
    rw [ht]
    apply Prod.ext
    · rfl
    · simp only [textL, List.map_cons, List.flatten_cons, fieldL, List.length_append]
      omega
end Go.Proofs.Hed
