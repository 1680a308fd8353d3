/-
  Plain mathematics: a client's day as the document says it, and as the program reads it, are one.
-/
import Derived.Test.YtoegfnonfmcnbaaDoorDml
import Derived.Test.YtoegfnonfmcnbaaDoorRdg
set_option linter.unusedVariables false
namespace Go.Proofs.YtoegfnonfmcnbaaDoor
open Go.RowKit Go.Proofs.Dcl


theorem smL_len (l : List UInt8) : (smL l).length = l.length := by simp [smL]
theorem monF_len (l : List UInt8) (f k : Nat) (hk : k + f ≤ 12) (h : monF l f k ≠ 0) : l.length = 3 := by
  induction f generalizing k with
  | zero => simp [monF] at h
  | succ f ih =>
    unfold monF at h
    split at h
    · rename_i e
      have := congrArg List.length e
      rw [smL_len, smL_len, nmL_len k (by omega)] at this
      exact this
    · exact ih (k + 1) (by omega) h
theorem mon_len {l : List UInt8} (h : monR l ≠ 0) : l.length = 3 := monF_len l 12 0 (by omega) h
theorem numR_len {l : List UInt8} {a n : Nat} (h : numR l a a = some n) : l.length = a := by
  unfold numR at h
  split at h
  · cases h
  · omega
theorem head_pos {l : List UInt8} {c : UInt8} (h : l.head? = some c) : 0 < l.length := by
  cases l with
  | nil => simp at h
  | cons a r => simp
theorem readDay_size {k : Nat} {l r : List UInt8} {x : Int} (h : readDayR k l = some (x, r)) : l.length = k + 9 + r.length := by
  unfold readDayR at h
  split at h
  · cases h
  · rename_i d hd
    have e1 := numR_len hd
    split at h
    · rename_i h1
      have e2 := head_pos h1
      split at h
      · cases h
      · rename_i hm
        have e3 := mon_len hm
        split at h
        · rename_i h2
          have e4 := head_pos h2
          split at h
          · cases h
          · rename_i y hy
            have e5 := numR_len hy
            split at h
            · simp only [Option.some.injEq, Prod.mk.injEq] at h
              have e6 := congrArg List.length h.2
              simp only [List.length_drop, List.length_take] at e1 e2 e3 e4 e5 e6
              omega
            · cases h
        · cases h
    · cases h

/-- What the document says of a client's day. -/
def docP (l : List UInt8) : Option Int :=
  if l.length < 10 ∨ 11 < l.length then none
  else if l.getD (l.length - 9) 0 ≠ 45 ∨ l.getD (l.length - 9 + 4) 0 ≠ 45 ∨ (l.length - 9 = 2 ∧ l.getD 0 0 = 48) then none
  else if vldB (digV (numR (l.drop (l.length - 9 + 5)) 4 4)) (monR ((l.drop (l.length - 9 + 1)).take 3)) (digV (numR (l.take (l.length - 9)) 1 2))
    then some (num (digV (numR (l.drop (l.length - 9 + 5)) 4 4)) (monR ((l.drop (l.length - 9 + 1)).take 3)) (digV (numR (l.take (l.length - 9)) 1 2))) else none

theorem parse_short {l : List UInt8} (h : l.length < 10 ∨ 11 < l.length) : parseR l = none := by
  unfold parseR
  split
  · rfl
  · rename_i hi
    generalize hk : (Lib.indexByte l 45).toNat = k
    have hk2 : k = 1 ∨ k = 2 := by omega
    cases hr : readDayR k l with
    | none => rfl
    | some p =>
      obtain ⟨x, r⟩ := p
      have := readDay_size hr
      cases r with
      | nil => simp at this; omega
      | cons a r => rfl

/-- Both ways to a day, of the digits, the name and the year. -/
def dayN (ds nm ys : List UInt8) (c1 c2 : UInt8) (k : Nat) : Option Int :=
  match numR ds k k with
  | none => none
  | some d => if c1 = 45 then if monR nm = 0 then none else if c2 = 45 then match numR ys 4 4 with
    | none => none
    | some y => if vldB y (monR nm) d then some (num y (monR nm) d) else none
    else none else none
theorem numR_same (ds : List UInt8) (k : Nat) (h : ds.length = k) (h1 : 1 ≤ k) (h2 : k ≤ 2) : numR ds 1 2 = numR ds k k := by
  unfold numR
  rw [if_neg (by omega), if_neg (by omega)]
theorem dayN_doc (ds nm ys : List UInt8) (k : Nat) (h : ds.length = k) (h1 : 1 ≤ k) (h2 : k ≤ 2) :
    (if vldB (digV (numR ys 4 4)) (monR nm) (digV (numR ds 1 2)) then some (num (digV (numR ys 4 4)) (monR nm) (digV (numR ds 1 2))) else none) = dayN ds nm ys 45 45 k := by
  rw [numR_same ds k h h1 h2]
  unfold dayN
  cases hd : numR ds k k with
  | none =>
    rw [if_neg]
    simp only [digV]
    rw [Bool.not_eq_true, vld_not]
    omega
  | some d =>
    by_cases hm : monR nm = 0
    · simp only [if_pos hm]
      rw [if_neg]
      · rfl
      rw [Bool.not_eq_true, vld_not, hm]
      omega
    · simp only [if_neg hm, if_true]
      cases hy : numR ys 4 4 with
      | none =>
        rw [if_neg]
        simp only [digV]
        rw [Bool.not_eq_true, vld_not]
        omega
      | some y => rfl
theorem dayOnly_ite (c : Prop) [Decidable c] (a b : Option (Int × List UInt8)) : dayOnly (if c then a else b) = if c then dayOnly a else dayOnly b := by split <;> rfl
theorem read_dayN (ds nm ys : List UInt8) (c1 c2 : UInt8) (k : Nat) (h : ds.length = k) (hn : nm.length = 3) (hy : ys.length = 4) :
    dayOnly (readDayR k (ds ++ c1 :: (nm ++ c2 :: ys))) = dayN ds nm ys c1 c2 k := by
  unfold readDayR dayN
  have e1 : (ds ++ c1 :: (nm ++ c2 :: ys)).take k = ds := by rw [← h]; simp
  have e2 : (ds ++ c1 :: (nm ++ c2 :: ys)).drop k = c1 :: (nm ++ c2 :: ys) := by rw [← h]; simp
  have e3 : (nm ++ c2 :: ys).take 3 = nm := by rw [← hn]; simp
  have e4 : (nm ++ c2 :: ys).drop 3 = c2 :: ys := by rw [← hn]; simp
  have e5 : ys.take 4 = ys := List.take_of_length_le (by omega)
  have e6 : ys.drop 4 = [] := List.drop_of_length_le (by omega)
  simp only [e1, e2, List.head?_cons, List.drop_succ_cons, List.drop_zero, e3, e4, e5, e6, Option.some.injEq]
  cases numR ds k k with
  | none => rfl
  | some d =>
    simp only []
    rw [dayOnly_ite, dayOnly_ite, dayOnly_ite]
    cases numR ys 4 4 with
    | none => rfl
    | some y => simp only []; rw [dayOnly_ite]; rfl
theorem not_digit {ds : List UInt8} {acc k : Nat} (h : 45 ∈ ds) : numA acc ds = none := by
  induction ds generalizing acc with
  | nil => simp at h
  | cons a r ih =>
    unfold numA
    by_cases ha : a = 45
    · subst ha; rfl
    · split
      · exact ih (by simpa [Ne.symm ha] using h)
      · rfl
theorem dayN_bad {ds nm ys : List UInt8} {c1 c2 : UInt8} {k : Nat} (h : 45 ∈ ds) : dayN ds nm ys c1 c2 k = none := by
  unfold dayN
  have : numR ds k k = none := by unfold numR; split; rfl; exact not_digit (k := k) h
  rw [this]
theorem index_at {ds r : List UInt8} (h : 45 ∉ ds) : Lib.indexByte (ds ++ 45 :: r) 45 = (ds.length : Int) := by
  induction ds with
  | nil => rfl
  | cons a t ih =>
    have h' : ¬ a = 45 ∧ 45 ∉ t := by simpa [eq_comm] using h
    simp only [List.cons_append, Lib.indexByte]
    rw [if_neg (by simpa using h'.1), ih h'.2, if_neg (by simp <;> omega)]
    simp
theorem parts_of (l : List UInt8) (k : Nat) (h : l.length = k + 9) : ∃ ds nm ys c1 c2, l = ds ++ c1 :: (nm ++ c2 :: ys) ∧ ds.length = k ∧ nm.length = 3 ∧ ys.length = 4 ∧ c1 = l.getD k 0 ∧ c2 = l.getD (k + 4) 0 ∧ ds = l.take k ∧ nm = (l.drop (k + 1)).take 3 ∧ ys = l.drop (k + 5) := by
  refine ⟨l.take k, (l.drop (k + 1)).take 3, l.drop (k + 5), l.getD k 0, l.getD (k + 4) 0, ?_, by simp; omega, by simp; omega, by simp; omega, rfl, rfl, rfl, rfl, rfl⟩
  have e1 : l.getD k 0 :: l.drop (k + 1) = l.drop k := by
    rw [List.drop_eq_getElem_cons (by omega : k < l.length)]
    simp [List.getD_eq_getElem?_getD, List.getElem?_eq_getElem (by omega : k < l.length)]
  have e2 : l.getD (k + 4) 0 :: l.drop (k + 5) = l.drop (k + 4) := by
    rw [List.drop_eq_getElem_cons (by omega : k + 4 < l.length)]
    simp [List.getD_eq_getElem?_getD, List.getElem?_eq_getElem (by omega : k + 4 < l.length)]
  have e3 : (l.drop (k + 1)).take 3 ++ l.drop (k + 4) = l.drop (k + 1) := by
    have := List.take_append_drop 3 (l.drop (k + 1))
    rwa [List.drop_drop, show k + 1 + 3 = k + 4 by omega] at this
  rw [e2, e3, e1, List.take_append_drop]

theorem index_first {l : List UInt8} {k : Nat} (h : Lib.indexByte l 45 = (k : Int)) : k < l.length ∧ l.getD k 0 = 45 ∧ 45 ∉ l.take k := by
  have := index_cut 45 l
  cases hc : cutAt 45 l with
  | none => rw [hc] at this; simp only at this; omega
  | some p =>
    obtain ⟨n, v⟩ := p
    rw [hc] at this
    obtain ⟨h1, h2⟩ := this
    have hn : n.length = k := by omega
    subst h2
    refine ⟨by simp; omega, ?_, ?_⟩
    · rw [List.getD_eq_getElem?_getD, List.getElem?_append_right (by omega), hn]; simp
    · rw [← hn, List.take_left']
      · clear h h1 hn
        induction n generalizing v with
        | nil => simp
        | cons a t ih =>
          simp only [cutAt, List.cons_append] at hc
          split at hc
          · simp at hc
          · rename_i ha
            cases hr : cutAt 45 (t ++ 45 :: v) with
            | none => rw [hr] at hc; simp at hc
            | some p =>
              rw [hr] at hc
              obtain ⟨p1, p2⟩ := p
              simp only [Option.map_some, Option.some.injEq, Prod.mk.injEq, List.cons.injEq, true_and] at hc
              obtain ⟨rfl, rfl⟩ := hc
              have := ih _ hr
              simp only [List.mem_cons, not_or]
              exact ⟨fun e => ha e.symm, this⟩
      · rfl
theorem parse_doc (l : List UInt8) : parseR l = docP l := by
  by_cases hl : l.length < 10 ∨ 11 < l.length
  · rw [parse_short hl]; unfold docP; rw [if_pos hl]
  obtain ⟨k, hk⟩ : ∃ k, l.length = k + 9 := ⟨l.length - 9, by omega⟩
  have hk' : l.length - 9 = k := by omega
  unfold docP
  rw [if_neg hl, hk']
  obtain ⟨ds, nm, ys, c1, c2, hl2, hd, hn, hy, g1, g2, g3, g4, g5⟩ := parts_of l k hk
  rw [← g1, ← g2, ← g3, ← g4, ← g5, dayN_doc ds nm ys k hd (by omega) (by omega)]
  have g0 : l.getD 0 0 = ds.headD 0 := by
    rw [hl2]
    cases ds with
    | nil => simp at hd; omega
    | cons a r => simp
  have gh : l.head? = some (ds.headD 0) := by
    rw [hl2]
    cases ds with
    | nil => simp at hd; omega
    | cons a r => simp
  rw [g0]
  unfold parseR
  rw [gh]
  by_cases hm : 45 ∈ ds
  · rw [dayN_bad hm]
    have : ∀ c : Prop, ∀ d : Decidable c, @ite _ c d (none : Option Int) none = none := fun c d => by split <;> rfl
    rw [this]
    split
    · rfl
    · rename_i hi
      obtain ⟨j, hj⟩ : ∃ j : Nat, Lib.indexByte l 45 = (j : Int) := ⟨(Lib.indexByte l 45).toNat, by omega⟩
      obtain ⟨j1, j2, j3⟩ := index_first hj
      rw [hj, Int.toNat_natCast]
      cases hr : readDayR j l with
      | none => rfl
      | some p =>
        obtain ⟨x, r⟩ := p
        have hlen := readDay_size hr
        cases r with
        | nil =>
          exfalso
          have : j = k := by simp at hlen; omega
          subst this
          rw [← g3] at j3
          exact j3 hm
        | cons a r => rfl
  · by_cases hc : c1 = 45
    · subst hc
      have hix : Lib.indexByte l 45 = (k : Int) := by rw [hl2, index_at hm, hd]
      rw [hix, Int.toNat_natCast]
      have hrd := read_dayN ds nm ys 45 c2 k hd hn hy
      rw [← hl2] at hrd
      rw [hrd]
      by_cases h2 : c2 = 45
      · subst h2
        by_cases h3 : k = 2 ∧ ds.headD 0 = 48
        · rw [if_pos (Or.inr (Or.inr ⟨by omega, by rw [h3.2]⟩)), if_pos (Or.inr (Or.inr h3))]
        · rw [if_neg, if_neg]
          · rintro (h | h | h)
            · exact h rfl
            · exact h rfl
            · exact h3 h
          · rintro (h | h | ⟨h, h'⟩)
            · omega
            · omega
            · exact h3 ⟨by omega, by simpa using h'⟩
      · rw [if_pos (Or.inr (Or.inl h2))]
        have : dayN ds nm ys 45 c2 k = none := by
          unfold dayN
          cases numR ds k k with
          | none => rfl
          | some d => simp only [if_neg h2]; simp
        rw [this]
        split <;> rfl
    · rw [if_pos (Or.inl hc)]
      split
      · rfl
      · rename_i hi
        obtain ⟨j, hj⟩ : ∃ j : Nat, Lib.indexByte l 45 = (j : Int) := ⟨(Lib.indexByte l 45).toNat, by omega⟩
        obtain ⟨j1, j2, j3⟩ := index_first hj
        rw [hj, Int.toNat_natCast]
        cases hr : readDayR j l with
        | none => rfl
        | some p =>
          obtain ⟨x, r⟩ := p
          have hlen := readDay_size hr
          cases r with
          | nil =>
            exfalso
            have : j = k := by simp at hlen; omega
            subst this
            exact hc (g1.trans j2)
          | cons a r => rfl
end Go.Proofs.YtoegfnonfmcnbaaDoor
