/-
  Plain mathematics: a client's time as the document says it, and as the program reads it, are one.
-/
import Derived.Test.YtoegfnonfmcnbaaDoorDmm
import Derived.Test.YtoegfnonfmcnbaaDoorDpt
import Derived.Test.YtoegfnonfmcnbaaDoorRpm
set_option linter.unusedVariables false
namespace Go.Proofs.YtoegfnonfmcnbaaDoor
open Go.RowKit Go.Proofs.Dcl


theorem docP_dayN (ds nm ys : List UInt8) (c1 c2 : UInt8) (k : Nat) (h : ds.length = k) (hn : nm.length = 3) (hy : ys.length = 4) (h1 : 1 ≤ k) (h2 : k ≤ 2) :
    docP (ds ++ c1 :: (nm ++ c2 :: ys)) = if k = 2 ∧ ds.headD 0 = 48 then none else dayN ds nm ys c1 c2 k := by
  obtain ⟨l, hl⟩ : ∃ l, l = ds ++ c1 :: (nm ++ c2 :: ys) := ⟨_, rfl⟩
  have hlen : l.length = k + 9 := by rw [hl]; simp; omega
  rw [← hl]
  unfold docP
  have e0 : l.length - 9 = k := by omega
  have e1 : l.getD k 0 = c1 := by rw [hl, List.getD_eq_getElem?_getD, List.getElem?_append_right (by omega), h]; simp
  have e2 : l.getD (k + 4) 0 = c2 := by
    rw [hl, List.getD_eq_getElem?_getD, List.getElem?_append_right (by omega), h, show k + 4 - k = 3 + 1 by omega, List.getElem?_cons_succ, List.getElem?_append_right (by omega), hn]; simp
  have e3 : l.take k = ds := by rw [hl, ← h]; simp
  have e4 : (l.drop (k + 1)).take 3 = nm := by
    rw [hl, ← h, ← List.drop_drop, List.drop_left, List.drop_succ_cons, List.drop_zero, ← hn]; simp
  have e5 : l.drop (k + 5) = ys := by
    rw [hl, show k + 5 = k + (1 + (3 + 1)) by omega, ← List.drop_drop, ← List.drop_drop, ← List.drop_drop, ← h, List.drop_left, List.drop_succ_cons, List.drop_zero, ← hn, List.drop_left]; simp
  have e6 : l.getD 0 0 = ds.headD 0 := by
    rw [hl]
    cases ds with
    | nil => simp at h; omega
    | cons a r => simp
  rw [if_neg (by omega), e0, e1, e2, e3, e4, e5, e6, dayN_doc ds nm ys k h h1 h2]
  by_cases a : c1 = 45
  · by_cases b : c2 = 45
    · subst a b
      by_cases c : k = 2 ∧ ds.headD 0 = 48
      · rw [if_pos (Or.inr (Or.inr c)), if_pos c]
      · rw [if_neg c, if_neg]
        rintro (x | x | x)
        · exact x rfl
        · exact x rfl
        · exact c x
    · rw [if_pos (Or.inr (Or.inl b))]
      split
      · rfl
      · unfold dayN
        cases numR ds k k with
        | none => rfl
        | some d => simp only [if_neg b]; simp
  · rw [if_pos (Or.inl a)]
    split
    · rfl
    · unfold dayN
      cases numR ds k k with
      | none => rfl
      | some d => simp only [if_neg a]
theorem read_rest (ds nm ys rest : List UInt8) (c1 c2 : UInt8) (k : Nat) (h : ds.length = k) (hn : nm.length = 3) (hy : ys.length = 4) :
    readDayR k (ds ++ c1 :: (nm ++ c2 :: (ys ++ rest))) = (dayN ds nm ys c1 c2 k).map fun x => (x, rest) := by
  unfold readDayR dayN
  have e1 : (ds ++ c1 :: (nm ++ c2 :: (ys ++ rest))).take k = ds := by rw [← h]; simp
  have e2 : (ds ++ c1 :: (nm ++ c2 :: (ys ++ rest))).drop k = c1 :: (nm ++ c2 :: (ys ++ rest)) := by rw [← h]; simp
  have e3 : (nm ++ c2 :: (ys ++ rest)).take 3 = nm := by rw [← hn]; simp
  have e4 : (nm ++ c2 :: (ys ++ rest)).drop 3 = c2 :: (ys ++ rest) := by rw [← hn]; simp
  have e5 : (ys ++ rest).take 4 = ys := by rw [← hy]; simp
  have e6 : (ys ++ rest).drop 4 = rest := by rw [← hy]; simp
  simp only [e1, e2, List.head?_cons, List.drop_succ_cons, List.drop_zero, e3, e4, e5, e6, Option.some.injEq]
  cases numR ds k k with
  | none => rfl
  | some d =>
    simp only []
    by_cases a : c1 = 45
    · simp only [if_pos a]
      by_cases b : monR nm = 0
      · simp only [if_pos b]; rfl
      · simp only [if_neg b]
        by_cases c : c2 = 45
        · simp only [if_pos c]
          cases numR ys 4 4 with
          | none => rfl
          | some y =>
            simp only []
            split <;> rfl
        · simp only [if_neg c]; rfl
    · simp only [if_neg a]; rfl

/-- The day's text of a time's. -/
def docDay (l : List UInt8) : List UInt8 := if l.getD 0 0 = 32 then (l.take 11).drop 1 else if l.getD 0 0 = 48 then (l.take 11).drop 1 else l.take 11
def twoA (l : List UInt8) (k : Nat) : Int := digV (numR ((l.drop k).take 2) 2 2)
/-- Whether something else than the day is wrong. -/
def badT (l : List UInt8) : Bool := decide (l.getD 11 0 ≠ 32 ∨ l.getD 14 0 ≠ 58 ∨ l.getD 17 0 ≠ 58 ∨ l.getD 20 0 ≠ 32 ∨ (l.getD 21 0 ≠ 43 ∧ l.getD 21 0 ≠ 45) ∨ twoA l 12 < 0 ∨ 23 < twoA l 12 ∨ twoA l 15 < 0 ∨ 59 < twoA l 15 ∨ twoA l 18 < 0 ∨ 59 < twoA l 18 ∨ twoA l 22 < 0 ∨ twoA l 24 < 0 ∨ 59 < twoA l 24)
/-- What the document says of a client's time. -/
def docT (l : List UInt8) : Option (Int × Int × Int) :=
  if l.length ≠ 26 then none else match docP (docDay l) with
    | none => none
    | some n => if badT l then none else some (n, 3600 * twoA l 12 + 60 * twoA l 15 + twoA l 18, if l.getD 21 0 = 45 then -(60 * twoA l 22 + twoA l 24) else 60 * twoA l 22 + twoA l 24)

theorem sHas_len {c : UInt8} {l r : List UInt8} (h : sHas c l = some r) : l.length = r.length + 1 := by
  unfold sHas at h
  split at h
  · rename_i hh
    have := head_pos hh
    simp only [Option.some.injEq] at h
    subst h
    simp; omega
  · cases h
theorem sTwo_len {b n : Nat} {l r : List UInt8} (h : sTwo b l = some (n, r)) : l.length = r.length + 2 := by
  unfold sTwo at h
  split at h
  · cases h
  · rename_i x hx
    have := numR_len hx
    split at h
    · simp only [Option.some.injEq, Prod.mk.injEq] at h
      rw [← h.2]
      simp at this ⊢; omega
    · cases h
theorem sSign_len {b : Bool} {l r : List UInt8} (h : sSign l = some (b, r)) : l.length = r.length + 1 := by
  unfold sSign at h
  split at h
  · rename_i hh
    have := head_pos hh
    simp only [Option.some.injEq, Prod.mk.injEq] at h
    rw [← h.2]; simp; omega
  · split at h
    · rename_i hh
      have := head_pos hh
      simp only [Option.some.injEq, Prod.mk.injEq] at h
      rw [← h.2]; simp; omega
    · cases h
theorem bind_of {α β : Type} {o : Option α} {f : α → Option β} {b : β} (h : o.bind f = some b) : ∃ a, o = some a ∧ f a = some b := by
  cases o with
  | none => simp at h
  | some a => exact ⟨a, rfl, h⟩
theorem pt_len {l : List UInt8} {x : Int × Int × Int} (h : ptR l = some x) : l.length = 26 := by
  unfold ptR at h
  obtain ⟨⟨d, r⟩, h0, h⟩ := bind_of h
  have hr : l.length = 11 + r.length := by
    split at h0
    · rename_i hh
      have a := head_pos hh
      have b := readDay_size h0
      simp at b; omega
    · have b := readDay_size h0
      omega
  obtain ⟨p1, h1, h⟩ := bind_of h
  obtain ⟨q1, k1, h1⟩ := bind_of h1
  obtain ⟨p2, h2, h⟩ := bind_of h
  obtain ⟨q2, k2, h2⟩ := bind_of h2
  obtain ⟨p3, h3, h⟩ := bind_of h
  obtain ⟨q3, k3, h3⟩ := bind_of h3
  obtain ⟨p4, h4, h⟩ := bind_of h
  obtain ⟨q4, k4, h4⟩ := bind_of h4
  obtain ⟨p5, h5, h⟩ := bind_of h
  obtain ⟨p6, h6, h⟩ := bind_of h
  have a1 := sHas_len k1
  have a2 := sTwo_len h1
  have a3 := sHas_len k2
  have a4 := sTwo_len h2
  have a5 := sHas_len k3
  have a6 := sTwo_len h3
  have a7 := sHas_len k4
  have a8 := sSign_len h4
  have a9 := sTwo_len h5
  have a10 := sTwo_len h6
  unfold pt7 at h
  split at h
  · rename_i e
    have e0 : p6.2.length = 0 := by rw [e]; rfl
    simp at a1 a2 a3 a4 a5 a6 a7 a8 a9 a10
    omega
  · cases h
theorem list26 (l : List UInt8) (h : l.length = 26) : ∃ a0 a1 a2 a3 a4 a5 a6 a7 a8 a9 a10 a11 a12 a13 a14 a15 a16 a17 a18 a19 a20 a21 a22 a23 a24 a25, l = [a0, a1, a2, a3, a4, a5, a6, a7, a8, a9, a10, a11, a12, a13, a14, a15, a16, a17, a18, a19, a20, a21, a22, a23, a24, a25] := by
  rcases l with _ | ⟨a0, _ | ⟨a1, _ | ⟨a2, _ | ⟨a3, _ | ⟨a4, _ | ⟨a5, _ | ⟨a6, _ | ⟨a7, _ | ⟨a8, _ | ⟨a9, _ | ⟨a10, _ | ⟨a11, _ | ⟨a12, _ | ⟨a13, _ | ⟨a14, _ | ⟨a15, _ | ⟨a16, _ | ⟨a17, _ | ⟨a18, _ | ⟨a19, _ | ⟨a20, _ | ⟨a21, _ | ⟨a22, _ | ⟨a23, _ | ⟨a24, _ | ⟨a25, _ | ⟨a26, r⟩⟩⟩⟩⟩⟩⟩⟩⟩⟩⟩⟩⟩⟩⟩⟩⟩⟩⟩⟩⟩⟩⟩⟩⟩⟩⟩ <;> first | exact ⟨_, _, _, _, _, _, _, _, _, _, _, _, _, _, _, _, _, _, _, _, _, _, _, _, _, _, rfl⟩ | (exfalso; simp at h) | (exfalso; simp at h; omega)
theorem numR_le' {l : List UInt8} {a b n : Nat} (h : numR l a b = some n) : n < 10 ^ b := (numR_le h).2
theorem num_zero (c : UInt8) : numR [48, c] 2 2 = numR [c] 1 1 := by simp [numR, numA, digB]
theorem sTwo_two' (b : Nat) (x y : UInt8) (r : List UInt8) : sTwo b (x :: y :: r) = match numR [x, y] 2 2 with | none => none | some n => if n < b then some (n, r) else none := rfl

theorem time_doc (l : List UInt8) : ptR l = docT l := by
  by_cases hl : l.length = 26
  · obtain ⟨a0, a1, a2, a3, a4, a5, a6, a7, a8, a9, a10, a11, a12, a13, a14, a15, a16, a17, a18, a19, a20, a21, a22, a23, a24, a25, rfl⟩ := list26 l hl
    have hday : ∃ D : Option Int, docP (docDay [a0, a1, a2, a3, a4, a5, a6, a7, a8, a9, a10, a11, a12, a13, a14, a15, a16, a17, a18, a19, a20, a21, a22, a23, a24, a25]) = D ∧ (if [a0, a1, a2, a3, a4, a5, a6, a7, a8, a9, a10, a11, a12, a13, a14, a15, a16, a17, a18, a19, a20, a21, a22, a23, a24, a25].head? = some 32 then readDayR 1 ([a0, a1, a2, a3, a4, a5, a6, a7, a8, a9, a10, a11, a12, a13, a14, a15, a16, a17, a18, a19, a20, a21, a22, a23, a24, a25].drop 1) else readDayR 2 [a0, a1, a2, a3, a4, a5, a6, a7, a8, a9, a10, a11, a12, a13, a14, a15, a16, a17, a18, a19, a20, a21, a22, a23, a24, a25]) = D.map fun x => (x, [a11, a12, a13, a14, a15, a16, a17, a18, a19, a20, a21, a22, a23, a24, a25]) := by
      by_cases h32 : a0 = 32
      · refine ⟨dayN [a1] [a3, a4, a5] [a7, a8, a9, a10] a2 a6 1, ?_, ?_⟩
        · have := docP_dayN [a1] [a3, a4, a5] [a7, a8, a9, a10] a2 a6 1 rfl rfl rfl (by omega) (by omega)
          simpa [docDay, h32] using this
        · have := read_rest [a1] [a3, a4, a5] [a7, a8, a9, a10] [a11, a12, a13, a14, a15, a16, a17, a18, a19, a20, a21, a22, a23, a24, a25] a2 a6 1 rfl rfl rfl
          simpa [h32] using this
      · have hr := read_rest [a0, a1] [a3, a4, a5] [a7, a8, a9, a10] [a11, a12, a13, a14, a15, a16, a17, a18, a19, a20, a21, a22, a23, a24, a25] a2 a6 2 rfl rfl rfl
        by_cases h48 : a0 = 48
        · refine ⟨dayN [a1] [a3, a4, a5] [a7, a8, a9, a10] a2 a6 1, ?_, ?_⟩
          · have := docP_dayN [a1] [a3, a4, a5] [a7, a8, a9, a10] a2 a6 1 rfl rfl rfl (by omega) (by omega)
            simpa [docDay, h32, h48] using this
          · have e : dayN [a0, a1] [a3, a4, a5] [a7, a8, a9, a10] a2 a6 2 = dayN [a1] [a3, a4, a5] [a7, a8, a9, a10] a2 a6 1 := by
              unfold dayN; rw [h48, num_zero]
            rw [e] at hr
            simpa [h32] using hr
        · refine ⟨dayN [a0, a1] [a3, a4, a5] [a7, a8, a9, a10] a2 a6 2, ?_, ?_⟩
          · have := docP_dayN [a0, a1] [a3, a4, a5] [a7, a8, a9, a10] a2 a6 2 rfl rfl rfl (by omega) (by omega)
            simpa [docDay, h32, h48] using this
          · simpa [h32] using hr
    obtain ⟨D, d1, d2⟩ := hday
    unfold ptR docT
    rw [d1, d2, if_neg (by simp)]
    cases D with
    | none => rfl
    | some n =>
      simp only [Option.map_some, Option.bind_some, badT, twoA, List.getD_cons_succ, List.getD_cons_zero, List.drop_succ_cons, List.drop_zero, List.take_succ_cons, List.take_zero]
      unfold pt1
      by_cases b1 : ¬ (a11 = 32)
      · simp [sHas, b1]
      replace b1 := Classical.not_not.mp b1
      unfold pt2
      have x1 : sHas 32 (a11 :: [a12, a13, a14, a15, a16, a17, a18, a19, a20, a21, a22, a23, a24, a25]) = some [a12, a13, a14, a15, a16, a17, a18, a19, a20, a21, a22, a23, a24, a25] := by simp [sHas, b1]
      rw [x1, Option.bind_some, sTwo_two']
      cases hh : numR [a12, a13] 2 2 with
      | none => simp [digV]
      | some h =>
        by_cases c1 : ¬ (h < 24)
        · simp only [if_neg c1, Option.bind_none]
          rw [if_pos]
          rw [decide_eq_true_iff]; simp only [digV]; omega
        replace c1 := Classical.not_not.mp c1
        simp only [if_pos c1, Option.bind_some]
        by_cases b2 : ¬ (a14 = 58)
        · simp [sHas, b2]
        replace b2 := Classical.not_not.mp b2
        have x2 : sHas 58 (a14 :: [a15, a16, a17, a18, a19, a20, a21, a22, a23, a24, a25]) = some [a15, a16, a17, a18, a19, a20, a21, a22, a23, a24, a25] := by simp [sHas, b2]
        rw [x2, Option.bind_some, sTwo_two']
        cases hm : numR [a15, a16] 2 2 with
        | none => simp [digV]
        | some m =>
          by_cases c2 : ¬ (m < 60)
          · simp only [if_neg c2, Option.bind_none]
            rw [if_pos]
            rw [decide_eq_true_iff]; simp only [digV]; omega
          replace c2 := Classical.not_not.mp c2
          simp only [if_pos c2, Option.bind_some]
          unfold pt3
          by_cases b3 : ¬ (a17 = 58)
          · simp [sHas, b3]
          replace b3 := Classical.not_not.mp b3
          have x3 : sHas 58 (a17 :: [a18, a19, a20, a21, a22, a23, a24, a25]) = some [a18, a19, a20, a21, a22, a23, a24, a25] := by simp [sHas, b3]
          rw [x3, Option.bind_some, sTwo_two']
          cases hx : numR [a18, a19] 2 2 with
          | none => simp [digV]
          | some x =>
            by_cases c3 : ¬ (x < 60)
            · simp only [if_neg c3, Option.bind_none]
              rw [if_pos]
              rw [decide_eq_true_iff]; simp only [digV]; omega
            replace c3 := Classical.not_not.mp c3
            simp only [if_pos c3, Option.bind_some]
            unfold pt4
            by_cases b4 : ¬ (a20 = 32)
            · simp [sHas, b4]
            replace b4 := Classical.not_not.mp b4
            have x4 : sHas 32 (a20 :: [a21, a22, a23, a24, a25]) = some [a21, a22, a23, a24, a25] := by simp [sHas, b4]
            rw [x4, Option.bind_some]
            by_cases b5 : ¬ (a21 = 45 ∨ a21 = 43)
            · have n1 : a21 ≠ 45 := fun e => b5 (Or.inl e)
              have n2 : a21 ≠ 43 := fun e => b5 (Or.inr e)
              simp [sSign, n1, n2]
            replace b5 := Classical.not_not.mp b5
            have x5 : sSign (a21 :: [a22, a23, a24, a25]) = some (decide (a21 = 45), [a22, a23, a24, a25]) := by
              rcases b5 with e | e
              · simp [sSign, e]
              · simp [sSign, e]
            rw [x5, Option.bind_some]
            unfold pt5
            simp only
            rw [sTwo_two']
            cases hz : numR [a22, a23] 2 2 with
            | none => simp [digV]
            | some zh =>
              have zb : zh < 100 := by
                have := (numR_le' hz)
                omega
              simp only [if_pos zb, Option.bind_some]
              unfold pt6
              simp only
              rw [sTwo_two']
              cases hq : numR [a24, a25] 2 2 with
              | none => simp [digV]
              | some zm =>
                by_cases c4 : ¬ (zm < 60)
                · simp only [if_neg c4, Option.bind_none]
                  rw [if_pos]
                  rw [decide_eq_true_iff]; simp only [digV]; omega
                replace c4 := Classical.not_not.mp c4
                simp only [if_pos c4, Option.bind_some]
                unfold pt7
                rw [if_pos rfl]
                refine Eq.trans ?_ (if_neg ?_).symm
                · simp only [digV, decide_eq_true_eq, Option.some.injEq, Prod.mk.injEq, true_and]
                  refine ⟨by push_cast; omega, ?_⟩
                  split <;> push_cast <;> omega
                · rw [decide_eq_true_iff]
                  simp only [digV]
                  rintro (q | q | q | q | q | q | q | q | q | q | q | q | q | q)
                  · exact q b1
                  · exact q b2
                  · exact q b3
                  · exact q b4
                  · rcases b5 with e | e
                    · exact q.2 e
                    · exact q.1 e
                  all_goals omega
  · have : ptR l = none := by
      cases h : ptR l with
      | none => rfl
      | some x => exact absurd (pt_len h) hl
    rw [this]; unfold docT; rw [if_pos hl]
end Go.Proofs.YtoegfnonfmcnbaaDoor
