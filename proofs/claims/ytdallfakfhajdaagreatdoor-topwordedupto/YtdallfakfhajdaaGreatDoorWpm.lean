/-
  How many letters and words a value's pieces have: plain mathematics.
-/
import Derived.Test.YtdallfakfhajdaaGreatDoorWde
set_option linter.unusedVariables false
namespace Go.Proofs.YtdallfakfhajdaaGreatDoor
open Go.RowKit Go.Proofs.Enc Go.Proofs.Rns

theorem rdL_le (hl : ∀ c b, (decR c b).1.length ≤ b.length) (l : List UInt8) : (rdL (rdW l)).length ≤ rdN (rdW l) := by
  unfold rdW
  cases ho : opW l with
  | none => simp [rdL, rdN]
  | some r =>
    obtain ⟨hr, h2⟩ := opW_some ho
    have hrl : r.length = l.length - 2 := by rw [hr, List.length_drop]
    have l1 := cutD_len 63 r
    have l2 := cutD_len 63 (cutD 63 r).2
    have l3 := cutD_len 63 (cutD 63 (cutD 63 r).2).2
    simp only
    unfold rdP partsW
    simp only
    split
    · split
      · split
        · simp [rdL, rdN]
        · rename_i b hb
          have hbl := textR_len hb
          have := hl (setW ⟨(cutD 63 r).1, (cutD 63 (cutD 63 r).2).1, (cutD 63 (cutD 63 (cutD 63 r).2).2).1, (cutD 63 (cutD 63 (cutD 63 r).2).2).2⟩).1 b
          simp only [rdL, rdN]
          omega
      · simp [rdL, rdN]
    · simp [rdL, rdN]
theorem fdW_few (hl : ∀ c b, (decR c b).1.length ≤ b.length) : ∀ (l : List UInt8) (k : Nat), (fdW l k).2.1.length ≤ (fdW l k).2.2
  | [], k => by simp [fdW]
  | a :: r, k => by
    unfold fdW
    split
    · exact rdL_le hl (a :: r)
    · exact fdW_few hl r (k + 1)
theorem pcF_few (hl : ∀ c b, (decR c b).1.length ≤ b.length) (hs : ∀ b, (lettersL b).length ≤ b.length) : ∀ (f : Nat) (bw : Bool) (l : List UInt8), ((pcF f bw l).flatMap (·.1)).length ≤ l.length
  | 0, bw, l => by simp [pcF]
  | f + 1, bw, l => by
    unfold pcF
    split
    · simp
    · have h1 := fdW_le l 0
      have h2 := fdW_few hl l 0
      have h3 := pcF_few hl hs f true (l.drop ((fdW l 0).1 + (fdW l 0).2.2))
      have h4 := hs (l.take (fdW l 0).1)
      rw [List.length_drop] at h3
      rw [List.length_take] at h4
      rw [List.flatMap_append, List.flatMap_append, List.length_append, List.length_append]
      have h5 : ((if runB bw l then [(lettersL (l.take (fdW l 0).1), false)] else []).flatMap (·.1)).length ≤ (fdW l 0).1 := by
        split
        · simp; omega
        · simp
      have h6 : ((if 0 < (fdW l 0).2.2 then [((fdW l 0).2.1, true)] else []).flatMap (·.1)).length ≤ (fdW l 0).2.2 := by
        split
        · simpa using h2
        · simp
      omega
theorem decR_few (c : Nat) (b : List UInt8) : (decR c b).1.length ≤ b.length := by
  unfold decR decL
  split
  · simp only
    split
    · exact lettersL_len b
    · simp
  · simp
theorem pcW_few (l : List UInt8) : ((pcW l).flatMap (·.1)).length ≤ l.length := pcF_few decR_few lettersL_len _ _ _
theorem pcF_words : ∀ (f : Nat) (bw : Bool) (l : List UInt8), wdN (pcF f bw l) ≤ l.length
  | 0, bw, l => by simp [pcF, wdN]
  | f + 1, bw, l => by
    unfold pcF
    split
    · simp [wdN]
    · have h1 := fdW_le l 0
      have h3 := pcF_words f true (l.drop ((fdW l 0).1 + (fdW l 0).2.2))
      rw [List.length_drop] at h3
      unfold wdN at h3 ⊢
      rw [List.filter_append, List.filter_append, List.length_append, List.length_append]
      have h5 : ((if runB bw l then [(lettersL (l.take (fdW l 0).1), false)] else []).filter (fun p => p.2)).length = 0 := by
        split
        · simp
        · simp
      have h6 : ((if 0 < (fdW l 0).2.2 then [((fdW l 0).2.1, true)] else []).filter (fun p => p.2)).length ≤ (fdW l 0).2.2 := by
        split
        · simp; omega
        · simp
      omega
theorem wdC_from : ∀ (xs : List Pc) (n : Nat), n + wdN (xs.map Pc.say) < 4611686018427387904 → xs.foldl (fun n x => if x.b then wrap64 (n + 1) else n) (n : Int) = ((n + wdN (xs.map Pc.say) : Nat) : Int)
  | [], n, _ => by simp [wdN]
  | x :: r, n, h => by
    rw [List.foldl_cons]
    cases hb : x.b with
    | true =>
      have e : wdN ((x :: r).map Pc.say) = 1 + wdN (r.map Pc.say) := by simp [wdN, Pc.say, hb]; omega
      rw [e] at h ⊢
      rw [if_pos rfl, show wrap64 ((n : Int) + 1) = ((n + 1 : Nat) : Int) by unfold wrap64; omega, wdC_from r (n + 1) (by omega)]
      congr 1
      omega
    | false =>
      have e : wdN ((x :: r).map Pc.say) = wdN (r.map Pc.say) := by simp [wdN, Pc.say, hb]
      rw [e] at h ⊢
      rw [if_neg (by simp)]
      exact wdC_from r n h
theorem wdC_is {xs : List Pc} {l : List UInt8} (h : xs.map Pc.say = pcW l) (hl : l.length ≤ 16777216) : wdC xs = ((wdN (pcW l) : Nat) : Int) := by
  have h1 : wdN (pcW l) ≤ l.length := pcF_words _ _ _
  have h2 := wdC_from xs 0 (by rw [h]; omega)
  rw [h, Nat.zero_add] at h2
  exact h2
/-- Decode and Words, as the laws ask them. -/
theorem decode_word (s : ByteArray) (w : World) (ht : RTabN w) (hes : ErrS w) (hml : MaxL w) (hs : s.size ≤ 16777216) :
    Calls Tryz.prog 13 #[.string s] w fun e w' => ∃ v, e = .returned v ∧ w'.ownsRow w.heap.size 21 1 v ((pcW s.data.toList).flatMap (·.1)).length (runeC ((pcW s.data.toList).flatMap (·.1))) ∧ Below w.heap.size w w' :=
  decodeW_any s w ht hes hml hs (by have := pcW_few s.data.toList; rw [sizeL] at this; omega)
theorem words_word (s : ByteArray) (w : World) (ht : RTabN w) (hes : ErrS w) (hml : MaxL w) (hs : s.size ≤ 16777216) :
    Calls Tryz.prog 15 #[.string s] w fun e w' => e = .returned (.int .i64 (wdN (pcW s.data.toList) : Nat)) ∧ Below w.heap.size w w' := by
  refine (words_any s w ht hes hml hs).mono ?_
  rintro e w' ⟨⟨xs, hx, rfl⟩, hb⟩
  exact ⟨by rw [wdC_is hx (by rw [sizeL]; exact hs)], hb⟩
/-- A value without a word's beginning has one piece, or none. -/
theorem pcW_plain {l : List UInt8} (h : ∀ j, j ≤ l.length → opW (l.drop j) = none) : pcW l = if l = [] then [] else [(lettersL l, false)] := by
  have hf : fdW l 0 = (l.length, [], 0) := by
    rw [fdW_skip l.length l 0 (fun j hj => h j (by omega)) (Nat.le_refl _), List.drop_length]
    simp [fdW]
  unfold pcW pcF
  by_cases hl : l = []
  · rw [if_pos hl, if_pos hl]
  · rw [if_neg hl, if_neg hl]
    have hr : runB false l = true := by
      unfold runB
      rw [hf]
      simp [hl]
    rw [hr, hf]
    simp
    cases l.length <;> simp [pcF]
end Go.Proofs.YtdallfakfhajdaaGreatDoor
