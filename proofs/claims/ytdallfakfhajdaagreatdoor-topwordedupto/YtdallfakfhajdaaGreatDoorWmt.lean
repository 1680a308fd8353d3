/-
  What is written as words is read as words, whatever runs of bytes stand between: plain mathematics of layer 9.
-/
import Derived.Test.YtdallfakfhajdaaGreatDoorWpm
import Derived.Test.YtdallfakfhajdaaGreatDoorWen
set_option linter.unusedVariables false
namespace Go.Proofs.YtdallfakfhajdaaGreatDoor
open Go.RowKit Go.Proofs.Enc Go.Proofs.Rns

theorem cut_ahead {k : UInt8} : ∀ (a b : List UInt8), k ∉ a → cutAt k (a ++ k :: b) = some (a, b)
  | [], b, _ => by simp [cutAt]
  | c :: r, b, h => by
    simp only [List.cons_append, cutAt]
    rw [if_neg (fun e => h (by simp [e])), cut_ahead r b (fun hm => h (List.mem_cons_of_mem _ hm))]
    rfl
theorem cut_not {k : UInt8} : ∀ a : List UInt8, k ∉ a → cutAt k a = none
  | [], _ => rfl
  | c :: r, h => by
    simp only [cutAt]
    rw [if_neg (fun e => h (by simp [e])), cut_not r (fun hm => h (List.mem_cons_of_mem _ hm))]
    rfl
theorem cutD_ahead {k : UInt8} (a b : List UInt8) (h : k ∉ a) : cutD k (a ++ k :: b) = (a, b) := by
  unfold cutD
  rw [cut_ahead a b h]
  rfl
theorem let64_fin : ∀ n : Fin 64, plB (let64 n.val) = true ∧ let64 n.val ≠ 63 := by decide +kernel
theorem let64_pl {n : Nat} (h : n < 64) : plB (let64 n) = true ∧ let64 n ≠ 63 := let64_fin ⟨n, h⟩
theorem b64_pl : ∀ l : List UInt8, ∀ c ∈ b64 l, plB c = true ∧ c ≠ 63
  | [], c, h => by simp [b64, quad] at h
  | [a], c, h => by
    have ha := a.toNat_lt
    simp only [b64, quad, List.mem_cons, List.not_mem_nil, or_false] at h
    rcases h with rfl | rfl | rfl | rfl
    · exact let64_pl (by omega)
    · exact let64_pl (by omega)
    · decide
    · decide
  | [a, b], c, h => by
    have ha := a.toNat_lt
    have hb := b.toNat_lt
    simp only [b64, quad, List.mem_cons, List.not_mem_nil, or_false] at h
    rcases h with rfl | rfl | rfl | rfl
    · exact let64_pl (by omega)
    · exact let64_pl (by omega)
    · exact let64_pl (by omega)
    · decide
  | a :: b :: d :: r, c, h => by
    have ha := a.toNat_lt
    have hb := b.toNat_lt
    have hd := d.toNat_lt
    simp only [b64, quad, List.mem_append, List.mem_cons, List.not_mem_nil, or_false] at h
    rcases h with (rfl | rfl | rfl | rfl) | h
    · exact let64_pl (by omega)
    · exact let64_pl (by omega)
    · exact let64_pl (by omega)
    · exact let64_pl (by omega)
    · exact b64_pl r c h
theorem hx_fin : ∀ n : Fin 16, plB (hx n.val) = true ∧ hx n.val ≠ 63 := by decide +kernel
theorem qB_pl (a : UInt8) : ∀ c ∈ qB a, plB c = true ∧ c ≠ 63 := by
  intro c h
  have ha := a.toNat_lt
  unfold qB at h
  split at h
  · rename_i hal
    simp only [List.mem_singleton] at h
    subst h
    unfold alB at hal
    have hal := of_decide_eq_true hal
    refine ⟨by unfold plB; exact decide_eq_true (by omega), fun e => ?_⟩
    rw [e] at hal
    revert hal
    decide
  · split at h
    · simp only [List.mem_singleton] at h
      subst h
      decide
    · simp only [List.mem_cons, List.not_mem_nil, or_false] at h
      rcases h with rfl | rfl | rfl
      · decide
      · exact hx_fin ⟨a.toNat / 16, by omega⟩
      · exact hx_fin ⟨a.toNat % 16, by omega⟩
theorem qL_pl (l : List UInt8) : ∀ c ∈ qL l, plB c = true ∧ c ≠ 63 := by
  intro c h
  unfold qL at h
  obtain ⟨x, hx, hc⟩ := List.mem_flatten.1 h
  obtain ⟨a, _, rfl⟩ := List.mem_map.1 hx
  exact qB_pl a c hc
theorem alB_ne {c : UInt8} (h : alB c = true) : c ≠ 61 ∧ c ≠ 95 := by
  unfold alB at h
  have h := of_decide_eq_true h
  constructor <;> (intro e; rw [e] at h; revert h; decide)
theorem qL_cons (c : UInt8) (r : List UInt8) : qL (c :: r) = qB c ++ qL r := by simp [qL]
/-- What is written in Q is read. -/
theorem qA_back : ∀ (l acc : List UInt8) (f : Nat), l.length < f → qA f acc (qL l) = some (acc ++ l)
  | [], acc, 0, h => by simp at h
  | [], acc, f + 1, _ => by simp [qL, qA]
  | c :: r, acc, 0, h => by simp at h
  | c :: r, acc, f + 1, h => by
    have ih := qA_back r (acc ++ [c]) f (by simpa using h)
    have hc := c.toNat_lt
    rw [qL_cons]
    unfold qB
    split
    · rename_i ha
      obtain ⟨h1, h2⟩ := alB_ne ha
      rw [List.singleton_append, qA_else h1 h2, ih]
      simp
    · split
      · rename_i h32
        have e : c = 32 := UInt8.toNat_inj.mp (by rw [h32]; rfl)
        subst e
        rw [List.singleton_append, qA_us (by decide) rfl, ih]
        simp
      · show qA (f + 1) acc (61 :: hx (c.toNat / 16) :: hx (c.toNat % 16) :: qL r) = _
        unfold qA
        rw [if_pos rfl, if_neg (by simp)]
        have e : hexA 0 ((hx (c.toNat / 16) :: hx (c.toNat % 16) :: qL r).take 2) = some c.toNat := by
          simp only [List.take_succ_cons, List.take_zero, hexA]
          rw [dig_hx (by omega), dig_hx (by omega), if_pos (by omega), if_pos (by omega)]
          congr 1
          omega
        rw [e]
        simp only [List.drop_succ_cons, List.drop_zero]
        rw [show UInt8.ofNat c.toNat = c by simp, ih]
        simp
theorem qL_ge : ∀ l : List UInt8, l.length ≤ (qL l).length
  | [] => by simp
  | c :: r => by
    have := qL_ge r
    have h1 : 1 ≤ (qB c).length := by unfold qB; split; simp; split <;> simp
    rw [qL_cons, List.length_append, List.length_cons]
    omega
theorem fromQ_back (l : List UInt8) : fromQR (qL l) = some l := by
  unfold fromQR
  rw [qA_back l [] _ (by have := qL_ge l; omega)]
  rfl
def codT (base : Bool) (t : List UInt8) : List UInt8 := if base then b64 t else qL t
def codB (base : Bool) : UInt8 := if base then 66 else 81
theorem wordT_eq (base : Bool) (t : List UInt8) : wordT base t = 61 :: 63 :: ([85, 84, 70, 45, 56] ++ 63 :: ([codB base] ++ 63 :: (codT base t ++ 63 :: [61]))) := by
  unfold wordT codT codB
  cases base <;> simp
theorem codT_pl (base : Bool) (t : List UInt8) : ∀ c ∈ codT base t, plB c = true ∧ c ≠ 63 := by
  unfold codT
  cases base
  · exact qL_pl t
  · exact b64_pl t
theorem text_back (base : Bool) (t : List UInt8) : textR [codB base] (codT base t) = some t := by
  unfold textR codB codT
  cases base
  · rw [if_neg (by decide), if_pos (by decide)]
    exact fromQ_back t
  · rw [if_pos (by decide)]
    simp only [if_true]
    rw [strict_b64]
    rfl
/-- A word that is written is read, whatever stands behind it. -/
theorem rd_word (base : Bool) (t rest : List UInt8) : rdW (wordT base t ++ rest) = some (lettersL t, (wordT base t).length) := by
  have hn : (63 : UInt8) ∉ codT base t := fun h => (codT_pl base t 63 h).2 rfl
  have e : wordT base t ++ rest = 61 :: 63 :: ([85, 84, 70, 45, 56] ++ 63 :: ([codB base] ++ 63 :: (codT base t ++ 63 :: (61 :: rest)))) := by rw [wordT_eq]; simp
  have hl : (wordT base t ++ rest).length - (rest.length + 1 - 1) = (wordT base t).length := by rw [List.length_append]; omega
  unfold rdW
  rw [e] at hl ⊢
  have ho : opW (61 :: 63 :: ([85, 84, 70, 45, 56] ++ 63 :: ([codB base] ++ 63 :: (codT base t ++ 63 :: (61 :: rest))))) = some ([85, 84, 70, 45, 56] ++ 63 :: ([codB base] ++ 63 :: (codT base t ++ 63 :: (61 :: rest)))) := by
    unfold opW
    simp
  rw [ho]
  have h1 := cutD_ahead (k := 63) [85, 84, 70, 45, 56] ([codB base] ++ 63 :: (codT base t ++ 63 :: (61 :: rest))) (by decide)
  have h2 := cutD_ahead (k := 63) [codB base] (codT base t ++ 63 :: (61 :: rest)) (by unfold codB; cases base <;> decide)
  have h3 := cutD_ahead (k := 63) (codT base t) (61 :: rest) hn
  have hp : partsW ([85, 84, 70, 45, 56] ++ 63 :: ([codB base] ++ 63 :: (codT base t ++ 63 :: (61 :: rest)))) = ⟨[85, 84, 70, 45, 56], [codB base], codT base t, 61 :: rest⟩ := by
    unfold partsW
    rw [h1, h2, h3]
  simp only
  rw [hp]
  unfold rdP
  have hs : setW ⟨[85, 84, 70, 45, 56], [codB base], codT base t, 61 :: rest⟩ = (2, 0) := by
    unfold setW
    show namedR (cutD 42 [85, 84, 70, 45, 56]).1 = (2, 0)
    decide
  have hpl : plL (codT base t) = true := List.all_eq_true.2 fun c hc => (codT_pl base t c hc).1
  rw [if_pos ⟨rfl, (show plL [85, 84, 70, 45, 56] = true by decide), hpl⟩, hs, if_pos rfl, text_back]
  simp only [List.length_cons] at hl ⊢
  rw [hl]
  congr 1

theorem wordT_pos (base : Bool) (t : List UInt8) : 0 < (wordT base t).length := by rw [wordT_eq]; simp
theorem opW_no {l : List UInt8} (h : l.head? ≠ some 61) : opW l = none := by
  unfold opW
  rcases l with _ | ⟨a, _ | ⟨b, r⟩⟩
  · rfl
  · rfl
  · simp only [List.head?_cons, ne_eq, Option.some.injEq] at h
    simp [h]
theorem fd_word (run : List UInt8) (base : Bool) (t rest : List UInt8) (k : Nat) (h : 61 ∉ run) : fdW (run ++ (wordT base t ++ rest)) k = (k + run.length, lettersL t, (wordT base t).length) := by
  rw [fdW_skip run.length _ k (fun j hj => ?_) (by simp), List.drop_left]
  · have e := rd_word base t rest
    rw [fdW_hit (by rw [e]; exact wordT_pos base t), e]
    rfl
  · apply opW_no
    rw [List.head?_drop, List.getElem?_append_left hj, List.getElem?_eq_getElem hj]
    intro e
    exact h (by rw [← Option.some.inj e]; exact List.getElem_mem hj)
theorem fdW_go {l : List UInt8} (h : l ≠ []) : 0 < (fdW l 0).1 + (fdW l 0).2.2 := by
  cases l with
  | nil => exact absurd rfl h
  | cons a r =>
    unfold fdW
    split
    · simp only; omega
    · have := (fdW_le r (0 + 1)).1
      omega
theorem pcF_enough : ∀ (f g : Nat) (bw : Bool) (l : List UInt8), l.length < f → l.length < g → pcF f bw l = pcF g bw l
  | 0, g, bw, l, h, _ => by omega
  | f + 1, 0, bw, l, _, h => by omega
  | f + 1, g + 1, bw, l, hf, hg => by
    unfold pcF
    by_cases hl : l = []
    · rw [if_pos hl, if_pos hl]
    · rw [if_neg hl, if_neg hl]
      have h1 := fdW_go hl
      have h0 : 0 < l.length := List.length_pos_iff.2 hl
      rw [pcF_enough f g true _ (by rw [List.length_drop]; omega) (by rw [List.length_drop]; omega)]
/-- A run of bytes, and a word behind it. -/
theorem pc_word (run : List UInt8) (base : Bool) (t rest : List UInt8) (bw : Bool) (f : Nat) (h : 61 ∉ run) (hf : (run ++ (wordT base t ++ rest)).length < f) :
    pcF f bw (run ++ (wordT base t ++ rest)) = (if !run.isEmpty && !(bw && blL run) then [(lettersL run, false)] else []) ++ (lettersL t, true) :: pcF f true rest := by
  have hp := wordT_pos base t
  have hd := fd_word run base t rest 0 h
  rw [Nat.zero_add] at hd
  obtain ⟨f', rfl⟩ : ∃ f', f = f' + 1 := ⟨f - 1, by omega⟩
  have hlen : (run ++ (wordT base t ++ rest)).length = run.length + ((wordT base t).length + rest.length) := by simp
  rw [hlen] at hf
  rw [pcF_enough (f' + 1) f' true rest (by omega) (by omega)]
  conv => lhs; unfold pcF
  have hne : run ++ (wordT base t ++ rest) ≠ [] := by
    intro e
    have := congrArg List.length e
    rw [hlen, List.length_nil] at this
    omega
  rw [if_neg hne]
  have hr : runB bw (run ++ (wordT base t ++ rest)) = (!run.isEmpty && !(bw && blL run)) := by
    unfold runB
    rw [hd]
    simp only [List.take_left, decide_eq_true hp, Bool.and_true]
  rw [hr, hd]
  simp only [List.take_left]
  rw [if_pos hp, show run ++ (wordT base t ++ rest) = (run ++ wordT base t) ++ rest by simp, show run.length + (wordT base t).length = (run ++ wordT base t).length by simp, List.drop_left]
  simp
/-- Words one behind the other, a space between them. -/
def jw (base : Bool) : Bool → List (List UInt8) → List UInt8
  | _, [] => []
  | sp, t :: r => (if sp then [32] else []) ++ (wordT base t ++ jw base true r)
def wdP (t : List UInt8) : List Nat × Bool := (lettersL t, true)
theorem pc_jw (base : Bool) : ∀ (ts : List (List UInt8)) (sp bw : Bool) (rest : List UInt8) (f : Nat), (sp = true → bw = true) → (jw base sp ts ++ rest).length < f →
    pcF f bw (jw base sp ts ++ rest) = ts.map wdP ++ pcF f (bw || !ts.isEmpty) rest
  | [], sp, bw, rest, f, _, hf => by simp [jw]
  | t :: r, sp, bw, rest, f, h, hf => by
    have e : jw base sp (t :: r) ++ rest = (if sp then [32] else []) ++ (wordT base t ++ (jw base true r ++ rest)) := by simp [jw]
    rw [e] at hf ⊢
    have hl : (jw base true r ++ rest).length < f := by
      simp only [List.length_append] at hf ⊢
      omega
    rw [pc_word _ base t _ bw f (by cases sp <;> simp) hf, pc_jw base r true true rest f (fun _ => rfl) hl]
    have hc : (!(if sp then ([32] : List UInt8) else []).isEmpty && !(bw && blL (if sp then [32] else []))) = false := by
      cases sp
      · rfl
      · rw [h rfl]; decide
    rw [hc]
    simp [wdP]
def chunkF : Nat → List Int → List (List UInt8)
  | 0, _ => []
  | f + 1, l => if l = [] then [] else utf8L (l.take 12) :: chunkF f (l.drop 12)
theorem chunk_len : ∀ (f : Nat) (l : List Int), l.length < f → (chunkF f l).length = (l.length + 11) / 12
  | 0, l, h => by omega
  | f + 1, l, h => by
    unfold chunkF
    by_cases hl : l = []
    · subst hl; simp
    · have h0 : 0 < l.length := List.length_pos_iff.2 hl
      rw [if_neg hl, List.length_cons, chunk_len f _ (by rw [List.length_drop]; omega), List.length_drop]
      omega
theorem chunk_back : ∀ (f : Nat) (l : List Int), l.length < f → (∀ n ∈ l, isL n = true) → ints ((chunkF f l).flatMap lettersL) = l
  | 0, l, h, _ => by omega
  | f + 1, l, h, hi => by
    unfold chunkF
    by_cases hl : l = []
    · subst hl; simp [ints]
    · have h0 : 0 < l.length := List.length_pos_iff.2 hl
      have ih := chunk_back f (l.drop 12) (by rw [List.length_drop]; omega) (fun n hn => hi n (List.mem_of_mem_drop hn))
      have hb : ints (lettersL (utf8L (l.take 12))) = l.take 12 := by
        rw [letters_utf8]
        exact ints_fix _ (fun n hn => hi n (List.mem_of_mem_take hn))
      rw [if_neg hl, List.flatMap_cons]
      unfold ints at ih hb ⊢
      rw [List.map_append, ih, hb, List.take_append_drop]
/-- What is encoded, or not. -/
theorem encF_cases (base : Bool) : ∀ (f : Nat) (acc : List UInt8) (l : List Int), l.length < f →
    encF base f acc l = ([], 7) ∨ ((∀ n ∈ l, isL n = true) ∧ encF base f acc l = (acc ++ jw base (!acc.isEmpty) (chunkF f l), 0))
  | 0, acc, l, h => by omega
  | f + 1, acc, l, h => by
    unfold encF chunkF
    by_cases hl : l = []
    · right
      subst hl
      simp [jw]
    · have h0 : 0 < l.length := List.length_pos_iff.2 hl
      rw [if_neg hl, if_neg hl]
      cases he : encL 2 (l.take 12) with
      | none => left; rfl
      | some t =>
        obtain ⟨ht, hi⟩ := encL_two _ _ he
        subst ht
        rcases encF_cases base f ((if acc = [] then acc else acc ++ [32]) ++ wordT base (utf8L (l.take 12))) (l.drop 12) (by rw [List.length_drop]; omega) with h1 | ⟨h1, h2⟩
        · left; exact h1
        · right
          refine ⟨fun n hn => ?_, ?_⟩
          · rw [← List.take_append_drop 12 l] at hn
            rcases List.mem_append.1 hn with hn | hn
            · exact hi n hn
            · exact h1 n hn
          · simp only
            rw [h2]
            have hn : (!((if acc = [] then acc else acc ++ [32]) ++ wordT base (utf8L (l.take 12))).isEmpty) = true := by
              have := wordT_pos base (utf8L (l.take 12))
              cases hw : wordT base (utf8L (l.take 12)) with
              | nil => rw [hw] at this; simp at this
              | cons a r => simp
            rw [hn]
            have ha : (if acc = [] then acc else acc ++ [32]) = acc ++ (if (!acc.isEmpty) = true then [32] else []) := by
              cases acc <;> simp
            rw [ha]
            simp [jw]
def chunks (l : List Int) : List (List UInt8) := chunkF (l.length + 1) l
theorem encW_cases (base : Bool) (l : List Int) : encW base l = ([], 7) ∨ ((∀ n ∈ l, isL n = true) ∧ encW base l = (jw base false (chunks l), 0)) := encF_cases base _ [] l (Nat.lt_succ_self _)
theorem chunks_len (l : List Int) : (chunks l).length = (l.length + 11) / 12 := chunk_len _ l (Nat.lt_succ_self _)
theorem chunks_back {l : List Int} (h : ∀ n ∈ l, isL n = true) : ints ((chunks l).flatMap lettersL) = l := chunk_back _ l (Nat.lt_succ_self _) h
theorem wds_flat (ts : List (List UInt8)) : (ts.map wdP).flatMap (·.1) = ts.flatMap lettersL := by
  induction ts with
  | nil => rfl
  | cons t r ih => simp only [List.map_cons, List.flatMap_cons, ih]; rfl
theorem wds_num (ts : List (List UInt8)) : wdN (ts.map wdP) = ts.length := by
  unfold wdN
  rw [List.filter_eq_self.2]
  · simp
  · intro p hp
    obtain ⟨t, _, rfl⟩ := List.mem_map.1 hp
    rfl
theorem pcF_nil (f : Nat) (bw : Bool) : pcF f bw [] = [] := by cases f <;> simp [pcF]
/-- The words alone. -/
theorem pcW_jw (base : Bool) (ts : List (List UInt8)) : pcW (jw base false ts) = ts.map wdP := by
  have h := pc_jw base ts false false [] ((jw base false ts).length + 1) (fun h => by cases h) (by simp)
  rw [List.append_nil, pcF_nil, List.append_nil] at h
  exact h
theorem wordT_pl (base : Bool) (t : List UInt8) : ∀ c ∈ wordT base t, plB c = true := by
  intro c h
  rw [wordT_eq] at h
  simp only [List.mem_cons, List.mem_append, List.not_mem_nil, or_false] at h
  rcases h with rfl | rfl | (rfl | rfl | rfl | rfl | rfl) | rfl | rfl | rfl | h | rfl | rfl
  · decide
  · decide
  · decide
  · decide
  · decide
  · decide
  · decide
  · decide
  · unfold codB; cases base <;> decide
  · decide
  · exact (codT_pl base t c h).1
  · decide
  · decide
theorem jw_pl (base : Bool) : ∀ (sp : Bool) (ts : List (List UInt8)), ∀ c ∈ jw base sp ts, 32 ≤ c.toNat ∧ c.toNat ≤ 126
  | sp, [], c, h => by simp [jw] at h
  | sp, t :: r, c, h => by
    simp only [jw, List.mem_append] at h
    rcases h with h | h | h
    · cases sp
      · simp at h
      · simp at h; subst h; decide
    · have := of_decide_eq_true (wordT_pl base t c h); omega
    · exact jw_pl base true r c h
/-- Words, a run of bytes that is not handed over or is, and words. -/
theorem pcW_two (base : Bool) (ts us : List (List UInt8)) (run : List UInt8) (h : 61 ∉ run) (ht : ts ≠ []) (hu : us ≠ []) :
    pcW (jw base false ts ++ (run ++ jw (!base) false us)) = ts.map wdP ++ ((if !run.isEmpty && !blL run then [(lettersL run, false)] else []) ++ us.map wdP) := by
  obtain ⟨u, ur, rfl⟩ : ∃ u ur, us = u :: ur := by cases us with | nil => exact absurd rfl hu | cons u ur => exact ⟨u, ur, rfl⟩
  have hb : (false || !ts.isEmpty) = true := by cases ts with | nil => exact absurd rfl ht | cons a b => rfl
  unfold pcW
  generalize hf : (jw base false ts ++ (run ++ jw (!base) false (u :: ur))).length + 1 = f
  have e : run ++ jw (!base) false (u :: ur) = run ++ (wordT (!base) u ++ (jw (!base) true ur ++ [])) := by simp [jw]
  have hlen : (run ++ jw (!base) false (u :: ur)).length < f := by rw [← hf]; simp only [List.length_append]; omega
  rw [pc_jw base ts false false _ f (fun h => by cases h) (by omega), hb, e]
  rw [e] at hlen
  have hl2 : (jw (!base) true ur ++ []).length < f := by
    simp only [List.length_append] at hlen ⊢
    omega
  rw [pc_word run (!base) u _ true f h hlen, pc_jw (!base) ur true true [] f (fun _ => rfl) hl2, pcF_nil]
  simp [wdP]
end Go.Proofs.YtdallfakfhajdaaGreatDoor
