/-
  The document's reading of words against the program's: plain mathematics of layer 9.
-/
import Derived.Test.YtdallfakfhajdaaGreatDoorWmt
set_option linter.unusedVariables false
namespace Go.Proofs.YtdallfakfhajdaaGreatDoor
open Go.RowKit Go.Proofs.Enc Go.Proofs.Rns

theorem cut_some {k : UInt8} : ∀ {l a b : List UInt8}, cutAt k l = some (a, b) → l = a ++ k :: b ∧ k ∉ a
  | [], a, b, h => by cases h
  | c :: r, a, b, h => by
    simp only [cutAt] at h
    split at h
    · rename_i hc
      simp only [Option.some.injEq, Prod.mk.injEq] at h
      obtain ⟨rfl, rfl⟩ := h
      simp [hc]
    · rename_i hc
      cases hr : cutAt k r with
      | none => rw [hr] at h; cases h
      | some p =>
        rw [hr] at h
        simp only [Option.map_some, Option.some.injEq, Prod.mk.injEq] at h
        obtain ⟨rfl, rfl⟩ := h
        obtain ⟨h1, h2⟩ := cut_some (l := r) (a := p.1) (b := p.2) hr
        refine ⟨by rw [List.cons_append, ← h1], fun hm => ?_⟩
        rcases List.mem_cons.1 hm with e | e
        · exact hc e.symm
        · exact h2 e
/-- What is ahead of the next question mark, and behind it, as the document reads it. -/
def partR (l : List UInt8) : Option (List UInt8 × List UInt8) := match cutAt 63 l with
  | some p => if plL p.1 = true then some p else none
  | none => none
theorem part_hit (a b : List UInt8) (h : 63 ∉ a) (hp : plL a = true) : partR (a ++ 63 :: b) = some (a, b) := by
  unfold partR
  rw [cut_ahead a b h]
  simp [hp]
theorem part_bad (a : List UInt8) (c : UInt8) (r : List UInt8) (hc : c ≠ 63) (hp : plB c = false) (h : 63 ∉ a) : partR (a ++ c :: r) = none := by
  unfold partR
  cases hk : cutAt 63 (a ++ c :: r) with
  | none => rfl
  | some p =>
    obtain ⟨h1, h2⟩ := cut_some (a := p.1) (b := p.2) hk
    have : ¬ plL p.1 = true := by
      intro hpl
      have hm : c ∈ p.1 := by
        have hlen : a.length < p.1.length := by
          rcases Nat.lt_or_ge a.length p.1.length with h' | h'
          · exact h'
          · exfalso
            have e : (p.1 ++ 63 :: p.2)[p.1.length]? = some 63 := by simp
            rw [← h1] at e
            rcases Nat.eq_or_lt_of_le h' with h'' | h''
            · rw [h'', List.getElem?_append_right (Nat.le_refl _)] at e
              simp at e
              exact hc e
            · rw [List.getElem?_append_left h''] at e
              exact h (List.mem_of_getElem? e)
        have e : (a ++ c :: r)[a.length]? = some c := by simp
        rw [h1, List.getElem?_append_left hlen] at e
        exact List.mem_of_getElem? e
      have := List.all_eq_true.1 hpl c hm
      rw [hp] at this
      cases this
    simp [this]
theorem part_not (a : List UInt8) (h : 63 ∉ a) : partR a = none := by
  unfold partR
  rw [cut_not a h]
/-- The bytes that a text says. -/
def bytesD (way text : List UInt8) : Option (List UInt8) :=
  if way = [98] ∨ way = [66] then (if (strictR text).2 = 0 then some (strictR text).1 else none) else if way = [113] ∨ way = [81] then fromQR text else none
def oneD (l : List UInt8) : Option (List Nat × List UInt8) := match opW l with
  | none => none
  | some r => match partR r with
    | none => none
    | some p1 => match partR p1.2 with
      | none => none
      | some p2 => match partR p2.2 with
        | none => none
        | some p3 => if p3.2.head? = some 61 then (if (namedR (cutD 42 p1.1).1).2 = 0 then (match bytesD p2.1 p3.1 with
            | none => none
            | some b => some ((decR (namedR (cutD 42 p1.1).1).1 b).1, p3.2.tail)) else none) else none
theorem smB_fin : ∀ c : Fin 256, (smB (UInt8.ofNat c.val) = 98 ↔ UInt8.ofNat c.val = 98 ∨ UInt8.ofNat c.val = 66) ∧ (smB (UInt8.ofNat c.val) = 113 ↔ UInt8.ofNat c.val = 113 ∨ UInt8.ofNat c.val = 81) := by decide +kernel
theorem smB_is (c : UInt8) : (smB c = 98 ↔ c = 98 ∨ c = 66) ∧ (smB c = 113 ↔ c = 113 ∨ c = 81) := by
  have := smB_fin ⟨c.toNat, c.toNat_lt⟩
  simpa using this
theorem sm_b (w : List UInt8) : smL w = smL [66] ↔ w = [98] ∨ w = [66] := by
  rcases w with _ | ⟨c, _ | ⟨d, r⟩⟩
  · simp [smL]
  · have h := (smB_is c).1
    rw [show smL [66] = [98] by decide]
    simp only [smL, List.map_cons, List.map_nil, List.cons.injEq, and_true]
    exact h
  · simp [smL]
theorem sm_q (w : List UInt8) : smL w = smL [81] ↔ w = [113] ∨ w = [81] := by
  rcases w with _ | ⟨c, _ | ⟨d, r⟩⟩
  · simp [smL]
  · have h := (smB_is c).2
    rw [show smL [81] = [113] by decide]
    simp only [smL, List.map_cons, List.map_nil, List.cons.injEq, and_true]
    exact h
  · simp [smL]
theorem text_same (w t : List UInt8) : textR w t = bytesD w t := by
  unfold textR bytesD
  by_cases h1 : w = [98] ∨ w = [66]
  · rw [if_pos ((sm_b w).2 h1), if_pos h1]
  · rw [if_neg (fun h => h1 ((sm_b w).1 h)), if_neg h1]
    by_cases h2 : w = [113] ∨ w = [81]
    · rw [if_pos ((sm_q w).2 h2), if_pos h2]
    · rw [if_neg (fun h => h2 ((sm_q w).1 h)), if_neg h2]
theorem bytes_pl {w t : List UInt8} (h : ¬ plL w = true) : bytesD w t = none := by
  unfold bytesD
  rw [if_neg, if_neg]
  · rintro (rfl | rfl) <;> exact h (by decide)
  · rintro (rfl | rfl) <;> exact h (by decide)
def oneR' (l : List UInt8) : Option (List Nat × List UInt8) := if rdN (rdW l) = 0 then none else some (rdL (rdW l), l.drop (rdN (rdW l)))
theorem one_none {l : List UInt8} (h : rdW l = none) : oneR' l = none := by unfold oneR'; rw [h]; rfl
theorem one_some {l : List UInt8} {ls : List Nat} {n : Nat} (h : rdW l = some (ls, n)) (hn : n ≠ 0) : oneR' l = some (ls, l.drop n) := by
  have h1 : rdN (rdW l) = n := by rw [h]; rfl
  have h2 : rdL (rdW l) = ls := by rw [h]; rfl
  unfold oneR'
  rw [h1, h2, if_neg hn]
theorem cutD_nil (k : UInt8) : cutD k [] = ([], []) := rfl
theorem cutD_none {k : UInt8} {l : List UInt8} (h : cutAt k l = none) : cutD k l = (l, []) := by unfold cutD; rw [h]; rfl
theorem cutD_some {k : UInt8} {l : List UInt8} {p : List UInt8 × List UInt8} (h : cutAt k l = some p) : cutD k l = p := by unfold cutD; rw [h]; rfl
theorem rdP_none {n : Nat} {p : WP} (h : p.behind = []) : rdP n p = none := by
  unfold rdP
  rw [if_neg]
  rw [h]
  simp
theorem opW_eq {l r : List UInt8} (h : opW l = some r) : l = 61 :: 63 :: r := by
  unfold opW at h
  rcases l with _ | ⟨a, _ | ⟨b, t⟩⟩
  · cases h
  · cases h
  · simp only at h
    split at h
    · rename_i hab
      simp at h
      rw [hab.1, hab.2, h]
    · cases h
theorem one_same (l : List UInt8) : oneD l = oneR' l := by
  unfold oneD
  cases ho : opW l with
  | none => rw [one_none (by unfold rdW; rw [ho])]
  | some r =>
    have hl := opW_eq ho
    have hrd : rdW l = rdP l.length (partsW r) := by unfold rdW; rw [ho]
    simp only
    cases h1 : cutAt 63 r with
    | none =>
      rw [one_none (by rw [hrd]; apply rdP_none; unfold partsW; rw [cutD_none h1]; rfl)]
      unfold partR; rw [h1]
    | some p1 =>
      have e1 := (cut_some (a := p1.1) (b := p1.2) h1).1
      cases h2 : cutAt 63 p1.2 with
      | none =>
        rw [one_none (by rw [hrd]; apply rdP_none; unfold partsW; rw [cutD_some h1, cutD_none h2]; rfl)]
        unfold partR; rw [h1]
        simp only
        split
        · rfl
        · rename_i p hp
          split at hp
          · obtain rfl := Option.some.inj hp
            rw [h2]
          · cases hp
      | some p2 =>
        have e2 := (cut_some (a := p2.1) (b := p2.2) h2).1
        cases h3 : cutAt 63 p2.2 with
        | none =>
          rw [one_none (by rw [hrd]; apply rdP_none; unfold partsW; rw [cutD_some h1, cutD_some h2, cutD_none h3])]
          unfold partR; rw [h1]
          simp only
          by_cases q1 : plL p1.1 = true
          · rw [if_pos q1]
            simp only
            rw [h2]
            simp only
            by_cases q2 : plL p2.1 = true
            · rw [if_pos q2]
              simp only
              rw [h3]
            · rw [if_neg q2]
          · rw [if_neg q1]
        | some p3 =>
          have e3 := (cut_some (a := p3.1) (b := p3.2) h3).1
          have hp : partsW r = ⟨p1.1, p2.1, p3.1, p3.2⟩ := by unfold partsW; rw [cutD_some h1, cutD_some h2, cutD_some h3]
          rw [hp] at hrd
          have g1 : partR r = if plL p1.1 = true then some p1 else none := by unfold partR; rw [h1]
          have g2 : partR p1.2 = if plL p2.1 = true then some p2 else none := by unfold partR; rw [h2]
          have g3 : partR p2.2 = if plL p3.1 = true then some p3 else none := by unfold partR; rw [h3]
          by_cases q1 : plL p1.1 = true
          · rw [g1, if_pos q1]
            simp only
            by_cases q3 : plL p3.1 = true
            · by_cases q4 : p3.2.head? = some 61
              · have hrd2 : rdW l = if (namedR (cutD 42 p1.1).1).2 = 0 then (match bytesD p2.1 p3.1 with | none => none | some b => some ((decR (namedR (cutD 42 p1.1).1).1 b).1, l.length - (p3.2.length - 1))) else none := by
                  rw [hrd]
                  unfold rdP setW
                  rw [if_pos ⟨q4, q1, q3⟩, text_same]
                  rfl
                have hlen : l.length = p1.1.length + p2.1.length + p3.1.length + p3.2.length + 5 := by
                  rw [hl, e1, e2, e3]
                  simp
                  omega
                have hdr : l.drop (l.length - (p3.2.length - 1)) = p3.2.tail := by
                  have e : l = (61 :: 63 :: (p1.1 ++ 63 :: (p2.1 ++ 63 :: (p3.1 ++ [63])))) ++ p3.2 := by
                    conv => lhs; rw [hl, e1, e2, e3]
                    simp
                  have hn : 0 < p3.2.length := by
                    cases h : p3.2 with
                    | nil => rw [h] at q4; cases q4
                    | cons a b => simp
                  have : l.length - (p3.2.length - 1) = (61 :: 63 :: (p1.1 ++ 63 :: (p2.1 ++ 63 :: (p3.1 ++ [63])))).length + 1 := by
                    rw [hlen]; simp; omega
                  rw [this]
                  conv => lhs; rw [e]
                  rw [List.drop_append, List.drop_eq_nil_of_le (by omega)]
                  simp
                have hpos : 0 < l.length - (p3.2.length - 1) := by omega
                by_cases q2 : plL p2.1 = true
                · rw [g2, if_pos q2]
                  simp only
                  rw [g3, if_pos q3]
                  simp only
                  rw [if_pos q4]
                  by_cases q5 : (namedR (cutD 42 p1.1).1).2 = 0
                  · rw [if_pos q5] at hrd2 ⊢
                    cases hb : bytesD p2.1 p3.1 with
                    | none => rw [hb] at hrd2; rw [one_none hrd2]
                    | some b =>
                      rw [hb] at hrd2
                      rw [one_some hrd2 (by omega), hdr]
                  · rw [if_neg q5] at hrd2 ⊢
                    rw [one_none hrd2]
                · rw [g2, if_neg q2]
                  simp only
                  rw [bytes_pl q2] at hrd2
                  rw [one_none (by rw [hrd2]; split <;> rfl)]
              · have : rdW l = none := by rw [hrd]; unfold rdP; rw [if_neg (fun h => q4 h.1)]
                rw [one_none this, g2]
                by_cases q2 : plL p2.1 = true
                · rw [if_pos q2]
                  simp only
                  rw [g3, if_pos q3]
                  simp only
                  rw [if_neg q4]
                · rw [if_neg q2]
            · have : rdW l = none := by rw [hrd]; unfold rdP; rw [if_neg (fun h => q3 h.2.2)]
              rw [one_none this, g2]
              by_cases q2 : plL p2.1 = true
              · rw [if_pos q2]
                simp only
                rw [g3, if_neg q3]
              · rw [if_neg q2]
          · have : rdW l = none := by rw [hrd]; unfold rdP; rw [if_neg (fun h => q1 h.2.1)]
            rw [one_none this, g1, if_neg q1]

/-- The bytes that are gathered, and the words behind them: what is handed over together. -/
def flP (l : List (List Nat × Bool)) : List Nat := l.flatMap (·.1)
structure BothJ (s0 : List UInt8) (f : Nat) (out : List Nat) (many : Nat) (run s : List UInt8) (bw : Bool) : Prop where
  flat : flP (pcW s0) = out ++ flP (pcF f bw (run ++ s))
  num : wdN (pcW s0) = many + wdN (pcF f bw (run ++ s))
  find : fdW (run ++ s) 0 = fdW s run.length
  len : (run ++ s).length < f
theorem flP_append (a b : List (List Nat × Bool)) : flP (a ++ b) = flP a ++ flP b := by simp [flP]
theorem wdN_append (a b : List (List Nat × Bool)) : wdN (a ++ b) = wdN a + wdN b := by simp [wdN]
theorem BothJ.start (s0 : List UInt8) : BothJ s0 (s0.length + 1) [] 0 [] s0 false := ⟨rfl, (Nat.zero_add _).symm, rfl, by simp⟩
theorem BothJ.miss {s0 out run s : List UInt8} {f many : Nat} {o : List Nat} {bw : Bool} {a : UInt8} (h : BothJ s0 f o many run (a :: s) bw) (hm : rdN (rdW (a :: s)) = 0) : BothJ s0 f o many (run ++ [a]) s bw := by
  have e : run ++ [a] ++ s = run ++ a :: s := by simp
  refine ⟨by rw [e]; exact h.flat, by rw [e]; exact h.num, ?_, by rw [e]; exact h.len⟩
  rw [e, h.find, List.length_append]
  show (if 0 < rdN (rdW (a :: s)) then _ else fdW s (run.length + 1)) = _
  rw [if_neg (by omega)]
  rfl
theorem BothJ.hit {s0 run s : List UInt8} {f many : Nat} {o : List Nat} {bw : Bool} (h : BothJ s0 f o many run s bw) (hm : rdN (rdW s) ≠ 0) :
    BothJ s0 f ((if bw = true ∧ blL run = true then o else o ++ lettersL run) ++ rdL (rdW s)) (many + 1) [] (s.drop (rdN (rdW s))) true := by
  have hd : fdW (run ++ s) 0 = (run.length, rdL (rdW s), rdN (rdW s)) := by rw [h.find, fdW_hit (by omega)]
  have hlen := h.len
  have hle := rdN_le s
  obtain ⟨f', rfl⟩ : ∃ f', f = f' + 1 := ⟨f - 1, by omega⟩
  have hne : run ++ s ≠ [] := by
    intro e
    have e2 := congrArg List.length e
    rw [List.length_append, List.length_nil] at e2
    omega
  rw [List.length_append] at hlen
  have key : pcF (f' + 1) bw (run ++ s) = (if !run.isEmpty && !(bw && blL run) then [(lettersL run, false)] else []) ++ (rdL (rdW s), true) :: pcF (f' + 1) true (s.drop (rdN (rdW s))) := by
    rw [pcF_enough (f' + 1) f' true (s.drop (rdN (rdW s))) (by rw [List.length_drop]; omega) (by rw [List.length_drop]; omega)]
    conv => lhs; unfold pcF
    rw [if_neg hne]
    have hr : runB bw (run ++ s) = (!run.isEmpty && !(bw && blL run)) := by
      unfold runB
      rw [hd]
      simp only [List.take_left, decide_eq_true (show 0 < rdN (rdW s) by omega), Bool.and_true]
    rw [hr, hd]
    simp only [List.take_left]
    rw [if_pos (show 0 < rdN (rdW s) by omega), List.drop_append, List.drop_eq_nil_of_le (by omega)]
    simp
  have hfl : flP (if !run.isEmpty && !(bw && blL run) then [(lettersL run, false)] else []) = if bw = true ∧ blL run = true then [] else lettersL run := by
    by_cases hb : bw = true ∧ blL run = true
    · rw [if_pos hb, hb.1, hb.2]; simp [flP]
    · rw [if_neg hb]
      have hb' : (bw && blL run) = false := by
        cases bw
        · rfl
        · simpa using hb
      rw [hb']
      cases run with
      | nil => rfl
      | cons a r => simp [flP]
  have hwd : wdN (if !run.isEmpty && !(bw && blL run) then [(lettersL run, false)] else []) = 0 := by split <;> simp [wdN]
  refine ⟨?_, ?_, by simp, by simp only [List.nil_append, List.length_drop]; omega⟩
  · rw [h.flat, key, flP_append, hfl]
    simp only [List.nil_append, flP, List.flatMap_cons]
    by_cases hb : bw = true ∧ blL run = true
    · rw [if_pos hb, if_pos hb]; simp
    · rw [if_neg hb, if_neg hb]; simp
  · rw [h.num, key, wdN_append, hwd]
    simp only [List.nil_append, wdN, List.filter_cons]
    simp
    omega
theorem BothJ.stop {s0 run : List UInt8} {f many : Nat} {o : List Nat} {bw : Bool} (h : BothJ s0 f o many run [] bw) : flP (pcW s0) = o ++ lettersL run ∧ wdN (pcW s0) = many := by
  have hf := h.find
  have hlen := h.len
  rw [List.append_nil] at hf hlen
  have h1 := h.flat
  have h2 := h.num
  rw [List.append_nil] at h1 h2
  obtain ⟨f', rfl⟩ : ∃ f', f = f' + 1 := ⟨f - 1, by omega⟩
  have key : pcF (f' + 1) bw run = if run = [] then [] else [(lettersL run, false)] := by
    unfold pcF
    by_cases hr : run = []
    · rw [if_pos hr, if_pos hr]
    · rw [if_neg hr, if_neg hr]
      have hd : fdW run 0 = (run.length, [], 0) := by rw [hf]; rfl
      have hb : runB bw run = true := by
        unfold runB
        rw [hd]
        simp [hr]
      rw [hb, hd]
      simp
      exact pcF_nil _ _
  rw [h1, h2, key]
  by_cases hr : run = []
  · subst hr; simp [flP, wdN, lettersL_nil]
  · rw [if_neg hr]; simp [flP, wdN]
end Go.Proofs.YtdallfakfhajdaaGreatDoor
