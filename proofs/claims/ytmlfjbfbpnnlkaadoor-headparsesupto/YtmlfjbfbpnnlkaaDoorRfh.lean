/-
  What the document's blank, Line, named and Trim of layer 8 do, over this seat's program.
-/
import Derived.Test.YtmlfjbfbpnnlkaaDoorHpb
set_option linter.unusedVariables false
namespace Go.Proofs.YtmlfjbfbpnnlkaaDoor
open Go.RowKit Go.Proofs.Hed

/-- The name that a line begins with, ahead of a colon. -/
def nmdF : List UInt8 → Option (List UInt8)
  | [] => none
  | c :: r => if c = 58 then some [] else if nameB c then (nmdF r).map (c :: ·) else none
theorem nmdF_colon : ∀ l : List UInt8, nmdF l = match colon l with | none => none | some (n, _) => if n.all nameB then some n else none
  | [] => rfl
  | c :: r => by
    have ih := nmdF_colon r
    simp only [nmdF, colon]
    by_cases h : c = 58
    · rw [if_pos h, if_pos h]; rfl
    · rw [if_neg h, if_neg h, ih]
      cases colon r with
      | none => cases nameB c <;> simp
      | some p =>
        obtain ⟨n, v⟩ := p
        simp only [Option.map_some, List.all_cons]
        by_cases hc : nameB c = true <;> by_cases hn : n.all nameB = true <;> simp [hc, hn]
/-- Without blanks at its end. -/
def rtrim (l : List UInt8) : List UInt8 := (l.reverse.dropWhile isB).reverse
theorem rtrim_cons (c : UInt8) (r : List UInt8) : rtrim (c :: r) = if rtrim r = [] then (if isB c then [] else [c]) else c :: rtrim r := by
  unfold rtrim
  rw [List.reverse_cons, List.dropWhile_append]
  by_cases h : r.reverse.dropWhile isB = []
  · rw [h]
    simp only [List.isEmpty_nil, if_true, List.reverse_nil]
    by_cases hc : isB c = true
    · simp [hc]
    · simp [hc]
  · rw [if_neg (by simpa using h), if_neg (by simpa using h)]
    simp
theorem trim_swap : ∀ l : List UInt8, rtrim (l.dropWhile isB) = (rtrim l).dropWhile isB
  | [] => rfl
  | c :: r => by
    have ih := trim_swap r
    rw [rtrim_cons]
    by_cases hc : isB c = true
    · rw [List.dropWhile_cons_of_pos hc, ih]
      by_cases h : rtrim r = []
      · rw [if_pos h, if_pos hc, h]
      · rw [if_neg h, List.dropWhile_cons_of_pos hc]
    · rw [List.dropWhile_cons_of_neg hc, rtrim_cons]
      by_cases h : rtrim r = []
      · rw [if_pos h, if_neg hc, List.dropWhile_cons_of_neg hc]
      · rw [if_neg h, List.dropWhile_cons_of_neg hc]
theorem trimL_two (l : List UInt8) : trimL l = rtrim (l.dropWhile isB) := by rw [trim_swap]; rfl

theorem isB_int (c : UInt8) : isB c = (((c.toNat : Int) == 32) || ((c.toNat : Int) == 9)) := by
  have h1 : (c == 32) = ((c.toNat : Int) == 32) := by
    by_cases h : c = 32
    · subst h; rfl
    · have : c.toNat ≠ 32 := fun e => h (UInt8.toNat_inj.mp e)
      rw [beq_eq_false_iff_ne.mpr h, eq_comm, beq_eq_false_iff_ne]
      omega
  have h2 : (c == 9) = ((c.toNat : Int) == 9) := by
    by_cases h : c = 9
    · subst h; rfl
    · have : c.toNat ≠ 9 := fun e => h (UInt8.toNat_inj.mp e)
      rw [beq_eq_false_iff_ne.mpr h, eq_comm, beq_eq_false_iff_ne]
      omega
  unfold isB
  rw [h1, h2]
set_option maxHeartbeats 400000 in
theorem refBlank_any (c : UInt8) (w : World) : Calls Tryd.prog 37 #[.int .u8 (c.toNat : Int)] w fun e w' => e = .returned (.bool (isB c)) ∧ w' = w := by
  rw [isB_int]
  generalize c.toNat = n
  cases h1 : ((n : Int) == 32)
  · cases h2 : ((n : Int) == 9)
    · go_enter Tryd.func37, Tryd.ntmps37
      go_wp2
      go_ret
      exact ⟨rfl, rfl⟩
    · go_enter Tryd.func37, Tryd.ntmps37
      go_wp2
      go_ret
      exact ⟨rfl, rfl⟩
  · go_enter Tryd.func37, Tryd.ntmps37
    go_wp2
    go_ret
    exact ⟨rfl, rfl⟩

theorem lf_here {s : ByteArray} {k : Nat} (h : k < s.size) (hp : ∀ c ∈ s.data.toList.take k, c ≠ 10) (hc : s[k] = 10) : lfAt s.data.toList = some k := by
  have h1 := lfAt_app (s.data.toList.take k) (s.data.toList.drop (k + 1)) hp
  rw [← hc, ← drop_byte s k h, List.take_append_drop, List.length_take, sizeL] at h1
  rw [h1]
  congr 1
  omega
theorem lf_none : ∀ {l : List UInt8}, (∀ c ∈ l, c ≠ 10) → lfAt l = none
  | [], _ => rfl
  | c :: r, h => by
    simp only [lfAt]
    rw [if_neg (h c (by simp)), lf_none (fun d hd => h d (by simp [hd]))]
    rfl
theorem noCr_at {s : ByteArray} {k : Nat} (hk : k ≤ s.size) (h0 : 0 < k) : noCr (s.data.toList.take k) = if s[k - 1]'(by omega) = 13 then s.data.toList.take (k - 1) else s.data.toList.take k := by
  obtain ⟨j, rfl⟩ : ∃ j, k = j + 1 := ⟨k - 1, by omega⟩
  have e := take_byte s j (by omega)
  unfold noCr
  rw [e]
  simp only [List.getLast?_append, Nat.add_sub_cancel]
  by_cases h : s[j] = 13
  · rw [if_pos h, if_pos (by simp [h])]
    simp
  · rw [if_neg h, if_neg (by simpa using h)]
theorem beq_u8 (c : UInt8) (n : Nat) (d : UInt8) (hd : d.toNat = n) : ((c.toNat : Int) == (n : Int)) = decide (c = d) := by
  by_cases h : c = d
  · subst h; subst hd; simp
  · have : c.toNat ≠ n := fun e => h (UInt8.toNat_inj.mp (e.trans hd.symm))
    rw [decide_eq_false h, beq_eq_false_iff_ne]
    omega

set_option maxHeartbeats 1000000 in
set_option maxRecDepth 100000 in
theorem refLine_any (s : ByteArray) (w : World) (hs : s.size ≤ 281474976710656) :
    Calls Tryd.prog 35 #[.string s] w fun e w' => e = .returned (.tuple #[.string (bts (lineOf s.data.toList)), .string (bts (s.data.toList.drop (lineN s.data.toList)))]) ∧ Below w.heap.size w w' := by
  have hsl := sizeL s
  go_enter Tryd.func35, Tryd.ntmps35
  go_wp2
  go_loopw [4] (fun z wr => ∃ k : Nat, z = .int .i64 k ∧ k ≤ s.size ∧ Hid (∀ c ∈ s.data.toList.take k, c ≠ 10) ∧ wr = w) (fun z _ => s.size - (intOf z).toNat)
  case atStart => exact ⟨0, rfl, by omega, hide (by simp), rfl⟩
  case round =>
    obtain ⟨k, rfl, hk, HP, rfl⟩ := hrel
    by_cases hlt : k < s.size
    · have hlt1 : (k : Int) < (s.size : Int) := by omega
      have hb := beq_u8 s[k] 10 10 rfl
      by_cases hc : s[k] = 10
      · rw [decide_eq_true hc] at hb
        have hlf := lf_here hlt (unhide HP) hc
        have hfin : ∀ e : Nat, noCr (s.data.toList.take k) = s.data.toList.take e → (bts (lineOf s.data.toList) = s.extract 0 e ∧ bts (s.data.toList.drop (lineN s.data.toList)) = s.extract (k + 1) s.size) := by
          intro e he
          unfold lineOf lineN
          rw [hlf]
          simp only
          rw [he]
          exact ⟨ext_list (by rw [toList_bts, toList_upto]), ext_list (by rw [toList_bts, toList_from])⟩
        have HF := hide hfin
        have w1 : IntKind.i64.wrap ((k : Int) + 1) = ((k + 1 : Nat) : Int) := by rw [IntKind.wrap_i64]; omega
        clear hfin hlf hc hsl
        have hk1 : ((k : Int) + 1) ≤ (s.size : Int) := by omega
        by_cases h0 : 0 < k
        · have h01 : (0 : Int) < (k : Int) := by omega
          have hcr := noCr_at hk h0
          obtain ⟨j, hj⟩ : ∃ j, k = j + 1 := ⟨k - 1, by omega⟩
          subst hj
          simp only [Nat.add_sub_cancel] at hcr
          have hb2 := beq_u8 s[j] 13 13 rfl
          by_cases h13 : s[j] = 13
          · rw [decide_eq_true h13] at hb2
            rw [if_pos h13] at hcr
            have HF2 := hide (unhide HF j hcr)
            have hj1 : (j : Int) ≤ (s.size : Int) := by omega
            have hj2 : (j : Int) < (s.size : Int) := by omega
            clear h13 hcr HF
            go_wp2
            go_region
            go_wp2
            go_ret2
            exact ⟨by rw [(unhide HF2).1, (unhide HF2).2]; rfl, ⟨rfl, rfl, rfl, Nat.le_refl _, fun _ _ => rfl⟩⟩
          · rw [decide_eq_false h13] at hb2
            rw [if_neg h13] at hcr
            have HF2 := hide (unhide HF (j + 1) hcr)
            have hj2 : (j : Int) < (s.size : Int) := by omega
            clear h13 hcr HF
            go_wp2
            go_region
            go_wp2
            go_ret2
            exact ⟨by rw [(unhide HF2).1, (unhide HF2).2]; rfl, ⟨rfl, rfl, rfl, Nat.le_refl _, fun _ _ => rfl⟩⟩
        · have hk0 : k = 0 := by omega
          subst hk0
          have HF2 := hide (unhide HF 0 rfl)
          have HE : Hid (s.extract 0 0 = ByteArray.empty) := hide (ext_list (by rw [toList_upto]; rfl))
          clear HF h0
          go_wp2
          go_region
          go_wp2
          go_ret2
          exact ⟨by rw [(unhide HF2).1, (unhide HF2).2, unhide HE]; rfl, ⟨rfl, rfl, rfl, Nat.le_refl _, fun _ _ => rfl⟩⟩
      · rw [decide_eq_false hc] at hb
        have HP2 : Hid (∀ c ∈ s.data.toList.take (k + 1), c ≠ 10) := hide (by
          intro c hm
          rw [take_byte s k hlt, List.mem_append] at hm
          rcases hm with hm | hm
          · exact unhide HP c hm
          · simp at hm; subst hm; exact hc)
        clear hc hsl
        go_wp2
        exact ⟨⟨k + 1, by go_num, by omega, HP2, trivial⟩, by simp [intOf]; omega⟩
    · have hlt1 : ¬ (k : Int) < (s.size : Int) := by omega
      have hlf := lf_none (l := s.data.toList) (by have h := unhide HP; rwa [List.take_of_length_le (by omega)] at h)
      have hfin : bts (lineOf s.data.toList) = s ∧ bts (s.data.toList.drop (lineN s.data.toList)) = ⟨#[]⟩ := by
        unfold lineOf lineN
        rw [hlf]
        simp only
        exact ⟨bts_toList s, by rw [List.drop_length]; rfl⟩
      have HF := hide hfin
      clear hfin hlf hsl
      go_wp2
      go_ret2
      exact ⟨by rw [(unhide HF).1, (unhide HF).2]; rfl, Below.refl _ _⟩

theorem nmd_at {s : ByteArray} {k : Nat} (h : k < s.size) : nmdF (s.data.toList.drop k) = if s[k] = 58 then some [] else if nameB s[k] then (nmdF (s.data.toList.drop (k + 1))).map (s[k] :: ·) else none := by
  rw [drop_byte s k h]
  rfl

set_option maxHeartbeats 1000000 in
set_option maxRecDepth 100000 in
theorem refNamed_any (s : ByteArray) (w : World) (hs : s.size ≤ 281474976710656) :
    Calls Tryd.prog 36 #[.string s] w fun e w' => e = .returned (.string (bts ((nmdF s.data.toList).getD []))) ∧ w' = w := by
  have hsl := sizeL s
  go_enter Tryd.func36, Tryd.ntmps36
  go_wp2
  go_loopw [3] (fun z wr => ∃ k : Nat, z = .int .i64 k ∧ k ≤ s.size ∧ Hid (nmdF s.data.toList = (nmdF (s.data.toList.drop k)).map (s.data.toList.take k ++ ·)) ∧ wr = w) (fun z _ => s.size - (intOf z).toNat)
  case atStart => exact ⟨0, rfl, by omega, hide (by simp), rfl⟩
  case round =>
    obtain ⟨k, rfl, hk, HP, rfl⟩ := hrel
    by_cases hlt : k < s.size
    · have hlt1 : (k : Int) < (s.size : Int) := by omega
      have hk1 : (k : Int) ≤ (s.size : Int) := by omega
      have hb := beq_u8 s[k] 58 58 rfl
      have hp := unhide HP
      rw [nmd_at hlt] at hp
      by_cases hc : s[k] = 58
      · rw [decide_eq_true hc] at hb
        rw [if_pos hc] at hp
        have HF := hide (show bts ((nmdF s.data.toList).getD []) = s.extract 0 k by
          rw [hp]
          simp only [Option.map_some, List.append_nil, Option.getD_some]
          exact ext_list (by rw [toList_bts, toList_upto]))
        clear hc hsl hp HP
        go_wp2
        go_ret
        exact ⟨by rw [unhide HF]; rfl, rfl⟩
      · rw [decide_eq_false hc] at hb
        rw [if_neg hc] at hp
        by_cases hn : nameB s[k] = true
        · rw [if_pos hn] at hp
          have HP2 := hide (show nmdF s.data.toList = (nmdF (s.data.toList.drop (k + 1))).map (s.data.toList.take (k + 1) ++ ·) by
            rw [hp, take_byte s k hlt, Option.map_map]
            congr 1
            funext x
            simp)
          simp only [nameB, decide_eq_true_eq] at hn
          have h1 : ¬ (s[k].toNat : Int) < 33 := by omega
          have h2 : ¬ (126 : Int) < (s[k].toNat : Int) := by omega
          clear hc hsl hp HP hn
          go_wp2
          exact ⟨⟨k + 1, by go_num, by omega, HP2, trivial⟩, by simp [intOf]; omega⟩
        · rw [if_neg hn] at hp
          have HF := hide (show bts ((nmdF s.data.toList).getD []) = ⟨#[]⟩ by
            rw [hp]
            rfl)
          have hn2 : s[k].toNat < 33 ∨ 126 < s[k].toNat := by
            simp only [nameB, decide_eq_true_eq, not_and] at hn
            by_cases x : 33 ≤ s[k].toNat
            · by_cases y : s[k].toNat ≤ 126
              · exact absurd hc (hn x y)
              · omega
            · omega
          clear hc hsl hp HP hn
          by_cases h1 : s[k].toNat < 33
          · have h1' : (s[k].toNat : Int) < 33 := by omega
            go_wp2
            go_ret
            exact ⟨by rw [unhide HF]; rfl, rfl⟩
          · have h2 : (126 : Int) < (s[k].toNat : Int) := by omega
            have h1' : ¬ (s[k].toNat : Int) < 33 := by omega
            go_wp2
            go_ret
            exact ⟨by rw [unhide HF]; rfl, rfl⟩
    · have hlt1 : ¬ (k : Int) < (s.size : Int) := by omega
      have hp := unhide HP
      rw [List.drop_of_length_le (by omega)] at hp
      have HF := hide (show bts ((nmdF s.data.toList).getD []) = ⟨#[]⟩ by
        rw [hp]
        rfl)
      clear hp HP hsl
      go_wp2
      go_ret
      exact ⟨by rw [unhide HF]; rfl, rfl⟩
end Go.Proofs.YtmlfjbfbpnnlkaaDoor
