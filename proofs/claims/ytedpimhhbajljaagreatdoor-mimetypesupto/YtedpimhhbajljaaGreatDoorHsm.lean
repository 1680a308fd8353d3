/-
  What head.isBlank, head.isName, strings.Cut at one byte, and head.firstLine do, over this seat's program.
-/
import Derived.Test.YtedpimhhbajljaaGreatDoorHlk
import Derived.Test.YtedpimhhbajljaaGreatDoorHed
import Derived.BigCall
import Derived.Deep.QuietTactic
import Derived.BigQuiet
import Derived.WalkSmall
set_option linter.unusedVariables false
namespace Go.Proofs.YtedpimhhbajljaaGreatDoor
open Go.RowKit Go.Proofs.Hed

set_option maxHeartbeats 400000 in
theorem isBlank_any (c : UInt8) (w : World) : Calls Tryz.prog 95 #[.int .u8 (c.toNat : Int)] w fun e w' => e = .returned (.bool (isB c)) ∧ w' = w := by
  have e1 : isB c = (((c.toNat : Int) == 32) || ((c.toNat : Int) == 9)) := by
    have h1 : (c == 32) = ((c.toNat : Int) == 32) := by
      by_cases h : c = 32
      · subst h; rfl
      · have : c.toNat ≠ 32 := fun e => h (UInt8.toNat_inj.mp e)
        rw [beq_eq_false_iff_ne.mpr h, eq_comm, beq_eq_false_iff_ne]
        omega
    have h2 : (c == 9) = ((c.toNat : Int) == 9) := by
      by_cases h : c = 9
      · subst h; rfl
      · have : c.toNat ≠ 9 := fun e => h (UInt8.toNat_inj.mp e)
        rw [beq_eq_false_iff_ne.mpr h, eq_comm, beq_eq_false_iff_ne]
        omega
    unfold isB
    rw [h1, h2]
  rw [e1]
  clear e1
  generalize c.toNat = n
  cases h1 : ((n : Int) == 32)
  · cases h2 : ((n : Int) == 9)
    · go_enter Tryz.func95, Tryz.ntmps95
      go_wp2
      go_ret
      exact ⟨rfl, rfl⟩
    · go_enter Tryz.func95, Tryz.ntmps95
      go_wp2
      go_ret
      exact ⟨rfl, rfl⟩
  · go_enter Tryz.func95, Tryz.ntmps95
    go_wp2
    go_ret
    exact ⟨rfl, rfl⟩

theorem all_take {s : ByteArray} {k : Nat} (h : k < s.size) : (s.data.toList.take (k + 1)).all nameB = ((s.data.toList.take k).all nameB && nameB s[k]) := by
  rw [take_byte s k h, List.all_append]
  simp

set_option maxHeartbeats 1000000 in
set_option maxRecDepth 100000 in
theorem isName_any (s : ByteArray) (w : World) (hs : s.size ≤ 281474976710656) :
    Calls Tryz.prog 94 #[.string s] w fun e w' => e = .returned (.bool (isNm s.data.toList)) ∧ w' = w := by
  have hsl := sizeL s
  go_enter Tryz.func94, Tryz.ntmps94
  go_wp2
  go_loopw [6] (fun z wr => ∃ k : Nat, z = .int .i64 k ∧ k ≤ s.size ∧ Hid ((s.data.toList.take k).all nameB = true) ∧ wr = w) (fun z _ => s.size - (intOf z).toNat)
  case atStart => exact ⟨0, rfl, by omega, hide rfl, rfl⟩
  case round =>
    obtain ⟨k, rfl, hk, HT, rfl⟩ := hrel
    by_cases hlt : k < s.size
    · have hlt1 : (k : Int) < (s.size : Int) := by omega
      have hat := all_take hlt
      rw [unhide HT, Bool.true_and] at hat
      by_cases hn : nameB s[k] = true
      · rw [hn] at hat
        have HN := hide hat
        simp only [nameB, decide_eq_true_eq] at hn
        obtain ⟨h1, h2, h3⟩ := hn
        have e3 : ((s[k].toNat : Int) == 58) = false := by
          have : s[k].toNat ≠ 58 := fun e => h3 (UInt8.toNat_inj.mp e)
          simp; omega
        have e1 : ¬ (s[k].toNat : Int) < 33 := by omega
        have e2 : ¬ 126 < (s[k].toNat : Int) := by omega
        clear hat h3
        go_wp2
        exact ⟨⟨k + 1, by go_num, by omega, HN, trivial⟩, by simp [intOf]; omega⟩
      · have hfin : isNm s.data.toList = false := by
          unfold isNm
          have : s.data.toList.all nameB = false := by
            rw [Bool.eq_false_iff]
            intro h
            rw [List.all_eq_true] at h
            exact hn (h s[k] (List.getElem_mem (l := s.data.toList) (n := k) (by omega)))
          rw [this]; rfl
        have HF := hide hfin
        have hn' : s[k].toNat < 33 ∨ 126 < s[k].toNat ∨ s[k].toNat = 58 := by
          simp only [nameB, decide_eq_true_eq] at hn
          by_cases a1 : s[k].toNat < 33
          · exact Or.inl a1
          · by_cases a2 : 126 < s[k].toNat
            · exact Or.inr (Or.inl a2)
            · right; right
              by_cases a3 : s[k] = 58
              · rw [a3]; rfl
              · exact absurd ⟨by omega, by omega, a3⟩ hn
        clear hat hfin hn
        obtain ⟨x, hx⟩ : ∃ x, s[k].toNat = x := ⟨_, rfl⟩
        rw [hx] at hn'
        by_cases a1 : x < 33
        · have e1 : (x : Int) < 33 := by omega
          go_wp2
          go_ret
          exact ⟨by rw [unhide HF]; rfl, rfl⟩
        · have e1 : ¬ (x : Int) < 33 := by omega
          by_cases a2 : 126 < x
          · have e2 : 126 < (x : Int) := by omega
            go_wp2
            go_ret
            exact ⟨by rw [unhide HF]; rfl, rfl⟩
          · have e2 : ¬ 126 < (x : Int) := by omega
            have e3 : ((x : Int) == 58) = true := by simp; omega
            go_wp2
            go_ret
            exact ⟨by rw [unhide HF]; rfl, rfl⟩
    · have hlt1 : ¬ (k : Int) < (s.size : Int) := by omega
      have hall : s.data.toList.all nameB = true := by
        have := unhide HT
        rwa [List.take_of_length_le (by omega)] at this
      have hfin : isNm s.data.toList = !decide (s.size = 0) := by
        unfold isNm
        rw [hall]
        cases h : s.data.toList with
        | nil => rw [h] at hsl; simp at hsl; simp [← hsl]
        | cons c r => rw [h] at hsl; simp at hsl; rw [decide_eq_false (by omega)]; rfl
      have HF := hide hfin
      clear hfin hall hsl
      go_wp2
      go_ret
      refine ⟨retH_b ?_, rfl⟩
      rw [unhide HF, empty_size]

/-- Where a byte stands first. -/
theorem indexByte_some : ∀ (l : List UInt8) (c : UInt8), (∃ i : Nat, Lib.indexByte l c = (i : Int) ∧ i < l.length) ∨ Lib.indexByte l c = -1
  | [], c => Or.inr rfl
  | d :: r, c => by
    simp only [Lib.indexByte]
    split
    · exact Or.inl ⟨0, rfl, by simp⟩
    · rcases indexByte_some r c with ⟨i, hi, hl⟩ | h
      · rw [hi]
        exact Or.inl ⟨i + 1, by simp; try omega, by simp; try omega⟩
      · rw [h]; exact Or.inr (by simp)
theorem index_lf : ∀ s : List UInt8, Lib.indexByte s 10 = match lfAt s with | none => -1 | some i => (i : Int)
  | [] => rfl
  | c :: r => by
    simp only [Lib.indexByte, lfAt]
    rw [index_lf r]
    by_cases h : c = 10
    · subst h; simp
    · rw [if_neg (by simpa using h), if_neg h]
      cases lfAt r with
      | none => simp
      | some i => simp <;> omega
theorem index_colon : ∀ s : List UInt8, match colon s with | none => Lib.indexByte s 58 = -1 | some (n, v) => Lib.indexByte s 58 = (n.length : Int) ∧ s = n ++ 58 :: v
  | [] => rfl
  | c :: r => by
    have ih := index_colon r
    simp only [Lib.indexByte, colon]
    by_cases h : c = 58
    · subst h; simp
    · rw [if_neg h]
      cases hr : colon r with
      | none =>
        rw [hr] at ih
        simp only at ih
        simp [h, ih]
      | some p =>
        obtain ⟨n, v⟩ := p
        rw [hr] at ih
        obtain ⟨h1, h2⟩ := ih
        simp only [Option.map_some]
        rw [h1, if_neg (by simpa using h)]
        refine ⟨?_, by simp [h2]⟩
        rw [if_neg (by simp <;> omega)]
        simp
theorem trimSuffix_cr (l : List UInt8) : Lib.trimSuffix l [13] = noCr l := by
  unfold Lib.trimSuffix Lib.hasSuffix noCr
  rcases List.eq_nil_or_concat l with rfl | ⟨r, c, rfl⟩
  · rfl
  · simp only [List.getLast?_concat, List.concat_eq_append]
    by_cases h : c = 13
    · subst h
      rw [if_pos (by simp [List.isSuffixOf_iff_suffix]), if_pos (by simp)]
      simp
    · rw [if_neg, if_neg]
      · simpa using h
      · rw [List.isSuffixOf_iff_suffix]
        rintro ⟨t, ht⟩
        have := (List.append_inj' ht rfl).2
        simp at this
        exact h this.symm

set_option maxHeartbeats 1000000 in
theorem firstLine_any (s : ByteArray) (w : World) (hs : s.size ≤ 281474976710656) :
    Calls Tryz.prog 93 #[.string s] w fun e w' => e = .returned (.tuple #[.string (bts (lineOf s.data.toList)), .int .i64 (lineN s.data.toList : Int)]) ∧ w' = w := by
  have hsl := sizeL s
  have HI := hide (Tryz.strings_IndexByte s 10 w)
  have hix := index_lf s.data.toList
  rw [show ((10 : Int).toNat.toUInt8) = (10 : UInt8) from rfl, hix] at HI
  unfold lineOf lineN
  cases hlf : lfAt s.data.toList with
  | none =>
    rw [hlf] at HI
    simp only at HI ⊢
    rw [bts_toList, hsl]
    clear hix hsl hlf
    go_enter Tryz.func93, Tryz.ntmps93
    go_wp2_with fail
    refine (unhide HI).mono ?_
    rintro e w1 ⟨rfl, rfl⟩
    go_wp2
    go_ret2
    exact ⟨rfl, rfl⟩
  | some i =>
    rw [hlf] at HI
    simp only at HI ⊢
    have hil := lfAt_lt hlf
    rw [hsl] at hil
    have HT := hide (fun W => Tryz.strings_TrimSuffix (s.extract 0 i) ⟨#[13]⟩ W (by rw [size_part s 0 i (by omega)]; omega))
    rw [toList_upto, show (⟨#[13]⟩ : ByteArray).data.toList = [13] from rfl, trimSuffix_cr] at HT
    have h0 : ¬ (i : Int) < 0 := by omega
    have h1 : (i : Int) ≤ (s.size : Int) := by omega
    clear hix hsl hlf
    go_enter Tryz.func93, Tryz.ntmps93
    go_wp2_with fail
    refine (unhide HI).mono ?_
    rintro e w1 ⟨rfl, rfl⟩
    go_wp2_with fail
    refine (unhide HT _).mono ?_
    rintro e w1 ⟨rfl, rfl⟩
    go_wp2
    go_ret2
    refine ⟨?_, rfl⟩
    show Ending.returned (.tuple #[.string (bts (noCr (s.data.toList.take i))), .int .i64 _]) = _
    go_num

set_option maxHeartbeats 1000000 in
theorem cutL_any (s : ByteArray) (w : World) (hs : s.size ≤ 281474976710656) :
    Calls Tryz.prog 26 #[.string s, .string ⟨#[58]⟩] w fun e w' => e = .returned (match colon s.data.toList with | none => .tuple #[.string s, .string ⟨#[]⟩, .bool false] | some (n, v) => .tuple #[.string (bts n), .string (bts v), .bool true]) ∧ ∃ q, w' = w.drewN q := by
  have hsl := sizeL s
  have HI := hide (Tryz.stringslite_Index_one s 58 w)
  have hix := index_colon s.data.toList
  cases hc : colon s.data.toList with
  | none =>
    rw [hc] at hix
    simp only at hix ⊢
    rw [hix] at HI
    clear hix hc hsl
    go_enter Tryz.func26, Tryz.ntmps26
    go_wp2_with fail
    refine (unhide HI).mono ?_
    rintro e w1 ⟨rfl, rfl⟩
    go_wp2
    go_ret3
    exact ⟨rfl, 0, rfl⟩
  | some p =>
    obtain ⟨n, v⟩ := p
    rw [hc] at hix
    obtain ⟨h1, h2⟩ := hix
    simp only
    rw [h1] at HI
    have hl : n.length + 1 + v.length = s.size := by rw [← hsl, h2]; simp; omega
    obtain ⟨i, hi⟩ : ∃ i, n.length = i := ⟨_, rfl⟩
    rw [hi] at HI
    have e1 : bts n = s.extract 0 i := by
      apply ext_list
      rw [toList_bts, toList_upto, h2, ← hi]
      simp
    obtain ⟨i1, hi1⟩ : ∃ i1, i + 1 = i1 := ⟨_, rfl⟩
    have e2 : bts v = s.extract i1 s.size := by
      apply ext_list
      rw [toList_bts, toList_from, h2, ← hi1, ← hi]
      simp
    have h0 : (0 : Int) ≤ (i : Int) := by omega
    have h3 : (i : Int) ≤ (s.size : Int) := by omega
    have h4 : (i1 : Int) ≤ (s.size : Int) := by omega
    have v1 : IntKind.i64.wrap ((i : Int) + 1) = (i1 : Int) := by rw [IntKind.wrap_i64]; omega
    rw [e1, e2]
    clear hc hsl h1 h2 e1 e2 hl hi hi1
    go_enter Tryz.func26, Tryz.ntmps26
    go_wp2_with fail
    refine (unhide HI).mono ?_
    rintro e w1 ⟨rfl, rfl⟩
    go_wp2
    go_quiet (fail)
    go_wp2
    go_ret3
    exact ⟨rfl, _, rfl⟩

set_option maxHeartbeats 1000000 in
theorem cut_any (s : ByteArray) (w : World) (hs : s.size ≤ 281474976710656) :
    Calls Tryz.prog 10 #[.string s, .string ⟨#[58]⟩] w fun e w' => e = .returned (match colon s.data.toList with | none => .tuple #[.string s, .string ⟨#[]⟩, .bool false] | some (n, v) => .tuple #[.string (bts n), .string (bts v), .bool true]) ∧ ∃ q, w' = w.drewN q := by
  have HI := hide (cutL_any s w hs)
  cases hc : colon s.data.toList with
  | none =>
    rw [hc] at HI
    simp only at HI ⊢
    clear hc
    go_enter Tryz.func10, Tryz.ntmps10
    go_wp2_with fail
    refine (unhide HI).mono ?_
    rintro e w1 ⟨rfl, q, rfl⟩
    go_wp2
    go_ret3
    exact ⟨rfl, q, rfl⟩
  | some p =>
    obtain ⟨n, v⟩ := p
    rw [hc] at HI
    simp only at HI ⊢
    clear hc
    go_enter Tryz.func10, Tryz.ntmps10
    go_wp2_with fail
    refine (unhide HI).mono ?_
    rintro e w1 ⟨rfl, q, rfl⟩
    go_wp2
    go_ret3
    exact ⟨rfl, q, rfl⟩
set_option maxHeartbeats 400000 in
theorem cloneS_any (s : ByteArray) (w : World) (hs : s.size ≤ 281474976710656) : Calls Tryz.prog 13 #[.string s] w fun e w' => e = .returned (.string s) ∧ Below w.heap.size w w' := by
  have HI := hide (Tryz.stringslite_Clone s w hs)
  go_enter Tryz.func13, Tryz.ntmps13
  go_wp2_with fail
  refine (unhide HI).mono ?_
  rintro e w1 ⟨rfl, b1⟩
  go_wp2
  go_ret
  exact ⟨rfl, b1⟩
end Go.Proofs.YtedpimhhbajljaaGreatDoor
