/-
  What head.isBlank, head.isName, strings.Cut at one byte, and head.firstLine do, over this seat's program.
-/
import Derived.Test.YtlolilhlpbpfjaaGreatDoorHlk
import Derived.Test.YtlolilhlpbpfjaaGreatDoorHed
import Derived.BigCall
import Derived.Deep.QuietTactic
import Derived.BigQuiet
import Derived.WalkSmall
set_option linter.unusedVariables false
namespace Go.Proofs.YtlolilhlpbpfjaaGreatDoor
open Go.RowKit Go.Proofs.Hed

theorem all_take {s : ByteArray} {k : Nat} (h : k < s.size) : (s.data.toList.take (k + 1)).all nameB = ((s.data.toList.take k).all nameB && nameB s[k]) := by
  rw [take_byte s k h, List.all_append]
  simp

/-- Where a byte stands first. -/
theorem indexByte_some : ∀ (l : List UInt8) (c : UInt8), (∃ i : Nat, Lib.indexByte l c = (i : Int) ∧ i < l.length) ∨ Lib.indexByte l c = -1
  | [], c => Or.inr rfl
  | d :: r, c => by
    simp only [Lib.indexByte]
    split
    · exact Or.inl ⟨0, rfl, by simp⟩
    · rcases indexByte_some r c with ⟨i, hi, hl⟩ | h
      · rw [hi]
        exact Or.inl ⟨i + 1, by simp; try omega, by simp; try omega⟩
      · rw [h]; exact Or.inr (by simp)
theorem index_lf : ∀ s : List UInt8, Lib.indexByte s 10 = match lfAt s with | none => -1 | some i => (i : Int)
  | [] => rfl
  | c :: r => by
    simp only [Lib.indexByte, lfAt]
    rw [index_lf r]
    by_cases h : c = 10
    · subst h; simp
    · rw [if_neg (by simpa using h), if_neg h]
      cases lfAt r with
      | none => simp
      | some i => simp <;> omega
theorem index_colon : ∀ s : List UInt8, match colon s with | none => Lib.indexByte s 58 = -1 | some (n, v) => Lib.indexByte s 58 = (n.length : Int) ∧ s = n ++ 58 :: v
  | [] => rfl
  | c :: r => by
    have ih := index_colon r
    simp only [Lib.indexByte, colon]
    by_cases h : c = 58
    · subst h; simp
    · rw [if_neg h]
      cases hr : colon r with
      | none =>
        rw [hr] at ih
        simp only at ih
        simp [h, ih]
      | some p =>
        obtain ⟨n, v⟩ := p
        rw [hr] at ih
        obtain ⟨h1, h2⟩ := ih
        simp only [Option.map_some]
        rw [h1, if_neg (by simpa using h)]
        refine ⟨?_, by simp [h2]⟩
        rw [if_neg (by simp <;> omega)]
        simp
theorem trimSuffix_cr (l : List UInt8) : Lib.trimSuffix l [13] = noCr l := by
  unfold Lib.trimSuffix Lib.hasSuffix noCr
  rcases List.eq_nil_or_concat l with rfl | ⟨r, c, rfl⟩
  · rfl
  · simp only [List.getLast?_concat, List.concat_eq_append]
    by_cases h : c = 13
    · subst h
      rw [if_pos (by simp [List.isSuffixOf_iff_suffix]), if_pos (by simp)]
      simp
    · rw [if_neg, if_neg]
      · simpa using h
      · rw [List.isSuffixOf_iff_suffix]
        rintro ⟨t, ht⟩
        have := (List.append_inj' ht rfl).2
        simp at this
        exact h this.symm

set_option maxHeartbeats 1000000 in
theorem cutL_any (s : ByteArray) (w : World) (hs : s.size ≤ 281474976710656) :
    Calls Tryz.prog 40 #[.string s, .string ⟨#[58]⟩] w fun e w' => e = .returned (match colon s.data.toList with | none => .tuple #[.string s, .string ⟨#[]⟩, .bool false] | some (n, v) => .tuple #[.string (bts n), .string (bts v), .bool true]) ∧ ∃ q, w' = w.drewN q := by
  have hsl := sizeL s
  have HI := hide (Tryz.stringslite_Index_one s 58 w)
  have hix := index_colon s.data.toList
  cases hc : colon s.data.toList with
  | none =>
    rw [hc] at hix
    simp only at hix ⊢
    rw [hix] at HI
    clear hix hc hsl
    go_enter Tryz.func40, Tryz.ntmps40
    go_wp2_with fail
    refine (unhide HI).mono ?_
    rintro e w1 ⟨rfl, rfl⟩
    go_wp2
    go_ret3
    exact ⟨rfl, 0, rfl⟩
  | some p =>
    obtain ⟨n, v⟩ := p
    rw [hc] at hix
    obtain ⟨h1, h2⟩ := hix
    simp only
    rw [h1] at HI
    have hl : n.length + 1 + v.length = s.size := by rw [← hsl, h2]; simp; omega
    obtain ⟨i, hi⟩ : ∃ i, n.length = i := ⟨_, rfl⟩
    rw [hi] at HI
    have e1 : bts n = s.extract 0 i := by
      apply ext_list
      rw [toList_bts, toList_upto, h2, ← hi]
      simp
    obtain ⟨i1, hi1⟩ : ∃ i1, i + 1 = i1 := ⟨_, rfl⟩
    have e2 : bts v = s.extract i1 s.size := by
      apply ext_list
      rw [toList_bts, toList_from, h2, ← hi1, ← hi]
      simp
    have h0 : (0 : Int) ≤ (i : Int) := by omega
    have h3 : (i : Int) ≤ (s.size : Int) := by omega
    have h4 : (i1 : Int) ≤ (s.size : Int) := by omega
    have v1 : IntKind.i64.wrap ((i : Int) + 1) = (i1 : Int) := by rw [IntKind.wrap_i64]; omega
    rw [e1, e2]
    clear hc hsl h1 h2 e1 e2 hl hi hi1
    go_enter Tryz.func40, Tryz.ntmps40
    go_wp2_with fail
    refine (unhide HI).mono ?_
    rintro e w1 ⟨rfl, rfl⟩
    go_wp2
    go_quiet (fail)
    go_wp2
    go_ret3
    exact ⟨rfl, _, rfl⟩

set_option maxHeartbeats 1000000 in
theorem cut_any (s : ByteArray) (w : World) (hs : s.size ≤ 281474976710656) :
    Calls Tryz.prog 22 #[.string s, .string ⟨#[58]⟩] w fun e w' => e = .returned (match colon s.data.toList with | none => .tuple #[.string s, .string ⟨#[]⟩, .bool false] | some (n, v) => .tuple #[.string (bts n), .string (bts v), .bool true]) ∧ ∃ q, w' = w.drewN q := by
  have HI := hide (cutL_any s w hs)
  cases hc : colon s.data.toList with
  | none =>
    rw [hc] at HI
    simp only at HI ⊢
    clear hc
    go_enter Tryz.func22, Tryz.ntmps22
    go_wp2_with fail
    refine (unhide HI).mono ?_
    rintro e w1 ⟨rfl, q, rfl⟩
    go_wp2
    go_ret3
    exact ⟨rfl, q, rfl⟩
  | some p =>
    obtain ⟨n, v⟩ := p
    rw [hc] at HI
    simp only at HI ⊢
    clear hc
    go_enter Tryz.func22, Tryz.ntmps22
    go_wp2_with fail
    refine (unhide HI).mono ?_
    rintro e w1 ⟨rfl, q, rfl⟩
    go_wp2
    go_ret3
    exact ⟨rfl, q, rfl⟩
end Go.Proofs.YtlolilhlpbpfjaaGreatDoor
