/-
  What strings.ContainsAny at line ends, head.isValue, writeField and Write do, over this seat's program.
-/
import Derived.Test.YtdallfakfhajdaaGreatDoorIxa
import Derived.Test.YtdallfakfhajdaaGreatDoorWrb
import Derived.Test.YtdallfakfhajdaaGreatDoorHpb
set_option linter.unusedVariables false
namespace Go.Proofs.YtdallfakfhajdaaGreatDoor
open Go.RowKit Go.Proofs.Hed

theorem indexAny_any (s C : ByteArray) (w : World) (h2 : C.size = 2) (ha : ∀ (j : Nat) (h : j < C.size), (C[j]'h).toNat < 128) (hs : s.size < 4294967281) :
    Calls Tryz.prog 109 #[.string s, .string C] w fun e w' => e = .returned (.int .i64 (Lib.indexAny s.data.toList C.data.toList)) ∧ Below w.heap.size w w' := by
  by_cases h8 : s.size ≤ 8
  · exact indexAny_short s C w h2 ha h8
  · refine (Any.strings_IndexAny_long Tryz.lays153 (zero_of_info (show (Tryz.prog.info? _).map (fun i => (i.zero, i.size)) = some (some (.agg (Array.replicate 256 (.bool false))), 256) by kernel_rfl)).1 (by kernel_rfl) s C w (by omega) (by omega) hs (by omega) (fun j b hb => by
      obtain ⟨hj, rfl⟩ := List.getElem?_eq_some_iff.1 hb
      exact ha j (by rwa [sizeL] at hj))).mono ?_
    rintro e w' ⟨rfl, rfl⟩
    exact ⟨rfl, ((Below.refl _ w).alloc (Nat.le_refl _) _).alloc (by simp) _⟩

theorem any_lf' : ∀ v : List UInt8, 0 ≤ Lib.indexAny v [13, 10] ↔ v.all (fun c => c != 10 && c != 13) = false
  | [] => by simp [Lib.indexAny]
  | c :: r => by
    have ih := any_lf' r
    have hg := Lib.indexAny_ge [13, 10] r
    by_cases h13 : c = 13
    · subst h13; simp [Lib.indexAny]
    · by_cases h10 : c = 10
      · subst h10; simp [Lib.indexAny]
      · have e : Lib.indexAny (c :: r) [13, 10] = if Lib.indexAny r [13, 10] == -1 then -1 else Lib.indexAny r [13, 10] + 1 := by
          simp [Lib.indexAny, h13, h10]
        have hb : (c :: r).all (fun c => c != 10 && c != 13) = r.all (fun c => c != 10 && c != 13) := by
          rw [List.all_cons]
          simp [h13, h10]
        rw [e, hb, ← ih]
        by_cases h : Lib.indexAny r [13, 10] = -1
        · rw [if_pos (by simpa using h), h]
        · rw [if_neg (by simpa using h)]
          omega
theorem any_lf (v : List UInt8) : decide (0 ≤ Lib.indexAny v [13, 10]) = !(v.all (fun c => c != 10 && c != 13)) := by
  have := any_lf' v
  cases h : v.all (fun c => c != 10 && c != 13)
  · rw [decide_eq_true (this.2 h)]; rfl
  · rw [decide_eq_false (fun hh => by rw [this.1 hh] at h; cases h)]; rfl

set_option maxHeartbeats 1000000 in
theorem containsAny_any (s : ByteArray) (w : World) (hs : s.size < 4294967281) :
    Calls Tryz.prog 95 #[.string s, .string ⟨#[13, 10]⟩] w fun e w' => e = .returned (.bool (!(s.data.toList.all (fun c => c != 10 && c != 13)))) ∧ Below w.heap.size w w' := by
  have HI := hide (indexAny_any s ⟨#[13, 10]⟩ w rfl (by decide) hs)
  rw [show (⟨#[13, 10]⟩ : ByteArray).data.toList = [13, 10] from rfl] at HI
  rw [← any_lf]
  generalize Lib.indexAny s.data.toList [13, 10] = i at HI ⊢
  go_enter Tryz.func95, Tryz.ntmps95
  go_wp2_with fail
  refine (unhide HI).mono ?_
  rintro e w1 ⟨rfl, hb⟩
  have HB := hide hb
  clear hb
  go_wp2
  go_ret
  exact ⟨rfl, unhide HB⟩

theorem last_byte (s : ByteArray) (h : 0 < s.size) : s.data.toList.getLast? = some (s[s.size - 1]'(by omega)) := by
  rw [List.getLast?_eq_getElem?, sizeL, List.getElem?_eq_getElem (by rw [sizeL]; omega)]
  rfl

theorem isVl_cons (c x : UInt8) (r : List UInt8) (hl : (c :: r).getLast? = some x) : isVl (c :: r) = ((c :: r).all (fun c => c != 10 && c != 13) && (!isB c && !isB x)) := by
  unfold isVl
  rw [hl, Bool.and_assoc]
theorem isVl_pos (s : ByteArray) (h : 0 < s.size) : isVl s.data.toList = (s.data.toList.all (fun c => c != 10 && c != 13) && (!isB (s[0]'h) && !isB (s[s.size - 1]'(by omega)))) := by
  have hl := last_byte s h
  obtain ⟨t, ht⟩ : ∃ t, s.data.toList = (s[0]'h) :: t := ⟨_, by have := drop_byte s 0 h; rwa [List.drop_zero] at this⟩
  rw [ht] at hl ⊢
  exact isVl_cons _ _ _ hl

set_option maxHeartbeats 1000000 in
theorem isValue_any (s : ByteArray) (w : World) (hs : s.size ≤ 16777216) :
    Calls Tryz.prog 52 #[.string s] w fun e w' => e = .returned (.bool (isVl s.data.toList)) ∧ Below w.heap.size w w' := by
  have HC := hide (containsAny_any s w (by omega))
  by_cases h0 : s.size = 0
  · have hnil : s.data.toList = [] := List.eq_nil_of_length_eq_zero (by rw [sizeL]; exact h0)
    have hemp : s.toList.isEmpty = true := by rw [empty_size]; exact decide_eq_true h0
    rw [hnil] at HC ⊢
    rw [show (!(([] : List UInt8).all (fun c => c != 10 && c != 13))) = false from rfl] at HC
    rw [show isVl [] = true from rfl]
    clear hnil h0
    go_enter Tryz.func52, Tryz.ntmps52
    go_wp2_with fail
    refine (unhide HC).mono ?_
    rintro e w1 ⟨rfl, hb⟩
    have HB := hide hb
    clear hb
    go_wp2
    go_ret
    exact ⟨rfl, unhide HB⟩
  have hpos : 0 < s.size := by omega
  have hemp : s.toList.isEmpty = false := by rw [empty_size]; exact decide_eq_false h0
  rw [isVl_pos s hpos]
  cases hall : s.data.toList.all (fun c => c != 10 && c != 13)
  · rw [hall] at HC
    simp only [Bool.false_and]
    clear hall
    go_enter Tryz.func52, Tryz.ntmps52
    go_wp2_with fail
    refine (unhide HC).mono ?_
    rintro e w1 ⟨rfl, hb⟩
    have HB := hide hb
    clear hb
    go_wp2
    go_ret
    exact ⟨rfl, unhide HB⟩
  rw [hall] at HC
  clear hall
  simp only [Bool.true_and]
  have HL := hide (fun W => isBlank_any (s[s.size - 1]'(by omega)) W)
  have HF := hide (fun W => isBlank_any (s[0]'hpos) W)
  have hp' : (0 : Int) < (s.size : Int) := by omega
  have hb' : (s.size : Int) ≤ 16777216 := by omega
  have hix : ((s.size : Int) - 1).toNat = s.size - 1 := by omega
  cases hf : isB (s[0]'hpos)
  · rw [hf] at HF
    simp only [Bool.not_false, Bool.true_and]
    generalize isB (s[s.size - 1]'(by omega)) = bl at HL ⊢
    go_enter Tryz.func52, Tryz.ntmps52
    go_wp2_with fail
    refine (unhide HC).mono ?_
    rintro e w1 ⟨rfl, hb⟩
    have HB := hide hb
    clear hb
    go_wp2_with fail
    refine (unhide HF _).mono ?_
    rintro e _ ⟨rfl, rfl⟩
    go_wp2_with fail
    refine (unhide HL _).mono ?_
    rintro e _ ⟨rfl, rfl⟩
    go_wp2
    go_ret
    exact ⟨rfl, unhide HB⟩
  · rw [hf] at HF
    simp only [Bool.not_true, Bool.false_and]
    go_enter Tryz.func52, Tryz.ntmps52
    go_wp2_with fail
    refine (unhide HC).mono ?_
    rintro e w1 ⟨rfl, hb⟩
    have HB := hide hb
    clear hb
    go_wp2_with fail
    refine (unhide HF _).mono ?_
    rintro e _ ⟨rfl, rfl⟩
    go_wp2
    go_ret
    exact ⟨rfl, unhide HB⟩

end Go.Proofs.YtdallfakfhajdaaGreatDoor
