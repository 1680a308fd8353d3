/-
  What strings.CutPrefix at whatever text, and mime.isMark do, over this seat's program.
-/
import Derived.Test.YtedpimhhbajljaaGreatDoorMmf
set_option linter.unusedVariables false
set_option linter.unusedSimpArgs false
namespace Go.Proofs.YtedpimhhbajljaaGreatDoor
open Go.RowKit Go.Proofs.Hed Go.Shelf Go.Lib

theorem pre_len {a b : List UInt8} (h : Lib.hasPrefix a b = true) : b.length ≤ a.length := by
  unfold Lib.hasPrefix at h
  exact (List.isPrefixOf_iff_prefix.1 h).length_le
set_option maxHeartbeats 1000000 in
theorem cutPrefixH_any (s p : ByteArray) (w : World) (hs : s.size ≤ 281474976710656) :
    Calls Tryz.prog 62 #[.string s, .string p] w fun e w' => e = .returned (.tuple #[.string (if Lib.hasPrefix s.data.toList p.data.toList = true then s.extract p.size s.size else s), .bool (Lib.hasPrefix s.data.toList p.data.toList)]) ∧ w' = w := by
  have HP := hide (fun W => Tryz.stringslite_HasPrefix s p W)
  cases h : Lib.hasPrefix s.data.toList p.data.toList with
  | true =>
    rw [h] at HP
    have h1 : p.size ≤ s.size := by rw [← sizeL, ← sizeL]; exact pre_len h
    have h2 : (p.size : Int) ≤ (s.size : Int) := by omega
    simp only [if_true]
    clear h
    go_enter Tryz.func62, Tryz.ntmps62
    go_wp2_with (go_at_call 76; refine (unhide HP _).mono ?_; rintro e _ ⟨rfl, rfl⟩)
    go_ret2
    exact ⟨rfl, rfl⟩
  | false =>
    rw [h] at HP
    simp only [Bool.false_eq_true, if_false]
    clear h
    go_enter Tryz.func62, Tryz.ntmps62
    go_wp2_with (go_at_call 76; refine (unhide HP _).mono ?_; rintro e _ ⟨rfl, rfl⟩)
    go_ret2
    exact ⟨rfl, rfl⟩
set_option maxHeartbeats 1000000 in
theorem cutPrefixG_any (s p : ByteArray) (w : World) (hs : s.size ≤ 281474976710656) :
    Calls Tryz.prog 39 #[.string s, .string p] w fun e w' => e = .returned (.tuple #[.string (if Lib.hasPrefix s.data.toList p.data.toList = true then s.extract p.size s.size else s), .bool (Lib.hasPrefix s.data.toList p.data.toList)]) ∧ w' = w := by
  have HP := hide (fun W => cutPrefixH_any s p W hs)
  generalize (if Lib.hasPrefix s.data.toList p.data.toList = true then s.extract p.size s.size else s) = t at HP ⊢
  generalize Lib.hasPrefix s.data.toList p.data.toList = r at HP ⊢
  go_enter Tryz.func39, Tryz.ntmps39
  go_wp2_with (go_at_call 62; refine (unhide HP _).mono ?_; rintro e _ ⟨rfl, rfl⟩)
  go_ret2
  exact ⟨rfl, rfl⟩
theorem trimRightM_any (s : ByteArray) (w : World) (hs : s.size ≤ 281474976710656) :
    Calls Tryz.prog 107 #[.string s, .string ⟨#[32, 9]⟩] w fun e w' => e = .returned (.string (bts (Lib.trimRightS s.data.toList [32, 9]))) ∧ Below w.heap.size w w' :=
  Any.strings_TrimRight_laid Tryz.lays162 (by kernel_rfl) s ⟨#[32, 9]⟩ w (by omega) (by decide) (ascii_of_all (by decide))
/-- Whether a line begins a part, and whether it ends the last one. -/
def mkB (line mark : List UInt8) : Bool := Lib.hasPrefix line mark && (Lib.trimRightS (line.drop mark.length) [32, 9]).isEmpty
def mkC (line mark : List UInt8) : Bool := Lib.hasPrefix line mark && decide (Lib.trimRightS (line.drop mark.length) [32, 9] = [45, 45])
theorem mk_one {line mark : List UInt8} (h : mkC line mark = true) : mkB line mark = false := by
  unfold mkC at h
  unfold mkB
  simp only [Bool.and_eq_true, decide_eq_true_eq] at h
  rw [h.2]
  simp

set_option maxHeartbeats 1000000 in
theorem isMark_any (line mark : ByteArray) (w : World) (hs : line.size ≤ 281474976710656) :
    Calls Tryz.prog 105 #[.string line, .string mark] w fun e w' => e = .returned (.tuple #[.bool (mkB line.data.toList mark.data.toList), .bool (mkC line.data.toList mark.data.toList)]) ∧ Below w.heap.size w w' := by
  have HC := hide (fun W => cutPrefixG_any line mark W hs)
  have hml := sizeL mark
  unfold mkB mkC
  cases h : Lib.hasPrefix line.data.toList mark.data.toList with
  | false =>
    rw [h] at HC
    simp only [Bool.false_eq_true, if_false, Bool.false_and] at HC ⊢
    have HT := hide (fun W => trimRightM_any line W hs)
    generalize bts (Lib.trimRightS line.data.toList [32, 9]) = z at HT
    clear h
    go_enter Tryz.func105, Tryz.ntmps105
    go_wp2_with fail
    refine (unhide HC _).mono ?_
    rintro e w1 ⟨rfl, hc⟩
    subst hc
    go_wp2_with fail
    refine (unhide HT _).mono ?_
    rintro e w2 ⟨rfl, b2⟩
    have B2 := hide b2
    clear b2
    go_wp2
    go_ret2
    exact ⟨rfl, unhide B2⟩
  | true =>
    rw [h] at HC
    simp only [if_true, Bool.true_and] at HC ⊢
    have hle := pre_len h
    rw [sizeL, sizeL] at hle
    have htd : (line.extract mark.size line.size).data.toList = line.data.toList.drop mark.data.toList.length := by rw [toList_from, hml]
    have HT := hide (fun W => trimRightM_any (line.extract mark.size line.size) W (by rw [← sizeL, htd, List.length_drop, sizeL]; omega))
    rw [htd] at HT
    generalize line.extract mark.size line.size = y at HC HT
    generalize Lib.trimRightS (line.data.toList.drop mark.data.toList.length) [32, 9] = z at HT ⊢
    have h1 : (bts z).toList.isEmpty = z.isEmpty := by rw [ByteArray.toList_eq, toList_bts]
    have h2 : ((bts z).toList == [45, 45]) = decide (z = [45, 45]) := by
      rw [ByteArray.toList_eq, toList_bts]
      by_cases hz : z = [45, 45]
      · rw [hz]; rfl
      · rw [decide_eq_false hz]; simpa using hz
    clear h htd hle
    generalize z.isEmpty = r1 at h1 ⊢
    generalize decide (z = [45, 45]) = r2 at h2 ⊢
    generalize bts z = zb at HT h1 h2
    go_enter Tryz.func105, Tryz.ntmps105
    go_wp2_with fail
    refine (unhide HC _).mono ?_
    rintro e w1 ⟨rfl, hc⟩
    subst hc
    go_wp2_with fail
    refine (unhide HT _).mono ?_
    rintro e w2 ⟨rfl, b2⟩
    have B2 := hide b2
    clear b2
    cases r1 <;> cases r2
    all_goals
      go_wp2
      go_ret2
      exact ⟨rfl, unhide B2⟩
end Go.Proofs.YtedpimhhbajljaaGreatDoor
