/-
  What the document's Trim of layer 8 does, over this seat's program.
-/
import Derived.Test.YtedpimhhbajljaaGreatDoorRfh
set_option linter.unusedVariables false
namespace Go.Proofs.YtedpimhhbajljaaGreatDoor
open Go.RowKit Go.Proofs.Hed

theorem rtrim_snoc (l : List UInt8) (c : UInt8) : rtrim (l ++ [c]) = if isB c then rtrim l else l ++ [c] := by
  unfold rtrim
  rw [List.reverse_append, List.reverse_singleton, List.singleton_append]
  by_cases h : isB c = true
  · rw [if_pos h, List.dropWhile_cons_of_pos h]
  · rw [if_neg h, List.dropWhile_cons_of_neg h]
    simp
def strSz : Value → Nat
  | .string s => s.size
  | _ => 0
theorem rtrim_at {s : ByteArray} {k : Nat} (h : k + 1 = s.size) : rtrim s.data.toList = if isB (s[k]'(by omega)) then rtrim (s.data.toList.take k) else s.data.toList := by
  have e := take_byte s k (by omega)
  rw [List.take_of_length_le (by rw [sizeL]; omega)] at e
  have h2 := rtrim_snoc (s.data.toList.take k) (s[k]'(by omega))
  rw [← e] at h2
  exact h2

set_option maxHeartbeats 1000000 in
set_option maxRecDepth 100000 in
theorem refTrim_any (s : ByteArray) (w : World) (hs : s.size ≤ 281474976710656) :
    Calls Tryz.prog 17 #[.string s] w fun e w' => e = .returned (.string (bts (trimL s.data.toList))) ∧ w' = w := by
  obtain ⟨D, hD⟩ : ∃ D, D = s.data.toList.dropWhile isB := ⟨_, rfl⟩
  have HTW := hide (trimL_two s.data.toList)
  rw [← hD] at HTW
  have HD := hide hD
  clear hD
  go_enter Tryz.func17, Tryz.ntmps17
  go_wp2
  go_loopw [0] (fun z wr => ∃ s1 : ByteArray, z = .string s1 ∧ s1.size ≤ s.size ∧ Hid (s1.data.toList.dropWhile isB = D) ∧ wr = w) (fun z _ => strSz z)
  case atStart => exact ⟨s, rfl, Nat.le_refl _, hide (unhide HD).symm, rfl⟩
  case round =>
    obtain ⟨s1, rfl, hk, HP, rfl⟩ := hrel
    have hem := empty_size s1
    by_cases h0 : s1.size = 0
    · rw [decide_eq_true h0] at hem
      have HX : Hid (s1.data.toList = D) := hide (by rw [← unhide HP]; have : s1.data.toList = [] := List.eq_nil_of_length_eq_zero (by rw [sizeL]; exact h0); rw [this]; rfl)
      clear HP h0
      go_wp2
      go_loopw [0] (fun z wr2 => ∃ s2 : ByteArray, z = .string s2 ∧ s2.size ≤ s.size ∧ Hid (rtrim s2.data.toList = rtrim D) ∧ wr2 = wr) (fun z _ => strSz z)
      case atStart => exact ⟨s1, rfl, hk, hide (by rw [unhide HX]), rfl⟩
      case round =>
        obtain ⟨s2, rfl, hk2, HP2, rfl⟩ := hrel
        have hem2 := empty_size s2
        by_cases h02 : s2.size = 0
        · rw [decide_eq_true h02] at hem2
          have HF : Hid (bts (trimL s.data.toList) = s2) := hide (by
            have h3 : s2.data.toList = [] := List.eq_nil_of_length_eq_zero (by rw [sizeL]; exact h02)
            rw [unhide HTW, ← unhide HP2, h3]
            exact ext_list (by rw [toList_bts, h3]; rfl))
          clear HP2 h02
          go_wp2
          go_ret
          exact ⟨by rw [unhide HF]; rfl, rfl⟩
        · rw [decide_eq_false h02] at hem2
          obtain ⟨m, hm⟩ : ∃ m, m + 1 = s2.size := ⟨s2.size - 1, by omega⟩
          have hml : m < s2.size := by omega
          have hat := rtrim_at hm
          have v1 : (s2.size : Int) - 1 = (m : Int) := by omega
          have v2 : IntKind.i64.wrap (m : Int) = (m : Int) := by rw [IntKind.wrap_i64]; omega
          have v3 : (m : Int) < (s2.size : Int) := by omega
          have v4 : (m : Int) ≤ (s2.size : Int) := by omega
          have HBL := hide (fun W => refBlank_any s2[m] W)
          by_cases hb2 : isB s2[m] = true
          · rw [hb2] at HBL
            rw [if_pos hb2] at hat
            have HX2 : Hid (rtrim (s2.extract 0 m).data.toList = rtrim D) := hide (by rw [← unhide HP2, hat, toList_upto])
            have hsz2 := size_part s2 0 m (by omega)
            clear HP2 hat hb2 h02
            go_wp2_with fail
            refine (unhide HBL _).mono ?_
            rintro e w5 ⟨rfl, rfl⟩
            clear HBL
            go_wp2
            exact ⟨⟨_, rfl, by rw [hsz2]; omega, HX2, trivial⟩, by simp only [strSz]; rw [hsz2]; omega⟩
          · have hbf2 : isB s2[m] = false := by simpa using hb2
            rw [hbf2] at HBL
            rw [if_neg hb2] at hat
            have HF : Hid (bts (trimL s.data.toList) = s2) := hide (by
              rw [unhide HTW, ← unhide HP2, hat]
              exact bts_toList s2)
            clear HP2 hat hb2 h02 hbf2
            go_wp2_with fail
            refine (unhide HBL _).mono ?_
            rintro e w5 ⟨rfl, rfl⟩
            clear HBL
            go_wp2
            go_ret
            exact ⟨by rw [unhide HF]; rfl, rfl⟩
    · rw [decide_eq_false h0] at hem
      have h1 : 0 < s1.size := by omega
      have h1' : (0 : Int) < (s1.size : Int) := by omega
      have hd := drop_byte s1 0 h1
      rw [List.drop_zero] at hd
      have HBL := hide (refBlank_any s1[0] wr)
      by_cases hb : isB s1[0] = true
      · rw [hb] at HBL
        have HX : Hid ((s1.extract 1 s1.size).data.toList.dropWhile isB = D) := hide (by rw [← unhide HP, hd, List.dropWhile_cons_of_pos hb, toList_from])
        have hsz := size_part s1 1 s1.size (Nat.le_refl _)
        have h2 : (1 : Int) ≤ (s1.size : Int) := by omega
        clear HP hd hb h0
        go_wp2_with fail
        refine (unhide HBL).mono ?_
        rintro e w1 ⟨rfl, rfl⟩
        clear HBL
        go_wp2
        exact ⟨⟨_, rfl, by rw [hsz]; omega, HX, trivial⟩, by simp only [strSz]; rw [hsz]; omega⟩
      · have hbf : isB s1[0] = false := by simpa using hb
        rw [hbf] at HBL
        have HX : Hid (s1.data.toList = D) := hide (by rw [← unhide HP, hd, List.dropWhile_cons_of_neg hb])
        clear HP hd hb h0 hbf
        go_wp2_with fail
        refine (unhide HBL).mono ?_
        rintro e w1 ⟨rfl, rfl⟩
        clear HBL
        go_wp2
        go_loopw [0] (fun z wr2 => ∃ s2 : ByteArray, z = .string s2 ∧ s2.size ≤ s.size ∧ Hid (rtrim s2.data.toList = rtrim D) ∧ wr2 = w1) (fun z _ => strSz z)
        case atStart => exact ⟨s1, rfl, hk, hide (by rw [unhide HX]), rfl⟩
        case round =>
          obtain ⟨s2, rfl, hk2, HP2, rfl⟩ := hrel
          have hem2 := empty_size s2
          by_cases h02 : s2.size = 0
          · rw [decide_eq_true h02] at hem2
            have HF : Hid (bts (trimL s.data.toList) = s2) := hide (by
              have h3 : s2.data.toList = [] := List.eq_nil_of_length_eq_zero (by rw [sizeL]; exact h02)
              rw [unhide HTW, ← unhide HP2, h3]
              exact ext_list (by rw [toList_bts, h3]; rfl))
            clear HP2 h02
            go_wp2
            go_ret
            exact ⟨by rw [unhide HF]; rfl, rfl⟩
          · rw [decide_eq_false h02] at hem2
            obtain ⟨m, hm⟩ : ∃ m, m + 1 = s2.size := ⟨s2.size - 1, by omega⟩
            have hml : m < s2.size := by omega
            have hat := rtrim_at hm
            have v1 : (s2.size : Int) - 1 = (m : Int) := by omega
            have v2 : IntKind.i64.wrap (m : Int) = (m : Int) := by rw [IntKind.wrap_i64]; omega
            have v3 : (m : Int) < (s2.size : Int) := by omega
            have v4 : (m : Int) ≤ (s2.size : Int) := by omega
            have HBL := hide (fun W => refBlank_any s2[m] W)
            by_cases hb2 : isB s2[m] = true
            · rw [hb2] at HBL
              rw [if_pos hb2] at hat
              have HX2 : Hid (rtrim (s2.extract 0 m).data.toList = rtrim D) := hide (by rw [← unhide HP2, hat, toList_upto])
              have hsz2 := size_part s2 0 m (by omega)
              clear HP2 hat hb2 h02
              go_wp2_with fail
              refine (unhide HBL _).mono ?_
              rintro e w5 ⟨rfl, rfl⟩
              clear HBL
              go_wp2
              exact ⟨⟨_, rfl, by rw [hsz2]; omega, HX2, trivial⟩, by simp only [strSz]; rw [hsz2]; omega⟩
            · have hbf2 : isB s2[m] = false := by simpa using hb2
              rw [hbf2] at HBL
              rw [if_neg hb2] at hat
              have HF : Hid (bts (trimL s.data.toList) = s2) := hide (by
                rw [unhide HTW, ← unhide HP2, hat]
                exact bts_toList s2)
              clear HP2 hat hb2 h02 hbf2
              go_wp2_with fail
              refine (unhide HBL _).mono ?_
              rintro e w5 ⟨rfl, rfl⟩
              clear HBL
              go_wp2
              go_ret
              exact ⟨by rw [unhide HF]; rfl, rfl⟩
end Go.Proofs.YtedpimhhbajljaaGreatDoor
