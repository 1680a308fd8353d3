/-
  What missiveref28.line does, over this seat's program.
-/
import Derived.Test.YtafegjbhaofgiaaDoorLxo
import Derived.Deep.QuietTactic
import Derived.BigQuiet
set_option linter.unusedVariables false
set_option linter.unusedSimpArgs false
namespace Go.Proofs.YtafegjbhaofgiaaDoor
open Go.RowKit Go.Proofs.Lx

/-- A line, what is behind it, and whether it has an end, as Go tells it. -/
def linV (s : ByteArray) (o : Option (List UInt8 × List UInt8)) : Value := match o with
  | some p => .tuple #[.string (bts (trimE p.1 13)), .string (bts p.2), .bool true]
  | none => .tuple #[.string s, .string ⟨#[]⟩, .bool false]
theorem cut_at {s : ByteArray} {k : Nat} (hk : k < s.size) (h : (10 : UInt8) ∉ s.data.toList.take k) (h10 : s[k] = 10) : cutB 10 s.data.toList = some (s.data.toList.take k, s.data.toList.drop (k + 1)) := by
  have e : s.data.toList = s.data.toList.take k ++ 10 :: s.data.toList.drop (k + 1) := by
    conv => lhs; rw [← List.take_append_drop k s.data.toList]
    rw [drop_byte s k hk, h10]
  conv => lhs; rw [e]
  exact cutB_of h
theorem not_take {s : ByteArray} {k : Nat} {c : UInt8} (hk : k < s.size) (h : c ∉ s.data.toList.take k) (hc : s[k] ≠ c) : c ∉ s.data.toList.take (k + 1) := by
  rw [take_byte s k hk, List.mem_append]
  rintro (h' | h')
  · exact h h'
  · simp at h'; exact hc h'.symm
theorem trim_take {s : ByteArray} {k : Nat} (hk : k < s.size) : trimE (s.data.toList.take k) 13 = if h : 0 < k then (if s[k - 1] = 13 then s.data.toList.take (k - 1) else s.data.toList.take k) else s.data.toList.take k := by
  by_cases h0 : 0 < k
  · rw [dif_pos h0]
    obtain ⟨j, rfl⟩ : ∃ j, k = j + 1 := ⟨k - 1, by omega⟩
    have hj : j < s.size := by omega
    simp only [Nat.add_sub_cancel]
    unfold trimE
    rw [take_byte s j hj]
    by_cases h : s[j] = 13
    · rw [if_pos h, if_pos (by simp [h]), List.dropLast_concat]
    · rw [if_neg h, if_neg (by simp [h])]
  · rw [dif_neg h0]
    obtain rfl : k = 0 := by omega
    simp [trimE]

set_option maxHeartbeats 1000000 in
set_option maxRecDepth 100000 in
theorem refLine_any (s : ByteArray) (w : World) (hs : s.size ≤ 4294967296) :
    Calls Tryd.prog 24 #[.string s] w fun e w' => e = .returned (linV s (cutB 10 s.data.toList)) ∧ Below w.heap.size w w' := by
  go_enter Tryd.func24, Tryd.ntmps24
  go_wp2
  go_loop [5, 6] (fun zi _ => ∃ k : Nat, zi = .int .i64 k ∧ k ≤ s.size ∧ Hid ((10 : UInt8) ∉ s.data.toList.take k)) (fun zi _ => s.size - (intOf zi).toNat)
  case atStart => exact ⟨0, rfl, Nat.zero_le _, hide (by simp)⟩
  case round =>
    obtain ⟨k, rfl, hk, HI⟩ := hrel
    by_cases hlt : k < s.size
    · have hlt' : (k : Int) < (s.size : Int) := by omega
      have hc := s[k].toNat_lt
      by_cases h10 : s[k] = 10
      · have e1 : ((s[k].toNat : Int) == 10) = true := by rw [h10]; rfl
        have hcut := cut_at hlt (unhide HI) h10
        have htr := trim_take hlt
        have hsl3 := fun W => slice_from s ((k : Int) + 1) (k + 1) (by omega) (by omega) W
        have x2 : bts (s.data.toList.drop (k + 1)) = s.extract (k + 1) s.size := ext_list (by rw [toList_bts, toList_from])
        by_cases h0 : 0 < k
        · have h0' : 0 < (k : Int) := by omega
          rw [dif_pos h0] at htr
          have hk1 : k - 1 < s.size := by omega
          have hk1' : (k : Int) - 1 < (s.size : Int) := by omega
          have hk0' : 0 ≤ (k : Int) - 1 := by omega
          by_cases h13 : s[k - 1] = 13
          · have e2 : ((s[k - 1].toNat : Int) == 13) = true := by rw [h13]; rfl
            rw [if_pos h13] at htr
            have hsl2 := fun W => slice_upto s ((k : Int) - 1) (k - 1) (by omega) (by omega) W
            have x1 : bts (s.data.toList.take (k - 1)) = s.extract 0 (k - 1) := ext_list (by rw [toList_bts, toList_upto])
            have HF : Hid (linV s (cutB 10 s.data.toList) = .tuple #[.string (s.extract 0 (k - 1)), .string (s.extract (k + 1) s.size), .bool true]) := hide (by
              rw [hcut]; simp only [linV]; rw [htr, x1, x2])
            clear hcut htr x1 x2 HI h10 h13
            go_wp2
            go_quiet (fail)
            go_wp2
            go_ret3
            exact ⟨by rw [unhide HF]; rfl, below_drewN (Below.refl _ _) _⟩
          · have e2 : ((s[k - 1].toNat : Int) == 13) = false := by
              rw [beq_eq_false_iff_ne]; intro h
              exact h13 (UInt8.toNat_inj.1 (by have : (13 : UInt8).toNat = 13 := rfl; omega))
            rw [if_neg h13] at htr
            have hsl2 := fun W => slice_upto s (k : Int) k rfl (by omega) W
            have x1 : bts (s.data.toList.take k) = s.extract 0 k := ext_list (by rw [toList_bts, toList_upto])
            have HF : Hid (linV s (cutB 10 s.data.toList) = .tuple #[.string (s.extract 0 k), .string (s.extract (k + 1) s.size), .bool true]) := hide (by
              rw [hcut]; simp only [linV]; rw [htr, x1, x2])
            clear hcut htr x1 x2 HI h10 h13
            go_wp2
            go_quiet (fail)
            go_wp2
            go_ret3
            exact ⟨by rw [unhide HF]; rfl, below_drewN (Below.refl _ _) _⟩
        · have h0' : ¬ 0 < (k : Int) := by omega
          rw [dif_neg h0] at htr
          have hsl2 := fun W => slice_upto s (k : Int) k rfl (by omega) W
          have x1 : bts (s.data.toList.take k) = s.extract 0 k := ext_list (by rw [toList_bts, toList_upto])
          have HF : Hid (linV s (cutB 10 s.data.toList) = .tuple #[.string (s.extract 0 k), .string (s.extract (k + 1) s.size), .bool true]) := hide (by
            rw [hcut]; simp only [linV]; rw [htr, x1, x2])
          clear hcut htr x1 x2 HI h10 h0
          go_wp2
          go_quiet (fail)
          go_wp2
          go_ret3
          exact ⟨by rw [unhide HF]; rfl, below_drewN (Below.refl _ _) _⟩
      · have e1 : ((s[k].toNat : Int) == 10) = false := by
          rw [beq_eq_false_iff_ne]; intro h
          exact h10 (UInt8.toNat_inj.1 (by have : (10 : UInt8).toNat = 10 := rfl; omega))
        have HI2 := hide (not_take hlt (unhide HI) h10)
        clear HI h10
        go_wp2
        go_round
        case rel => exact ⟨k + 1, by go_num, by omega, HI2⟩
        case measure => simp [intOf]; omega
    · have hlt' : ¬ (k : Int) < (s.size : Int) := by omega
      have hno := unhide HI
      rw [List.take_of_length_le (by rw [sizeL]; omega)] at hno
      have HF := hide (cutB_out hno)
      clear hno HI
      go_wp2
      go_ret3
      exact ⟨by rw [unhide HF]; rfl, Below.refl _ _⟩
end Go.Proofs.YtafegjbhaofgiaaDoor
