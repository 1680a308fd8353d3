/-
  What missiveref28.Announced does, over this seat's program.
-/
import Derived.Test.YtafegjbhaofgiaaDoorLxu
set_option linter.unusedVariables false
set_option linter.unusedSimpArgs false
namespace Go.Proofs.YtafegjbhaofgiaaDoor
open Go.RowKit Go.Proofs.Lx

theorem last_byte (s : ByteArray) (h : 1 ≤ s.size) : s.data.toList.getLast? = some s[s.size - 1] ∧ s.data.toList.dropLast = s.data.toList.take (s.size - 1) := by
  have e : s.data.toList = s.data.toList.take (s.size - 1) ++ [s[s.size - 1]] := by
    rw [← take_byte s (s.size - 1) (by omega), show s.size - 1 + 1 = s.size by omega, List.take_of_length_le (by rw [sizeL]; omega)]
  constructor
  · rw [e, List.getLast?_append]; simp
  · conv => lhs; rw [e]
    rw [List.dropLast_concat]
theorem annR_yes {l D : List UInt8} {i : Nat} (h1 : l.getLast? = some 125) (hD : D = trimE l.dropLast 43) (hi : D.drop i = 123 :: D.drop (i + 1)) (hn : (123 : UInt8) ∉ D.drop (i + 1)) : annR l = numD (D.drop (i + 1)) := by
  unfold annR
  rw [if_pos h1, ← hD]
  have e : D = D.take i ++ 123 :: D.drop (i + 1) := by rw [← hi, List.take_append_drop]
  conv => lhs; rw [e]
  rw [lastB_of hn]; rfl
theorem annR_no {l D : List UInt8} (h1 : l.getLast? = some 125) (hD : D = trimE l.dropLast 43) (hn : (123 : UInt8) ∉ D) : annR l = none := by
  unfold annR
  rw [if_pos h1, ← hD, lastB_out hn]; rfl

set_option maxHeartbeats 2000000 in
set_option maxRecDepth 100000 in
theorem refAnn_any (s : ByteArray) (w : World) (hs : s.size ≤ 281474976710656) :
    Calls Tryd.prog 11 #[.string s] w fun e w' => e = .returned (annV (annL s.data.toList)) ∧ w' = w := by
  rw [← annR_eq]
  have HE := is_empty s
  by_cases a0 : s.size = 0
  · have e0 : s.toList.isEmpty = true := by rw [HE]; exact decide_eq_true a0
    have HF : Hid (annR s.data.toList = none) := hide (by
      have : s.data.toList = [] := List.length_eq_zero_iff.1 (by rw [sizeL]; exact a0)
      rw [this]; rfl)
    clear a0 HE
    go_enter Tryd.func11, Tryd.ntmps11
    go_wp2
    go_ret2
    exact ⟨by rw [unhide HF]; rfl, rfl⟩
  have e0 : s.toList.isEmpty = false := by rw [HE]; exact decide_eq_false a0
  have hs1 : 1 ≤ s.size := by omega
  have hs1' : 1 ≤ (s.size : Int) := by omega
  have hx1 : (s.size : Int) - 1 < (s.size : Int) := by omega
  have hx0 : 0 ≤ (s.size : Int) - 1 := by omega
  obtain ⟨hl1, hl2⟩ := last_byte s hs1
  have hc := s[s.size - 1].toNat_lt
  clear HE a0
  by_cases h125 : s[s.size - 1] = 125
  rotate_left
  · have e1 : ((s[s.size - 1].toNat : Int) != 125) = true := by
      rw [bne_iff_ne]; intro h
      exact h125 (UInt8.toNat_inj.1 (by have : (125 : UInt8).toNat = 125 := rfl; omega))
    have HF : Hid (annR s.data.toList = none) := hide (by
      rw [annR, if_neg]
      rw [hl1]; simp [h125])
    clear hl1 hl2 h125
    go_enter Tryd.func11, Tryd.ntmps11
    go_wp2
    go_ret2
    exact ⟨by rw [unhide HF]; rfl, rfl⟩
  have e1 : ((s[s.size - 1].toNat : Int) != 125) = false := by rw [h125]; rfl
  rw [h125] at hl1
  clear h125
  have hsl := fun W => slice_upto s ((s.size : Int) - 1) (s.size - 1) (by omega) (by omega) W
  obtain ⟨t, ht⟩ : ∃ t, t = s.extract 0 (s.size - 1) := ⟨_, rfl⟩
  have htl : t.data.toList = s.data.toList.dropLast := by rw [ht, toList_upto, hl2]
  have htz : t.size = s.size - 1 := by rw [ht, ByteArray.size_extract]; omega
  rw [← ht] at hsl
  have HEt := is_empty t
  have HL1 := hide hl1
  have htz2 : t.size ≤ 281474976710656 := by omega
  clear ht hl1 hl2 htz
  by_cases t0 : t.size = 0
  · have et : t.toList.isEmpty = true := by rw [HEt]; exact decide_eq_true t0
    have HD : Hid (t.data.toList = trimE s.data.toList.dropLast 43) := hide (by
      have : t.data.toList = [] := List.length_eq_zero_iff.1 (by rw [sizeL]; exact t0)
      rw [← htl, this]; rfl)
    have hDz : t.size ≤ 281474976710656 := by omega
    clear htl HEt t0
    go_enter Tryd.func11, Tryd.ntmps11
    go_wp2
    go_loop [5, 6] (fun zi _ => ∃ x : Int, zi = .int .i64 x ∧ -1 ≤ x ∧ x < (t.size : Int) ∧ Hid ((123 : UInt8) ∉ t.data.toList.drop (x + 1).toNat)) (fun zi _ => (intOf zi + 1).toNat)
    case atStart => exact ⟨(t.size : Int) - 1, rfl, by omega, by omega, hide (by rw [drop_end t (by omega)]; simp)⟩
    case round =>
      obtain ⟨x, rfl, hx2, hx3, HI⟩ := hrel
      by_cases hlt : 0 ≤ x
      · obtain ⟨i, rfl⟩ : ∃ i : Nat, x = (i : Int) := ⟨x.toNat, by omega⟩
        have hi : i < t.size := by omega
        have hci := t[i].toNat_lt
        have HI' : Hid ((123 : UInt8) ∉ t.data.toList.drop (i + 1)) := hide (by
          have := unhide HI
          rwa [show ((i : Int) + 1).toNat = i + 1 by omega] at this)
        have hi0 : 0 ≤ (i : Int) := by omega
        by_cases h123 : t[i] = 123
        · have e3 : ((t[i].toNat : Int) == 123) = true := by rw [h123]; rfl
          have hF := annR_yes (i := i) (unhide HL1) (unhide HD) (by rw [drop_byte t i hi, h123]) (unhide HI')
          have hsl3 := fun W => slice_from t ((i : Int) + 1) (i + 1) (by omega) (by omega) W
          have HG := hide (fun W => refDigits_any (t.extract (i + 1) t.size) W (by rw [ByteArray.size_extract]; omega))
          rw [toList_from, ← hF] at HG
          clear hF HI HI' h123 hlt
          generalize ho : annR s.data.toList = o at HG
          have HO := hide ho
          clear ho
          cases o with
          | none =>
            simp only [digI] at HG
            have hmx : max (0 : Int) (-1) = 0 := by decide
            go_wp2_with fail
            refine (unhide HG _).mono ?_
            rintro e w1 ⟨rfl, h1⟩
            subst h1
            go_wp2
            go_ret2
            exact ⟨by rw [unhide HO]; rfl, rfl⟩
          | some n =>
            simp only [digI] at HG
            have hn0 : (0 : Int) ≤ (n : Int) := by omega
            go_wp2_with fail
            refine (unhide HG _).mono ?_
            rintro e w1 ⟨rfl, h1⟩
            subst h1
            go_wp2
            go_ret2
            exact ⟨by rw [unhide HO]; rfl, rfl⟩
        · have e3 : ((t[i].toNat : Int) == 123) = false := by
            rw [beq_eq_false_iff_ne]; intro h
            exact h123 (UInt8.toNat_inj.1 (by have : (123 : UInt8).toNat = 123 := rfl; omega))
          have HI2 : Hid ((123 : UInt8) ∉ t.data.toList.drop ((i : Int) - 1 + 1).toNat) := hide (by
            rw [show ((i : Int) - 1 + 1).toNat = i by omega, drop_byte t i hi]
            simp only [List.mem_cons, not_or]
            exact ⟨fun h => h123 h.symm, unhide HI'⟩)
          clear HI HI' h123 hlt
          go_wp2
          go_round
          case rel => exact ⟨(i : Int) - 1, by go_num, by omega, by omega, HI2⟩
          case measure => simp [intOf] <;> omega
      · obtain rfl : x = -1 := by omega
        have HF : Hid (annR s.data.toList = none) := hide (annR_no (unhide HL1) (unhide HD) (by have := unhide HI; simpa using this))
        clear HI
        go_wp2
        go_ret2
        exact ⟨by rw [unhide HF]; rfl, rfl⟩
  have et : t.toList.isEmpty = false := by rw [HEt]; exact decide_eq_false t0
  have ht1 : 1 ≤ t.size := by omega
  have ht1' : 1 ≤ (t.size : Int) := by omega
  have hy1 : (t.size : Int) - 1 < (t.size : Int) := by omega
  have hy0 : 0 ≤ (t.size : Int) - 1 := by omega
  obtain ⟨hl3, hl4⟩ := last_byte t ht1
  have hct := t[t.size - 1].toNat_lt
  by_cases h43 : t[t.size - 1] = 43
  · have e2 : ((t[t.size - 1].toNat : Int) == 43) = true := by rw [h43]; rfl
    have hsl2 := fun W => slice_upto t ((t.size : Int) - 1) (t.size - 1) (by omega) (by omega) W
    obtain ⟨D, hD⟩ : ∃ D, D = t.extract 0 (t.size - 1) := ⟨_, rfl⟩
    have HD : Hid (D.data.toList = trimE s.data.toList.dropLast 43) := hide (by
      rw [← htl, trimE, if_pos (by rw [hl3, h43]), hl4, hD, toList_upto])
    have hDz : D.size ≤ 281474976710656 := by rw [hD, ByteArray.size_extract]; omega
    rw [← hD] at hsl2
    clear htl HEt t0 hl3 hl4 h43 hD
    go_enter Tryd.func11, Tryd.ntmps11
    go_wp2
    go_loop [5, 6] (fun zi _ => ∃ x : Int, zi = .int .i64 x ∧ -1 ≤ x ∧ x < (D.size : Int) ∧ Hid ((123 : UInt8) ∉ D.data.toList.drop (x + 1).toNat)) (fun zi _ => (intOf zi + 1).toNat)
    case atStart => exact ⟨(D.size : Int) - 1, rfl, by omega, by omega, hide (by rw [drop_end D (by omega)]; simp)⟩
    case round =>
      obtain ⟨x, rfl, hx2, hx3, HI⟩ := hrel
      by_cases hlt : 0 ≤ x
      · obtain ⟨i, rfl⟩ : ∃ i : Nat, x = (i : Int) := ⟨x.toNat, by omega⟩
        have hi : i < D.size := by omega
        have hci := D[i].toNat_lt
        have HI' : Hid ((123 : UInt8) ∉ D.data.toList.drop (i + 1)) := hide (by
          have := unhide HI
          rwa [show ((i : Int) + 1).toNat = i + 1 by omega] at this)
        have hi0 : 0 ≤ (i : Int) := by omega
        by_cases h123 : D[i] = 123
        · have e3 : ((D[i].toNat : Int) == 123) = true := by rw [h123]; rfl
          have hF := annR_yes (i := i) (unhide HL1) (unhide HD) (by rw [drop_byte D i hi, h123]) (unhide HI')
          have hsl3 := fun W => slice_from D ((i : Int) + 1) (i + 1) (by omega) (by omega) W
          have HG := hide (fun W => refDigits_any (D.extract (i + 1) D.size) W (by rw [ByteArray.size_extract]; omega))
          rw [toList_from, ← hF] at HG
          clear hF HI HI' h123 hlt
          generalize ho : annR s.data.toList = o at HG
          have HO := hide ho
          clear ho
          cases o with
          | none =>
            simp only [digI] at HG
            have hmx : max (0 : Int) (-1) = 0 := by decide
            go_wp2_with fail
            refine (unhide HG _).mono ?_
            rintro e w1 ⟨rfl, h1⟩
            subst h1
            go_wp2
            go_ret2
            exact ⟨by rw [unhide HO]; rfl, rfl⟩
          | some n =>
            simp only [digI] at HG
            have hn0 : (0 : Int) ≤ (n : Int) := by omega
            go_wp2_with fail
            refine (unhide HG _).mono ?_
            rintro e w1 ⟨rfl, h1⟩
            subst h1
            go_wp2
            go_ret2
            exact ⟨by rw [unhide HO]; rfl, rfl⟩
        · have e3 : ((D[i].toNat : Int) == 123) = false := by
            rw [beq_eq_false_iff_ne]; intro h
            exact h123 (UInt8.toNat_inj.1 (by have : (123 : UInt8).toNat = 123 := rfl; omega))
          have HI2 : Hid ((123 : UInt8) ∉ D.data.toList.drop ((i : Int) - 1 + 1).toNat) := hide (by
            rw [show ((i : Int) - 1 + 1).toNat = i by omega, drop_byte D i hi]
            simp only [List.mem_cons, not_or]
            exact ⟨fun h => h123 h.symm, unhide HI'⟩)
          clear HI HI' h123 hlt
          go_wp2
          go_round
          case rel => exact ⟨(i : Int) - 1, by go_num, by omega, by omega, HI2⟩
          case measure => simp [intOf] <;> omega
      · obtain rfl : x = -1 := by omega
        have HF : Hid (annR s.data.toList = none) := hide (annR_no (unhide HL1) (unhide HD) (by have := unhide HI; simpa using this))
        clear HI
        go_wp2
        go_ret2
        exact ⟨by rw [unhide HF]; rfl, rfl⟩
  · have e2 : ((t[t.size - 1].toNat : Int) == 43) = false := by
      rw [beq_eq_false_iff_ne]; intro h
      exact h43 (UInt8.toNat_inj.1 (by have : (43 : UInt8).toNat = 43 := rfl; omega))
    have HD : Hid (t.data.toList = trimE s.data.toList.dropLast 43) := hide (by
      rw [← htl, trimE, if_neg]
      rw [hl3]; simp [h43])
    have hDz : t.size ≤ 281474976710656 := by omega
    clear htl HEt t0 hl3 hl4 h43
    go_enter Tryd.func11, Tryd.ntmps11
    go_wp2
    go_loop [5, 6] (fun zi _ => ∃ x : Int, zi = .int .i64 x ∧ -1 ≤ x ∧ x < (t.size : Int) ∧ Hid ((123 : UInt8) ∉ t.data.toList.drop (x + 1).toNat)) (fun zi _ => (intOf zi + 1).toNat)
    case atStart => exact ⟨(t.size : Int) - 1, rfl, by omega, by omega, hide (by rw [drop_end t (by omega)]; simp)⟩
    case round =>
      obtain ⟨x, rfl, hx2, hx3, HI⟩ := hrel
      by_cases hlt : 0 ≤ x
      · obtain ⟨i, rfl⟩ : ∃ i : Nat, x = (i : Int) := ⟨x.toNat, by omega⟩
        have hi : i < t.size := by omega
        have hci := t[i].toNat_lt
        have HI' : Hid ((123 : UInt8) ∉ t.data.toList.drop (i + 1)) := hide (by
          have := unhide HI
          rwa [show ((i : Int) + 1).toNat = i + 1 by omega] at this)
        have hi0 : 0 ≤ (i : Int) := by omega
        by_cases h123 : t[i] = 123
        · have e3 : ((t[i].toNat : Int) == 123) = true := by rw [h123]; rfl
          have hF := annR_yes (i := i) (unhide HL1) (unhide HD) (by rw [drop_byte t i hi, h123]) (unhide HI')
          have hsl3 := fun W => slice_from t ((i : Int) + 1) (i + 1) (by omega) (by omega) W
          have HG := hide (fun W => refDigits_any (t.extract (i + 1) t.size) W (by rw [ByteArray.size_extract]; omega))
          rw [toList_from, ← hF] at HG
          clear hF HI HI' h123 hlt
          generalize ho : annR s.data.toList = o at HG
          have HO := hide ho
          clear ho
          cases o with
          | none =>
            simp only [digI] at HG
            have hmx : max (0 : Int) (-1) = 0 := by decide
            go_wp2_with fail
            refine (unhide HG _).mono ?_
            rintro e w1 ⟨rfl, h1⟩
            subst h1
            go_wp2
            go_ret2
            exact ⟨by rw [unhide HO]; rfl, rfl⟩
          | some n =>
            simp only [digI] at HG
            have hn0 : (0 : Int) ≤ (n : Int) := by omega
            go_wp2_with fail
            refine (unhide HG _).mono ?_
            rintro e w1 ⟨rfl, h1⟩
            subst h1
            go_wp2
            go_ret2
            exact ⟨by rw [unhide HO]; rfl, rfl⟩
        · have e3 : ((t[i].toNat : Int) == 123) = false := by
            rw [beq_eq_false_iff_ne]; intro h
            exact h123 (UInt8.toNat_inj.1 (by have : (123 : UInt8).toNat = 123 := rfl; omega))
          have HI2 : Hid ((123 : UInt8) ∉ t.data.toList.drop ((i : Int) - 1 + 1).toNat) := hide (by
            rw [show ((i : Int) - 1 + 1).toNat = i by omega, drop_byte t i hi]
            simp only [List.mem_cons, not_or]
            exact ⟨fun h => h123 h.symm, unhide HI'⟩)
          clear HI HI' h123 hlt
          go_wp2
          go_round
          case rel => exact ⟨(i : Int) - 1, by go_num, by omega, by omega, HI2⟩
          case measure => simp [intOf] <;> omega
      · obtain rfl : x = -1 := by omega
        have HF : Hid (annR s.data.toList = none) := hide (annR_no (unhide HL1) (unhide HD) (by have := unhide HI; simpa using this))
        clear HI
        go_wp2
        go_ret2
        exact ⟨by rw [unhide HF]; rfl, rfl⟩
end Go.Proofs.YtafegjbhaofgiaaDoor
