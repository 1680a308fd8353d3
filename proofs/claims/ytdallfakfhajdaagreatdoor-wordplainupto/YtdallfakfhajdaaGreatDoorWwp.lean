/-
  What missivelaw09.WordPlain does, over this seat's program: it answers true.
-/
import Derived.Test.YtdallfakfhajdaaGreatDoorWlw
set_option linter.unusedVariables false
namespace Go.Proofs.YtdallfakfhajdaaGreatDoor
open Go.RowKit Go.Proofs.Enc Go.Proofs.Rns

theorem plain_flat {l : List UInt8} (h : ∀ j, j ≤ l.length → opW (l.drop j) = none) : (pcW l).flatMap (·.1) = lettersL l ∧ wdN (pcW l) = 0 := by
  rw [pcW_plain h]
  by_cases hl : l = []
  · subst hl
    exact ⟨rfl, rfl⟩
  · rw [if_neg hl]
    simp [wdN]
theorem opW_short {l : List UInt8} (h : l.length < 2) : opW l = none := by
  cases ho : opW l with
  | none => rfl
  | some r => have := (opW_some ho).2; omega

set_option maxHeartbeats 4000000 in
set_option maxRecDepth 100000 in
theorem wordPlain_walk (s : ByteArray) (w : World) (ht : TabW w) (hs : s.size ≤ 16777216) :
    Calls Tryz.prog 6 #[.string s] w fun e w' => e = .returned (.bool true) ∧ Below w.heap.size w w' := by
  have HT := hide ht
  have HL := hide (livesW_any w ht)
  clear ht
  go_enter Tryz.func6, Tryz.ntmps6
  go_wp2_with fail
  refine (unhide HL).mono ?_
  rintro e w1 ⟨rfl, b1⟩
  have HB := hide b1
  clear HL b1
  go_wp2
  go_loop [3] (fun z => ∃ k : Nat, z = .int .i64 k ∧ k ≤ s.size ∧ Hid (∀ j, j < k → opW (s.data.toList.drop j) = none)) (fun z => s.size - (intOf z).toNat)
  case atStart => exact ⟨0, rfl, Nat.zero_le _, hide (fun j hj => by omega)⟩
  case round =>
    obtain ⟨k, rfl, hk, HE⟩ := hrel
    by_cases hlt : k + 1 < s.size
    · have hlt' : (k : Int) + 1 < (s.size : Int) := by omega
      have hk0 : k < s.size := by omega
      have hd : s.data.toList.drop k = s[k] :: s[k + 1] :: s.data.toList.drop (k + 2) := by rw [drop_byte s k hk0, drop_byte s (k + 1) hlt]
      by_cases h1 : s[k] = 61
      · have h1' : (s[k].toNat : Int) = 61 := by rw [h1]; rfl
        by_cases h2 : s[k + 1] = 63
        · have h2' : (s[k + 1].toNat : Int) = 63 := by rw [h2]; rfl
          clear HE hd
          go_wp2
          go_ret
          exact ⟨rfl, unhide HB⟩
        · have h2' : ¬ (s[k + 1].toNat : Int) = 63 := fun e => h2 (UInt8.toNat_inj.mp (by have : (63 : UInt8).toNat = 63 := rfl; omega))
          have HE2 : Hid (∀ j, j < k + 1 → opW (s.data.toList.drop j) = none) := hide (fun j hj => by
            by_cases e : j = k
            · subst e; rw [hd]; unfold opW; simp [h2]
            · exact unhide HE j (by omega))
          clear HE hd
          go_wp2
          go_round
          case rel => exact ⟨k + 1, by go_num, by omega, HE2⟩
          case measure => simp [intOf]; omega
      · have h1' : ¬ (s[k].toNat : Int) = 61 := fun e => h1 (UInt8.toNat_inj.mp (by have : (61 : UInt8).toNat = 61 := rfl; omega))
        have HE2 : Hid (∀ j, j < k + 1 → opW (s.data.toList.drop j) = none) := hide (fun j hj => by
          by_cases e : j = k
          · subst e; rw [hd]; unfold opW; simp [h1]
          · exact unhide HE j (by omega))
        clear HE hd
        go_wp2
        go_round
        case rel => exact ⟨k + 1, by go_num, by omega, HE2⟩
        case measure => simp [intOf]; omega
    · have hlt' : ¬ (k : Int) + 1 < (s.size : Int) := by omega
      have hp := plain_flat (l := s.data.toList) (fun j hj => by
        by_cases h : j < k
        · exact unhide HE j h
        · exact opW_short (by rw [List.length_drop, sizeL]; omega))
      have HT1 := hide ((unhide HT).below (unhide HB))
      have HD := hide (decode_word s w1 (unhide HT1).tab (unhide HT1).err (unhide HT1).max hs)
      have HW := hide (fun W (h : TabW W) => words_word s W h.tab h.err h.max hs)
      have HLT := hide (fun W (h : RTab W) => letters_any s W h (by omega))
      rw [hp.1] at HD
      rw [hp.2] at HW
      have hll := lettersL_len s.data.toList
      rw [sizeL] at hll
      have hli : (ints (lettersL s.data.toList)).length ≤ 9223372036854775807 := by simp [ints]; omega
      clear HE hp
      go_wp2_with fail
      refine (unhide HD).mono ?_
      rintro e w2 ⟨v, rfl, ho, b2⟩
      have HV := hide (own_rowI ho (lettersL_is _))
      have HT2 := hide ((unhide HT1).below b2)
      have HB2 := hide (belows' (unhide HB) b2)
      clear ho b2 HD
      go_wp2_with fail
      refine (unhide HLT _ (unhide HT2).tab.toRTab).mono ?_
      rintro e w3 ⟨u, rfl, ho, b3⟩
      have HU := hide (own_rowI ho (lettersL_is _))
      have HV3 := hide ((unhide HV).below b3)
      have HT3 := hide ((unhide HT2).below b3)
      have HB3 := hide (belows' (unhide HB2) b3)
      clear ho b3 HLT HV
      go_wp2_with fail
      refine (same_any _ _ _ _ _ (unhide HV3) (unhide HU) hli).mono ?_
      rintro e w4 ⟨rfl, b4⟩
      have HT4 := hide ((unhide HT3).below b4)
      have HB4 := hide (belows' (unhide HB3) b4)
      clear b4
      rw [decide_eq_true rfl]
      go_wp2_with fail
      refine (unhide HW _ (unhide HT4)).mono ?_
      rintro e w5 ⟨rfl, b5⟩
      have HB5 := hide (belows' (unhide HB4) b5)
      clear b5
      go_wp2
      go_ret
      exact ⟨rfl, unhide HB5⟩
end Go.Proofs.YtdallfakfhajdaaGreatDoor
