/-
  What missivelaw06.RunesBack does, over this seat's program: it answers true.
-/
import Derived.Test.YtoofggofpdlccabDoorRtw
set_option linter.unusedVariables false
namespace Go.Proofs.YtoofggofpdlccabDoor
open Go.RowKit Go.Proofs.Rns

theorem encL_len {c : Nat} : ∀ (l : List Int) (s : List UInt8), encL c l = some s → s.length ≤ 4 * l.length
  | [], s, h => by simp [encL] at h; subst h; simp
  | n :: r, s, h => by
    simp only [encL] at h
    cases hn : encOne c n with
    | none => rw [hn] at h; simp at h
    | some x =>
      rw [hn] at h
      obtain ⟨t, ht, rfl⟩ := Option.map_eq_some_iff.1 h
      have := encOne_len hn
      have := encL_len r t ht
      simp
      omega

/-- What Encode told well is decoded. -/
theorem back_of {c : Nat} {l : List Int} (h : (encR c l).2 = 0) : (1 ≤ c ∧ c ≤ 5) ∧ ints (decL c (encR c l).1) = l ∧ (encR c l).1.length ≤ 4 * l.length := by
  unfold encR at h ⊢
  split at h
  · rename_i hc
    rw [if_pos hc]
    cases he : encL c l with
    | none => rw [he] at h; simp at h
    | some s => exact ⟨hc, dec_enc he, encL_len l s he⟩
  · simp at h

theorem encR_errno (c : Nat) (l : List Int) : (encR c l).2 = 0 ∨ (encR c l).2 = 7 ∨ (encR c l).2 = 14 := by
  unfold encR
  split
  · split <;> simp
  · simp

/-- The end of the law: letters in UTF-8 are those that they are, and Bad in the place of what is none. -/
def fixes (l : List Int) : List Nat := l.map fun r => (fix r).toNat

set_option maxHeartbeats 2000000 in
set_option maxRecDepth 100000 in
theorem back_any (c : Nat) (v : Value) (l : List Int) (w : World) (ht : RTabN w) (hv : RowI w v l) (h256 : c < 256) (hl : l.length ≤ 1048576) :
    Calls Tryd.prog 5 #[.int .u8 c, v] w fun e w' => e = .returned (.bool true) ∧ Below w.heap.size w w' := by
  have HT := hide ht
  have HV := hide hv
  obtain ⟨a, cap, rfl, hrange, _⟩ := hv
  have hul := utf8L_len l
  have HU := hide (fun W (hW : RowI W (.slice a l.length cap) l) => utf8_any (.slice a l.length cap) l W hW (by omega))
  have LT := fun W (hW : RTabN W) => letters_any (bts (utf8L l)) W hW.toRTab (by rw [size_bts]; omega)
  rw [toList_bts, letters_utf8, show (l.map fun r => (fix r).toNat) = fixes l from rfl] at LT
  have HLT := hide LT
  have HISF : Hid (∀ n ∈ fixes l, isL (n : Int) = true) := by
    have h := lettersL_is (utf8L l)
    rw [letters_utf8] at h
    exact h
  have HFX : Hid (∀ j (h : j < l.length) (h' : j < (ints (fixes l)).length), (ints (fixes l))[j] = fix l[j]) := by
    intro j h h'
    have hf : 0 ≤ fix l[j] := by
      unfold fix
      split
      · rename_i hi; simp only [isL, decide_eq_true_eq] at hi; omega
      · omega
    simp [ints, fixes]
    omega
  have hfl : (ints (fixes l)).length = l.length := by simp [ints, fixes]
  have hfl2 : (fixes l).length = l.length := by simp [fixes]
  have HRG := hide hrange
  have E := fun W (hW : RTabN W) (hR : RowI W (.slice a l.length cap) l) => encode_any c (.slice a l.length cap) l W hW.toRTab hR h256 (by omega)
  have HEN := hide E
  clear ht LT hrange E
  go_enter Tryd.func5, Tryd.ntmps5
  go_wp2_with fail
  refine (lives_any _ (unhide HT)).mono ?_
  rintro e w1 ⟨rfl, b1⟩
  have HT1 := hide ((unhide HT).below b1)
  have HV1 := hide ((unhide HV).below b1)
  go_wp2_with fail
  refine (unhide HEN _ (unhide HT1) (unhide HV1)).mono ?_
  rintro e w2 ⟨rfl, b2⟩
  have HT2 := hide ((unhide HT1).below b2)
  have HV2 := hide ((unhide HV1).below b2)
  have HB2 := hide (belows' b1 b2)
  clear HEN HT HV HT1 HV1 b1 b2
  by_cases hok : (encR c l).2 = 0
  · obtain ⟨hc, hback, hblen⟩ := back_of hok
    have D := fun W (hW : RTabN W) => decode_ok c (bts (encR c l).1) W hW.toRTab hc (by rw [size_bts]; omega)
    rw [toList_bts] at D
    have HD := hide D
    have HDI := hide (decL_is c hc.2 (encR c l).1)
    have HBK := hide hback
    have hq : (((encR c l).2 : Int) == 0) = true := by simp [hok]
    clear D hback hblen hok hc
    generalize bts (encR c l).1 = t at HD
    generalize (encR c l).2 = en at hq
    generalize decL c (encR c l).1 = dl at HD HDI HBK
    go_wp2_with fail
    refine (unhide HD _ (unhide HT2)).mono ?_
    rintro e w3 ⟨v3, rfl, hown, b3⟩
    have hrow := own_rowI hown (unhide HDI)
    rw [unhide HBK] at hrow
    have HR3 := hide hrow
    have HT3 := hide ((unhide HT2).below b3)
    have HV3 := hide ((unhide HV2).below b3)
    have HB3 := hide (belows' (unhide HB2) b3)
    clear hown hrow HD HDI HBK HT2 HV2 HB2 b3
    go_wp2_with fail
    refine (same_any v3 _ l l _ (unhide HR3) (unhide HV3) (by omega)).mono ?_
    rintro e w4 ⟨rfl, b4⟩
    rw [decide_eq_true rfl]
    have HT4 := hide ((unhide HT3).below b4)
    have HV4 := hide ((unhide HV3).below b4)
    have HB4 := hide (belows' (unhide HB3) b4)
    clear HT3 HV3 HB3 b4 HR3
    go_wp2_with fail
    refine (unhide HU _ (unhide HV4)).mono ?_
    rintro e w5 ⟨rfl, b5⟩
    have HT5 := hide ((unhide HT4).below b5)
    have HV5 := hide ((unhide HV4).below b5)
    have HB5 := hide (belows' (unhide HB4) b5)
    clear HT4 HV4 HB4 b5 HU
    go_wp2_with fail
    refine (unhide HLT _ (unhide HT5)).mono ?_
    rintro e w6 ⟨v6, rfl, hown6, b6⟩
    have hrow6 := own_rowI hown6 (unhide HISF)
    obtain ⟨a6, cap6, rfl, _, hc6⟩ := hrow6
    obtain ⟨a7, cap7, hv7, _, hc7⟩ := (unhide HV5).below b6
    simp only [Value.slice.injEq, true_and] at hv7
    obtain ⟨rfl, rfl⟩ := hv7
    have HC6 := hide hc6
    have HC7 := hide hc7
    have HB6 := hide (belows' (unhide HB5) b6)
    clear hown6 hc6 hc7 HT5 HV5 HB5 HLT b6
    rw [hfl]
    go_wp2
    go_loop [10, 11, 46] (fun x y z => ∃ k : Nat, z = .int .i64 k ∧ k ≤ l.length) (fun _ _ z => l.length - (intOf z).toNat)
    case atStart => exact ⟨0, rfl, Nat.zero_le _⟩
    case round =>
      obtain ⟨k, rfl, hk⟩ := hrel
      by_cases hlt : k < l.length
      · have hki : k < (ints (fixes l)).length := by simp [ints, fixes]; exact hlt
        have hx : ∃ b off, a = some ⟨b, off, none⟩ ∧ w6.cell? ⟨b, off + k, none⟩ = some (.int .i32 l[k]) := by
          rcases unhide HC7 with h | ⟨b, off, ha, hb, hcj⟩
          · rw [h] at hlt; simp at hlt
          · exact ⟨b, off, ha, hcj k hlt⟩
        have hy : ∃ b off, a6 = some ⟨b, off, none⟩ ∧ w6.cell? ⟨b, off + k, none⟩ = some (.int .i32 ((ints (fixes l))[k]'hki)) := by
          rcases unhide HC6 with h | ⟨b, off, ha, hb, hcj⟩
          · have := congrArg List.length h; simp [ints, fixes] at this; rw [this] at hlt; simp at hlt
          · exact ⟨b, off, ha, hcj k hki⟩
        rw [unhide HFX k hlt hki] at hy
        obtain ⟨b, off, rfl, hcx⟩ := hx
        obtain ⟨b', off', rfl, hcy⟩ := hy
        have HI := is_any l[k] w6
        have hkk : (k : Int) < (l.length : Int) := by omega
        by_cases hi : isL l[k] = true
        · have hfx : fix l[k] = l[k] := by unfold fix; rw [if_pos hi]
          have hne : (fix l[k] != l[k]) = false := by simp [hfx]
          clear hi hfx HI
          generalize fix l[k] = m at hcy hne
          generalize l[k] = n at hcx hne
          go_wp2
          exact ⟨⟨k + 1, by go_num, by omega⟩, by simp [intOf]; omega⟩
        · have hfx : fix l[k] = 65533 := by unfold fix; rw [if_neg hi]
          have hne : ((65533 : Int) != l[k]) = true := by
            simp only [bne_iff_ne, ne_eq]
            intro e
            apply hi
            rw [← e]
            decide
          have hi' : isL l[k] = false := by simpa using hi
          rw [hi'] at HI
          rw [hfx] at hcy
          have HI := hide HI
          clear hi hi' hfx
          generalize l[k] = n at hcx hne HI
          go_wp2_with fail
          refine (unhide HI).mono ?_
          rintro e w7 ⟨rfl, rfl⟩
          go_wp2
          exact ⟨⟨k + 1, by go_num, by omega⟩, by simp [intOf]; omega⟩
      · go_wp2
        go_ret
        exact ⟨rfl, unhide HB6⟩
  · have hq : (((encR c l).2 : Int) == 0) = false := by simp; omega
    clear hok
    generalize bts (encR c l).1 = t
    generalize (encR c l).2 = en at hq
    go_wp2_with fail
    refine (unhide HU _ (unhide HV2)).mono ?_
    rintro e w5 ⟨rfl, b5⟩
    have HT5 := hide ((unhide HT2).below b5)
    have HV5 := hide ((unhide HV2).below b5)
    have HB5 := hide (belows' (unhide HB2) b5)
    clear HT2 HV2 HB2 b5 HU
    go_wp2_with fail
    refine (unhide HLT _ (unhide HT5)).mono ?_
    rintro e w6 ⟨v6, rfl, hown6, b6⟩
    have hrow6 := own_rowI hown6 (unhide HISF)
    obtain ⟨a6, cap6, rfl, _, hc6⟩ := hrow6
    obtain ⟨a7, cap7, hv7, _, hc7⟩ := (unhide HV5).below b6
    simp only [Value.slice.injEq, true_and] at hv7
    obtain ⟨rfl, rfl⟩ := hv7
    have HC6 := hide hc6
    have HC7 := hide hc7
    have HB6 := hide (belows' (unhide HB5) b6)
    clear hown6 hc6 hc7 HT5 HV5 HB5 HLT b6
    rw [hfl]
    go_wp2
    go_loop [10, 11, 46] (fun x y z => ∃ k : Nat, z = .int .i64 k ∧ k ≤ l.length) (fun _ _ z => l.length - (intOf z).toNat)
    case atStart => exact ⟨0, rfl, Nat.zero_le _⟩
    case round =>
      obtain ⟨k, rfl, hk⟩ := hrel
      by_cases hlt : k < l.length
      · have hki : k < (ints (fixes l)).length := by simp [ints, fixes]; exact hlt
        have hx : ∃ b off, a = some ⟨b, off, none⟩ ∧ w6.cell? ⟨b, off + k, none⟩ = some (.int .i32 l[k]) := by
          rcases unhide HC7 with h | ⟨b, off, ha, hb, hcj⟩
          · rw [h] at hlt; simp at hlt
          · exact ⟨b, off, ha, hcj k hlt⟩
        have hy : ∃ b off, a6 = some ⟨b, off, none⟩ ∧ w6.cell? ⟨b, off + k, none⟩ = some (.int .i32 ((ints (fixes l))[k]'hki)) := by
          rcases unhide HC6 with h | ⟨b, off, ha, hb, hcj⟩
          · have := congrArg List.length h; simp [ints, fixes] at this; rw [this] at hlt; simp at hlt
          · exact ⟨b, off, ha, hcj k hki⟩
        rw [unhide HFX k hlt hki] at hy
        obtain ⟨b, off, rfl, hcx⟩ := hx
        obtain ⟨b', off', rfl, hcy⟩ := hy
        have HI := is_any l[k] w6
        have hkk : (k : Int) < (l.length : Int) := by omega
        by_cases hi : isL l[k] = true
        · have hfx : fix l[k] = l[k] := by unfold fix; rw [if_pos hi]
          have hne : (fix l[k] != l[k]) = false := by simp [hfx]
          clear hi hfx HI
          generalize fix l[k] = m at hcy hne
          generalize l[k] = n at hcx hne
          go_wp2
          exact ⟨⟨k + 1, by go_num, by omega⟩, by simp [intOf]; omega⟩
        · have hfx : fix l[k] = 65533 := by unfold fix; rw [if_neg hi]
          have hne : ((65533 : Int) != l[k]) = true := by
            simp only [bne_iff_ne, ne_eq]
            intro e
            apply hi
            rw [← e]
            decide
          have hi' : isL l[k] = false := by simpa using hi
          rw [hi'] at HI
          rw [hfx] at hcy
          have HI := hide HI
          clear hi hi' hfx
          generalize l[k] = n at hcx hne HI
          go_wp2_with fail
          refine (unhide HI).mono ?_
          rintro e w7 ⟨rfl, rfl⟩
          go_wp2
          exact ⟨⟨k + 1, by go_num, by omega⟩, by simp [intOf]; omega⟩
      · go_wp2
        go_ret
        exact ⟨rfl, unhide HB6⟩
end Go.Proofs.YtoofggofpdlccabDoor
