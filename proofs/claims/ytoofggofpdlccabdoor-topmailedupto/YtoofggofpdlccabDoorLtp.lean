/-
  What missivetop.letters and missivetop.TopMailed do, over this seat's program.
-/
import Derived.Test.YtoofggofpdlccabDoorRtw
import Derived.Test.YtoofggofpdlccabDoorWbk
import Derived.Test.YtoofggofpdlccabDoorBgn
import Derived.Test.YtoofggofpdlccabDoorFrb
import Derived.Test.YtoofggofpdlccabDoorFqo
set_option linter.unusedVariables false
namespace Go.Proofs.YtoofggofpdlccabDoor
open Go.RowKit Go.Proofs.Rns Go.Proofs.Enc

set_option maxHeartbeats 1000000 in
set_option maxRecDepth 100000 in
/-- missivetop.letters tells whether the two lists of letters are one. -/
theorem letters_top (v v' : Value) (l r : List Int) (w : World) (h : RowI w v l) (h' : RowI w v' r) (hl : l.length ≤ 9223372036854775807) :
    Calls Tryd.prog 25 #[v, v'] w fun e w' => e = .returned (.bool (decide (l = r))) ∧ Below w.heap.size w w' := by
  obtain ⟨a, cap, rfl, hn, hc⟩ := h
  obtain ⟨a', cap', rfl, hn', hc'⟩ := h'
  have HC := hide hc
  have HC' := hide hc'
  clear hc hc' hn hn'
  by_cases hlr : l.length = r.length
  · have hbe : ((l.length : Int) != (r.length : Int)) = false := by simp [hlr]
    have HLR := hide hlr
    clear hlr
    go_enter Tryd.func25, Tryd.ntmps25
    go_wp2
    go_loopw [5, 13] (fun x z wr => ∃ k : Nat, z = .int .i64 k ∧ k ≤ l.length ∧ Hid (l.take k = r.take k) ∧ Below w.heap.size w wr) (fun _ z _ => l.length - (intOf z).toNat)
    case atStart => exact ⟨0, rfl, Nat.zero_le _, hide rfl, Below.refl _ _⟩
    case round =>
      obtain ⟨k, rfl, hk, HT, hbw⟩ := hrel
      by_cases hlt : k < l.length
      · have hlt' : k < r.length := by have := unhide HLR; omega
        have hx : ∃ b off, a = some ⟨b, off, none⟩ ∧ wr.cell? ⟨b, off + k, none⟩ = some (.int .i32 l[k]) := by
          rcases unhide HC with h | ⟨b, off, ha, hb, hcj⟩
          · subst h; simp at hlt
          · exact ⟨b, off, ha, (hbw.cell (p := ⟨b, off + k, none⟩) hb).trans (hcj k hlt)⟩
        have hy : ∃ b off, a' = some ⟨b, off, none⟩ ∧ wr.cell? ⟨b, off + k, none⟩ = some (.int .i32 r[k]) := by
          rcases unhide HC' with h | ⟨b, off, ha, hb, hcj⟩
          · subst h; simp at hlt'
          · exact ⟨b, off, ha, (hbw.cell (p := ⟨b, off + k, none⟩) hb).trans (hcj k hlt')⟩
        obtain ⟨b, off, rfl, hcx⟩ := hx
        obtain ⟨b', off', rfl, hcy⟩ := hy
        have hlt1 : (k : Int) < (l.length : Int) := by omega
        have hlt2 : (k : Int) < (r.length : Int) := by omega
        by_cases he : l[k] = r[k]
        · have hbq : (l[k] != r[k]) = false := by simp [he]
          have HN := hide ((takeI_next hlt hlt').2 ⟨unhide HT, he⟩)
          clear he HT
          generalize l[k] = x at hcx hbq
          generalize r[k] = y at hcy hbq
          go_wp2
          go_quiet (fail)
          go_wp2
          exact ⟨⟨k + 1, by go_num, by omega, HN, (by first | exact hbw | exact ⟨hbw.os, hbw.tape, hbw.output, hbw.size, hbw.block⟩)⟩, by simp [intOf]; omega⟩
        · have hbq : (l[k] != r[k]) = true := by simp [he]
          have hfin : decide (l = r) = false := by
            rw [decide_eq_false_iff_not]
            intro h
            subst h
            exact he rfl
          have HF := hide hfin
          clear hfin he
          generalize l[k] = x at hcx hbq
          generalize r[k] = y at hcy hbq
          go_wp2
          go_quiet (fail)
          go_wp2
          go_ret
          exact ⟨by rw [unhide HF]; rfl, (by first | exact hbw | exact ⟨hbw.os, hbw.tape, hbw.output, hbw.size, hbw.block⟩)⟩
      · have hfin : decide (l = r) = true := by
          rw [decide_eq_true_iff]
          have h1 := unhide HT
          have h2 := unhide HLR
          rw [List.take_of_length_le (by omega), List.take_of_length_le (by omega)] at h1
          exact h1
        have HF := hide hfin
        clear hfin
        go_wp2
        go_ret
        exact ⟨by rw [unhide HF]; rfl, hbw⟩
  · have hbe : ((l.length : Int) != (r.length : Int)) = true := by simp; omega
    have hfin : decide (l = r) = false := by
      rw [decide_eq_false_iff_not]
      intro h
      exact hlr (by rw [h])
    have HF := hide hfin
    clear hfin hlr
    go_enter Tryd.func25, Tryd.ntmps25
    go_wp2
    go_ret
    exact ⟨by rw [unhide HF]; rfl, Below.refl _ _⟩


theorem encR_bad {c : Nat} {l : List Int} (h : (encR c l).2 ≠ 0) : (encR c l).1 = [] := by
  unfold encR at h ⊢
  split at h
  · rename_i hc
    rw [if_pos hc]
    cases he : encL c l with
    | none => rfl
    | some s => rw [he] at h; simp at h
  · rename_i hc
    rw [if_neg hc]

set_option maxHeartbeats 2000000 in
set_option maxRecDepth 100000 in
theorem mailed_any (c : Nat) (v : Value) (l : List Int) (q : Bool) (w : World) (ht : RTab w) (hv : RowI w v l) (h256 : c < 256) (hl : l.length ≤ 1048576) :
    Calls Tryd.prog 8 #[.int .u8 c, v, .bool q] w fun e w' => e = .returned (.bool true) ∧ Below w.heap.size w w' := by
  have HT := hide ht
  have HV := hide hv
  obtain ⟨a, cap, rfl, hrange, _⟩ := hv
  have E := fun W (hW : RTab W) (hR : RowI W (.slice a l.length cap) l) => encode_any c (.slice a l.length cap) l W hW hR h256 (by omega)
  have HEN := hide E
  clear ht hrange E
  go_enter Tryd.func8, Tryd.ntmps8
  go_wp2_with fail
  refine (begins_any _).mono ?_
  rintro e w1 ⟨rfl, b1⟩
  have HT1 := hide ((unhide HT).below b1)
  have HV1 := hide ((unhide HV).below b1)
  go_wp2_with fail
  refine (unhide HEN _ (unhide HT1) (unhide HV1)).mono ?_
  rintro e w2 ⟨rfl, b2⟩
  have HT2 := hide ((unhide HT1).below b2)
  have HV2 := hide ((unhide HV1).below b2)
  have HB2 := hide (belows' b1 b2)
  clear HEN HT HV HT1 HV1 b1 b2
  by_cases hok : (encR c l).2 = 0
  · obtain ⟨hc, hback, hblen⟩ := back_of hok
    have hq0 : (((encR c l).2 : Int) != 0) = false := by simp [hok]
    have z1 : (bts (b64 (encR c l).1)).size ≤ 1099511627776 := by rw [size_bts, b64_length]; omega
    have z2 : (bts (quo (encR c l).1)).size ≤ 1099511627776 := by rw [size_bts]; have := quo_len (encR c l).1; omega
    have B := fun W => base64_any (bts (encR c l).1) W (by rw [size_bts]; omega)
    have Q := fun W => quoted_any (bts (encR c l).1) W (by rw [size_bts]; omega)
    have F := fun W => from64_any (bts (b64 (encR c l).1)) W z1
    have G := fun W => fromQuoted_any (bts (quo (encR c l).1)) W z2
    have D := fun W (hW : RTab W) => decode_ok c (bts (encR c l).1) W hW hc (by rw [size_bts]; omega)
    rw [toList_bts] at B Q F G D
    rw [from_b64] at F
    rw [fq_quo] at G
    have HB := hide B
    have HQ := hide Q
    have HF := hide F
    have HG := hide G
    have HD := hide D
    have HDI := hide (decL_is c hc.2 (encR c l).1)
    have HBK := hide hback
    clear B Q F G D z1 z2 hback hblen hok hc
    generalize bts (b64 (encR c l).1) = x at HB HF
    generalize bts (quo (encR c l).1) = y at HQ HG
    generalize decL c (encR c l).1 = dl at HD HDI HBK
    generalize bts (encR c l).1 = t at HB HQ HF HG HD
    generalize (encR c l).2 = en at hq0
    go_wp2_with fail
    refine (unhide HB _).mono ?_
    rintro e w3 ⟨rfl, b3⟩
    go_wp2_with fail
    refine (unhide HF _).mono ?_
    rintro e w4 ⟨rfl, b4⟩
    have b34 := belows' b3 b4
    have HT4 := hide ((unhide HT2).below b34)
    have HV4 := hide ((unhide HV2).below b34)
    have HB4 := hide (belows' (unhide HB2) b34)
    clear HT2 HV2 HB2 b3 b4 b34 HB HF
    cases q with
    | false =>
      go_wp2_with fail
      refine (unhide HD _ (unhide HT4)).mono ?_
      rintro e w7 ⟨v7, rfl, hown, b7⟩
      have hrow := own_rowI hown (unhide HDI)
      rw [unhide HBK] at hrow
      have HR7 := hide hrow
      have HV7 := hide ((unhide HV4).below b7)
      have HB7 := hide (belows' (unhide HB4) b7)
      clear hown hrow HD HDI HBK HT4 HV4 HB4 b7
      go_wp2_with fail
      refine (letters_top v7 _ l l _ (unhide HR7) (unhide HV7) (by omega)).mono ?_
      rintro e w8 ⟨rfl, b8⟩
      rw [decide_eq_true rfl]
      have HB8 := hide (belows' (unhide HB7) b8)
      clear HB7 b8 HR7 HV7
      go_wp2
      go_ret
      exact ⟨rfl, unhide HB8⟩
    | true =>
      go_wp2_with fail
      refine (unhide HQ _).mono ?_
      rintro e w5 ⟨rfl, b5⟩
      go_wp2_with fail
      refine (unhide HG _).mono ?_
      rintro e w6 ⟨rfl, b6⟩
      have b56 := belows' b5 b6
      have HT6 := hide ((unhide HT4).below b56)
      have HV6 := hide ((unhide HV4).below b56)
      have HB6 := hide (belows' (unhide HB4) b56)
      clear HT4 HV4 HB4 b5 b6 b56 HQ HG
      go_wp2_with fail
      refine (unhide HD _ (unhide HT6)).mono ?_
      rintro e w7 ⟨v7, rfl, hown, b7⟩
      have hrow := own_rowI hown (unhide HDI)
      rw [unhide HBK] at hrow
      have HR7 := hide hrow
      have HV7 := hide ((unhide HV6).below b7)
      have HB7 := hide (belows' (unhide HB6) b7)
      clear hown hrow HD HDI HBK HT6 HV6 HB6 b7
      go_wp2_with fail
      refine (letters_top v7 _ l l _ (unhide HR7) (unhide HV7) (by omega)).mono ?_
      rintro e w8 ⟨rfl, b8⟩
      rw [decide_eq_true rfl]
      have HB8 := hide (belows' (unhide HB7) b8)
      clear HB7 b8 HR7 HV7
      go_wp2
      go_ret
      exact ⟨rfl, unhide HB8⟩
  · have hq0 : (((encR c l).2 : Int) != 0) = true := by simp; omega
    rw [encR_bad hok]
    have hem : bts [] = ⟨#[]⟩ := rfl
    rw [hem]
    clear hok hem
    generalize (encR c l).2 = en at hq0
    go_wp2
    go_ret
    exact ⟨rfl, unhide HB2⟩
end Go.Proofs.YtoofggofpdlccabDoor
