/-
  What missiveref09.q does, over this seat's program: bytes as a text of Q.
-/
import Derived.Test.YtdallfakfhajdaaGreatDoorWop
import Derived.Deep.QuietTactic
import Derived.BigQuiet
import Derived.WalkSmall
set_option linter.unusedVariables false
namespace Go.Proofs.YtdallfakfhajdaaGreatDoor
open Go.RowKit Go.Proofs.Enc

def hexC : ByteArray := ⟨#[48, 49, 50, 51, 52, 53, 54, 55, 56, 57, 65, 66, 67, 68, 69, 70]⟩
theorem hexC_size : hexC.size = 16 := rfl
theorem hexC_fin : ∀ n : Fin 16, hexC.data.toList.getD n.val 0 = hx n.val := by decide +kernel
theorem hexC_get (n : Nat) (h : n < 16) (h' : n < hexC.size) : hexC[n] = hx n := by
  rw [← getD_byte hexC n h']
  exact hexC_fin ⟨n, h⟩
theorem hexC_slice (m : Nat) (hm : m < 16) (w : World) : (Instr.slice 9 (.string hexC) (some (.int .u8 (m : Int))) (some (.int .u8 ((m : Int) + 1))) none).run Tryz.prog w = .ok (.string (bts [hx m])) w := by
  have h := run_slice_string (P := Tryz.prog) w 9 hexC .u8 .u8 m ((m : Int) + 1) Tryz.underlying9 (by omega) (by omega) (by rw [hexC_size]; omega)
  rw [show ((m : Int) + 1).toNat = m + 1 by omega, show (m : Int).toNat = m from rfl] at h
  have e : hexC.extract m (m + 1) = bts [hx m] := by
    apply ext_list
    rw [toList_part, toList_bts, drop_byte hexC m (by rw [hexC_size]; omega), hexC_get m hm]
    simp
  rw [e] at h
  exact h
theorem sliceC_one (s : ByteArray) (k : Nat) (h : k < s.size) (w : World) : (Instr.slice 9 (.string s) (some (.int .i64 (k : Int))) (some (.int .i64 ((k : Int) + 1))) none).run Tryz.prog w = .ok (.string (bts [s[k]])) w := by
  have h2 := slice_km s k 1 (by omega) w
  have e : s.extract k (k + 1) = bts [s[k]] := by
    apply ext_list
    rw [toList_part, toList_bts, drop_byte s k h]
    simp
  rw [e] at h2
  exact h2
theorem btsC (a b : List UInt8) : bts a ++ bts b = bts (a ++ b) := by
  apply ext_list
  rw [ByteArray.data_append, Array.toList_append, toList_bts, toList_bts, toList_bts]
theorem qL_step (c : UInt8) (r : List UInt8) : qL (c :: r) = qB c ++ qL r := by simp [qL]

set_option maxHeartbeats 4000000 in
set_option maxRecDepth 100000 in
/-- missiveref09.q answers the bytes as a text of Q. -/
theorem refQ_any (s : ByteArray) (w : World) (hs : s.size ≤ 4000000) :
    Calls Tryz.prog 45 #[.string s] w fun e w' => e = .returned (.string (bts (qL s.data.toList))) ∧ Below w.heap.size w w' := by
  go_enter Tryz.func45, Tryz.ntmps45
  go_wp2
  go_loopw [3, 4, 5] (fun x z y1 wr => ∃ (k : Nat) (acc : List UInt8), z = .int .i64 k ∧ k ≤ s.size ∧ x = .string (bts acc) ∧ acc.length ≤ 3 * k ∧ Hid (acc ++ qL (s.data.toList.drop k) = qL s.data.toList) ∧ Below w.heap.size w wr) (fun _ z _ _ => s.size - (intOf z).toNat)
  case atStart => exact ⟨0, [], rfl, by omega, rfl, by simp, hide rfl, Below.refl _ _⟩
  case round =>
    obtain ⟨k, acc, rfl, hk, rfl, hacc, HE, hbw⟩ := hrel
    by_cases hlt : k < s.size
    · have hd := drop_byte s k hlt
      have hc := s[k].toNat_lt
      have hfin := unhide HE
      rw [hd, qL_step, ← List.append_assoc] at hfin
      have hsz : (bts acc).size ≤ 12000000 := by rw [size_bts]; omega
      have hlt' : (k : Int) < (s.size : Int) := by omega
      by_cases hi : alB s[k] = true
      · rw [qB, if_pos hi] at hfin
        have hnx : bts (acc ++ [s[k]]) = bts acc ++ bts [s[k]] := (btsC _ _).symm
        have hl1 : (acc ++ [s[k]]).length ≤ 3 * (k + 1) := by simp; omega
        have HF := hide hfin
        have HN := hide hnx
        have HL := hide hl1
        have hsl := sliceC_one s k hlt
        have hs1 : (bts [s[k]]).size = 1 := by rw [size_bts]; rfl
        have hcase : (65 ≤ s[k].toNat ∧ s[k].toNat ≤ 90) ∨ (97 ≤ s[k].toNat ∧ s[k].toNat ≤ 122) ∨ (48 ≤ s[k].toNat ∧ s[k].toNat ≤ 57) := of_decide_eq_true hi
        clear hfin hnx hl1 hd hi HE
        generalize bts acc = o at hsz HN
        rcases hcase with ⟨g1, g2⟩ | ⟨g1, g2⟩ | ⟨g1, g2⟩
        · have e1 : (48 : Int) ≤ (s[k].toNat : Int) := by omega
          have e2 : ¬ (s[k].toNat : Int) ≤ 57 := by omega
          have e3 : (65 : Int) ≤ (s[k].toNat : Int) := by omega
          have e4 : (s[k].toNat : Int) ≤ 90 := by omega
          clear g1 g2
          generalize bts [s[k]] = t at hsl hs1 HN
          go_wp2
          exact ⟨⟨k + 1, _, by go_num, by omega, by rw [unhide HN], unhide HL, HF, hbw⟩, by simp [intOf]; omega⟩
        · have e1 : (48 : Int) ≤ (s[k].toNat : Int) := by omega
          have e2 : ¬ (s[k].toNat : Int) ≤ 57 := by omega
          have e3 : (65 : Int) ≤ (s[k].toNat : Int) := by omega
          have e4 : ¬ (s[k].toNat : Int) ≤ 90 := by omega
          have e5 : (97 : Int) ≤ (s[k].toNat : Int) := by omega
          have e6 : (s[k].toNat : Int) ≤ 122 := by omega
          clear g1 g2
          generalize bts [s[k]] = t at hsl hs1 HN
          go_wp2
          exact ⟨⟨k + 1, _, by go_num, by omega, by rw [unhide HN], unhide HL, HF, hbw⟩, by simp [intOf]; omega⟩
        · have e1 : (48 : Int) ≤ (s[k].toNat : Int) := by omega
          have e2 : (s[k].toNat : Int) ≤ 57 := by omega
          clear g1 g2
          generalize bts [s[k]] = t at hsl hs1 HN
          go_wp2
          exact ⟨⟨k + 1, _, by go_num, by omega, by rw [unhide HN], unhide HL, HF, hbw⟩, by simp [intOf]; omega⟩
      · have hnot : ¬ ((65 ≤ s[k].toNat ∧ s[k].toNat ≤ 90) ∨ (97 ≤ s[k].toNat ∧ s[k].toNat ≤ 122) ∨ (48 ≤ s[k].toNat ∧ s[k].toNat ≤ 57)) := fun h => hi (decide_eq_true h)
        by_cases h32 : s[k].toNat = 32
        · rw [qB, if_neg hi, if_pos h32] at hfin
          have hnx : bts (acc ++ [95]) = bts acc ++ ⟨#[95]⟩ := by rw [show ByteArray.mk #[95] = bts [95] from rfl, btsC]
          have hl1 : (acc ++ [95]).length ≤ 3 * (k + 1) := by simp; omega
          have HF := hide hfin
          have HN := hide hnx
          have HL := hide hl1
          have e1 : ¬ (48 : Int) ≤ (s[k].toNat : Int) := by omega
          have e2 : ¬ (65 : Int) ≤ (s[k].toNat : Int) := by omega
          have e3 : ¬ (97 : Int) ≤ (s[k].toNat : Int) := by omega
          have e4 : ((s[k].toNat : Int) == 32) = true := by simp [h32]
          clear hfin hnx hl1 hd hi HE hnot h32
          generalize bts acc = o at hsz HN
          go_wp2
          exact ⟨⟨k + 1, _, by go_num, by omega, by rw [unhide HN], unhide HL, HF, hbw⟩, by simp [intOf]; omega⟩
        · rw [qB, if_neg hi, if_neg h32] at hfin
          have hnx : bts (acc ++ [61, hx (s[k].toNat / 16), hx (s[k].toNat % 16)]) = bts acc ++ (ByteArray.mk #[61] ++ bts [hx (s[k].toNat / 16)] ++ bts [hx (s[k].toNat % 16)]) := by
            rw [show ByteArray.mk #[61] = bts [61] from rfl, btsC, btsC, btsC]
            rfl
          have hl1 : (acc ++ [61, hx (s[k].toNat / 16), hx (s[k].toNat % 16)]).length ≤ 3 * (k + 1) := by simp; omega
          have HF := hide hfin
          have HN := hide hnx
          have HL := hide hl1
          have hsl1 := hexC_slice (s[k].toNat / 16) (by omega)
          have hsl2 := hexC_slice (s[k].toNat % 16) (by omega)
          have hs1 : (bts [hx (s[k].toNat / 16)]).size = 1 := by rw [size_bts]; rfl
          have hs2 : (bts [hx (s[k].toNat % 16)]).size = 1 := by rw [size_bts]; rfl
          have hs3 : (ByteArray.mk #[61] ++ bts [hx (s[k].toNat / 16)]).size = 2 := by rw [ByteArray.size_append, hs1]; rfl
          have hs4 : (ByteArray.mk #[61] ++ bts [hx (s[k].toNat / 16)] ++ bts [hx (s[k].toNat % 16)]).size = 3 := by rw [ByteArray.size_append, hs3, hs2]
          rw [show ((s[k].toNat / 16 : Nat) : Int) = (s[k].toNat : Int) / 16 by omega] at hsl1
          rw [show ((s[k].toNat % 16 : Nat) : Int) = (s[k].toNat : Int) % 16 by omega] at hsl2
          unfold hexC at hsl1 hsl2
          have e4 : ((s[k].toNat : Int) == 32) = false := by simp; omega
          have hcase : s[k].toNat < 48 ∨ (57 < s[k].toNat ∧ s[k].toNat < 65) ∨ (90 < s[k].toNat ∧ s[k].toNat < 97) ∨ 122 < s[k].toNat := by omega
          clear hfin hnx hl1 hd hi HE hnot h32
          generalize bts acc = o at hsz HN
          generalize bts [hx (s[k].toNat / 16)] = t1 at hsl1 hs1 hs3 hs4 HN
          generalize bts [hx (s[k].toNat % 16)] = t2 at hsl2 hs2 hs4 HN
          rcases hcase with g1 | ⟨g1, g2⟩ | ⟨g1, g2⟩ | g1
          · have e1 : ¬ (48 : Int) ≤ (s[k].toNat : Int) := by omega
            have e2 : ¬ (65 : Int) ≤ (s[k].toNat : Int) := by omega
            have e3 : ¬ (97 : Int) ≤ (s[k].toNat : Int) := by omega
            clear g1
            go_wp2
            go_quiet (fail)
            go_wp2
            exact ⟨⟨k + 1, _, by go_num, by omega, by rw [unhide HN], unhide HL, HF, below_drewN hbw _⟩, by simp [intOf]; omega⟩
          · have e1 : (48 : Int) ≤ (s[k].toNat : Int) := by omega
            have e5 : ¬ (s[k].toNat : Int) ≤ 57 := by omega
            have e2 : ¬ (65 : Int) ≤ (s[k].toNat : Int) := by omega
            have e3 : ¬ (97 : Int) ≤ (s[k].toNat : Int) := by omega
            clear g1 g2
            go_wp2
            go_quiet (fail)
            go_wp2
            exact ⟨⟨k + 1, _, by go_num, by omega, by rw [unhide HN], unhide HL, HF, below_drewN hbw _⟩, by simp [intOf]; omega⟩
          · have e1 : (48 : Int) ≤ (s[k].toNat : Int) := by omega
            have e5 : ¬ (s[k].toNat : Int) ≤ 57 := by omega
            have e2 : (65 : Int) ≤ (s[k].toNat : Int) := by omega
            have e6 : ¬ (s[k].toNat : Int) ≤ 90 := by omega
            have e3 : ¬ (97 : Int) ≤ (s[k].toNat : Int) := by omega
            clear g1 g2
            go_wp2
            go_quiet (fail)
            go_wp2
            exact ⟨⟨k + 1, _, by go_num, by omega, by rw [unhide HN], unhide HL, HF, below_drewN hbw _⟩, by simp [intOf]; omega⟩
          · have e1 : (48 : Int) ≤ (s[k].toNat : Int) := by omega
            have e5 : ¬ (s[k].toNat : Int) ≤ 57 := by omega
            have e2 : (65 : Int) ≤ (s[k].toNat : Int) := by omega
            have e6 : ¬ (s[k].toNat : Int) ≤ 90 := by omega
            have e3 : (97 : Int) ≤ (s[k].toNat : Int) := by omega
            have e7 : ¬ (s[k].toNat : Int) ≤ 122 := by omega
            clear g1
            go_wp2
            go_quiet (fail)
            go_wp2
            exact ⟨⟨k + 1, _, by go_num, by omega, by rw [unhide HN], unhide HL, HF, below_drewN hbw _⟩, by simp [intOf]; omega⟩
    · have hlt' : ¬ (k : Int) < (s.size : Int) := by omega
      have hfin : acc = qL s.data.toList := by
        have := unhide HE
        rw [drop_end s (by omega)] at this
        simpa [qL] using this
      have HF := hide hfin
      have HB := hide hbw
      clear hfin hbw HE
      go_wp2
      go_ret
      exact ⟨by rw [← unhide HF]; rfl, unhide HB⟩
end Go.Proofs.YtdallfakfhajdaaGreatDoor
