/-
  What enc.isItself and enc.Quoted do, over this seat's program: bytes quoted-printable, and no older memory turns.
-/
import Derived.Test.YtoofggofpdlccabDoorStr
import Derived.Test.YtoofggofpdlccabDoorEnc
import Derived.BigCall
import Derived.Deep.Cut
import Derived.Laws.BitsAllLaws
set_option linter.unusedVariables false
namespace Go.Proofs.YtoofggofpdlccabDoor
open Go.RowKit Go.Proofs.Enc

theorem ret_bool {a b : Bool} (h : a = b) : Ending.returned (.bool a) = .returned (.bool b) := by rw [h]
theorem bne10 (x : Nat) : ((x : Int) != 10) = (x != 10) := by
  rw [Bool.eq_iff_iff]; simp; omega

/-- The 16 digits. -/
def hexB : ByteArray := ⟨#[48, 49, 50, 51, 52, 53, 54, 55, 56, 57, 65, 66, 67, 68, 69, 70]⟩
theorem hexB_size : hexB.size = 16 := rfl
theorem hexB_fin : ∀ n : Fin 16, hexB.data.toList.getD n.val 0 = hx n.val := by decide +kernel
theorem hexB_at (m : Nat) (hm : m < 16) (i : Nat) (hi : i < hexB.size) (h : i = m) : ((hexB[i]'hi).toNat : Int) = ((hx m).toNat : Int) := by
  subst h
  rw [← getD_byte hexB i hi, hexB_fin ⟨i, hm⟩]

set_option maxHeartbeats 1000000 in
set_option maxRecDepth 100000 in
theorem isItself_any (s : ByteArray) (k : Nat) (w : World) (hs : s.size ≤ 1099511627776) (hk : k < s.size) :
    Calls Tryd.prog 49 #[.string s, .int .i64 k] w fun e w' => e = .returned (.bool (itself s[k] (s.data.toList.drop (k + 1)))) ∧ w' = w := by
  have hc := s[k].toNat_lt
  by_cases h32 : s[k].toNat = 32
  · have hb : ((s[k].toNat : Int) == 32) = true := by simp [h32]
    by_cases hn : k + 1 < s.size
    · have hn' : (k : Int) + 1 < (s.size : Int) := by omega
      have hd := drop_byte s (k + 1) hn
      have hfin : itself s[k] (s.data.toList.drop (k + 1)) = (s[k + 1].toNat != 10) := by rw [hd]; simp [itself, h32]
      have HF := hide hfin
      clear hfin hd h32
      go_enter Tryd.func49, Tryd.ntmps49
      go_wp2
      go_ret
      exact ⟨ret_bool (by rw [unhide HF, bne10]), rfl⟩
    · have hn' : ¬ (k : Int) + 1 < (s.size : Int) := by omega
      have hfin : itself s[k] (s.data.toList.drop (k + 1)) = false := by rw [drop_end s (by omega)]; simp [itself, h32]
      have HF := hide hfin
      clear hfin h32
      go_enter Tryd.func49, Tryd.ntmps49
      go_wp2
      go_ret
      exact ⟨ret_bool (by rw [unhide HF]), rfl⟩
  · have hb : ((s[k].toNat : Int) == 32) = false := by simp; omega
    by_cases h10 : s[k].toNat = 10
    · have hb1 : ((s[k].toNat : Int) == 10) = true := by simp [h10]
      have hfin : itself s[k] (s.data.toList.drop (k + 1)) = true := by unfold itself; rw [if_neg h32, if_pos h10]
      have HF := hide hfin
      clear hfin h32 h10
      go_enter Tryd.func49, Tryd.ntmps49
      go_wp2
      go_ret
      exact ⟨by rw [unhide HF]; rfl, rfl⟩
    · have hb1 : ((s[k].toNat : Int) == 10) = false := by simp; omega
      have hfin : itself s[k] (s.data.toList.drop (k + 1)) = decide (32 < s[k].toNat ∧ s[k].toNat ≤ 126 ∧ s[k].toNat ≠ 61) := by unfold itself; rw [if_neg h32, if_neg h10]
      have HF := hide hfin
      clear hfin h32 h10
      by_cases hlo : 32 < s[k].toNat
      · by_cases hhi : s[k].toNat ≤ 126
        · by_cases h61 : s[k].toNat = 61
          · have hb6 : ((s[k].toNat : Int) == 61) = true := by simp [h61]
            go_enter Tryd.func49, Tryd.ntmps49
            go_wp2
            go_ret
            exact ⟨by rw [unhide HF]; simp [h61], rfl⟩
          · have hb6 : ((s[k].toNat : Int) == 61) = false := by simp; omega
            go_enter Tryd.func49, Tryd.ntmps49
            go_wp2
            go_ret
            exact ⟨by rw [unhide HF]; simp [hlo, hhi, h61]; omega, rfl⟩
        · go_enter Tryd.func49, Tryd.ntmps49
          go_wp2
          go_ret
          exact ⟨by rw [unhide HF]; simp [hhi], rfl⟩
      · go_enter Tryd.func49, Tryd.ntmps49
        go_wp2
        go_ret
        exact ⟨by rw [unhide HF]; simp [hlo], rfl⟩

/-- What the frame of Quoted holds at its label, k bytes written. -/
def QuoJ (s : ByteArray) (w : World) (a' : Act) (w' : World) : Prop :=
  ∃ (k : Nat) (acc : List UInt8) (u5 u6 u7 u8 u9 u10 u11 u12 u13 u14 u15 u16 u17 u18 u19 u20 u21 u22 u23 u24 u25 u26 u27 u28 u29 u30 u31 u32 u33 u34 : Value), a' = { tmps := #[.string s, undef, .string ⟨#[]⟩, .pointer (some ⟨w.heap.size, 0, none⟩), .int .i64 k, u5, u6, u7, u8, u9, u10, u11, u12, u13, u14, u15, u16, u17, u18, u19, u20, u21, u22, u23, u24, u25, u26, u27, u28, u29, u30, u31, u32, u33, u34], defers := [] } ∧ k ≤ s.size ∧ acc.length ≤ 3 * k ∧ Hid (acc ++ quo (s.data.toList.drop k) = quo s.data.toList) ∧
    Lib.IsBuilderF 57 5 w.heap.size w.heap.size (Lib.byteCells acc) w' ∧ Below w.heap.size w w' ∧ w.heap.size + 1 ≤ w'.heap.size

set_option maxHeartbeats 1000000 in
set_option maxRecDepth 100000 in
/-- enc.Quoted answers the bytes quoted-printable. -/
theorem quoted_any (s : ByteArray) (w : World) (hs : s.size ≤ 1099511627776) :
    Calls Tryd.prog 24 #[.string s] w fun e w' => e = .returned (.string (bts (quo s.data.toList))) ∧ Below w.heap.size w w' := by
  go_enter Tryd.func24, Tryd.ntmps24
  go_wp2
  refine wp_scope_one 0 (QuoJ s w) (fun a' _ => s.size - (intOf (a'.tmps.getD 4 undef)).toNat) rfl ?_ ?_
  · intro hp
    go_wp2_with fail
    refine (grow_new _ w (by omega)).mono ?_
    rintro e w1 ⟨rfl, h1, b1, z1⟩
    go_wp2
    go_step3
    rename_i K hK
    exact hK _ _ (hp _ _ ⟨0, [], _, _, _, _, _, _, _, _, _, _, _, _, _, _, _, _, _, _, _, _, _, _, _, _, _, _, _, _, _, _, rfl, Nat.zero_le _, by simp, hide rfl, h1, b1, z1⟩)
  · rintro a' w' ⟨k, acc, u5, u6, u7, u8, u9, u10, u11, u12, u13, u14, u15, u16, u17, u18, u19, u20, u21, u22, u23, u24, u25, u26, u27, u28, u29, u30, u31, u32, u33, u34, rfl, hk, hacc, HE, hI, hbw, hz⟩
    by_cases hend : k = s.size
    · have hbe : ((k : Int) == (s.size : Int)) = true := by simp [hend]
      have hfin : acc = quo s.data.toList := by
        have := unhide HE
        rw [drop_end s (by omega)] at this
        simpa [quo] using this
      have HF := hide hfin
      clear hfin hend
      go_wp2_with fail
      refine (Tryd.Builder_String_any_k w.heap.size w.heap.size acc _ hI (by omega)).mono ?_
      rintro e w2 ⟨rfl, _, hb2, _⟩
      go_wp2
      simp only [Exit.jump]
      go_ret
      exact ⟨by rw [← unhide HF]; rfl, hbw.trans hb2⟩
    · have hlt : k < s.size := by omega
      have hbe : ((k : Int) == (s.size : Int)) = false := by simp; omega
      have hd := drop_byte s k hlt
      have hc := s[k].toNat_lt
      have HE2 : Hid (acc ++ (piece s[k] (s.data.toList.drop (k + 1)) ++ quo (s.data.toList.drop (k + 1))) = quo s.data.toList) := by
        have := unhide HE
        rw [hd, quo] at this
        exact this
      clear hend HE hd
      go_wp2_with fail
      refine (isItself_any s k _ hs hlt).mono ?_
      rintro e w1 ⟨rfl, rfl⟩
      by_cases hi : itself s[k] (s.data.toList.drop (k + 1)) = true
      · have hfin := unhide HE2
        rw [piece, if_pos hi, ← List.append_assoc] at hfin
        have HF := hide hfin
        clear hfin HE2
        go_wp2_with fail
        refine (writeByte_k w.heap.size w.heap.size (Lib.byteCells acc) _ _ hI (by rw [Lib.byteCells_length]; omega) (by omega)).mono ?_
        rintro e w3 ⟨rfl, h3, b3, k3⟩
        rw [byteCells_snoc acc s[k] _ rfl] at h3
        have hz3 := b3.size
        go_wp2
        go_step3
        refine ⟨rfl, ⟨k + 1, _, _, _, _, _, _, _, _, _, _, _, _, _, _, _, _, _, _, _, _, _, _, _, _, _, _, _, _, _, _, _, rfl, by omega, by simp; omega, HF, Or.inr h3, hbw.trans b3, by omega⟩, ?_⟩
        simp [intOf]
        omega
      · have hi' : itself s[k] (s.data.toList.drop (k + 1)) = false := by simpa using hi
        have hfin := unhide HE2
        rw [piece, if_neg hi, ← List.append_assoc] at hfin
        have HF := hide hfin
        clear hfin HE2 hi
        go_wp2_with fail
        refine (writeByte_k w.heap.size w.heap.size (Lib.byteCells acc) _ _ hI (by rw [Lib.byteCells_length]; omega) (by omega)).mono ?_
        rintro e w3 ⟨rfl, h3, b3, k3⟩
        rw [byteCells_snoc acc 61 61 rfl] at h3
        have hz3 := b3.size
        go_wp2_with fail
        refine (writeByte_k w.heap.size w.heap.size (Lib.byteCells (acc ++ [61])) _ _ (Or.inr h3) (by rw [Lib.byteCells_length]; simp; omega) (by omega)).mono ?_
        rintro e w4 ⟨rfl, h4, b4, k4⟩
        have h5 : Lib.BuilderAtF 57 5 w.heap.size w.heap.size (.pointer (some ⟨w.heap.size, 0, none⟩)) (Lib.byteCells (acc ++ [61] ++ [hx (s[k].toNat / 16)])) w4 := by
          rw [← byteCells_snoc _ (hx (s[k].toNat / 16)) _ rfl, ← hexB_at (s[k].toNat / 16) (by omega) _ (by rw [hexB_size]; omega) rfl]
          exact h4
        have hz4 := b4.size
        clear h4
        go_wp2_with fail
        refine (writeByte_k w.heap.size w.heap.size (Lib.byteCells (acc ++ [61] ++ [hx (s[k].toNat / 16)])) _ _ (Or.inr h5) (by rw [Lib.byteCells_length]; simp; omega) (by omega)).mono ?_
        rintro e w5 ⟨rfl, h6, b6, k6⟩
        have h7 : Lib.BuilderAtF 57 5 w.heap.size w.heap.size (.pointer (some ⟨w.heap.size, 0, none⟩)) (Lib.byteCells (acc ++ [61, hx (s[k].toNat / 16), hx (s[k].toNat % 16)])) w5 := by
          rw [show acc ++ [61, hx (s[k].toNat / 16), hx (s[k].toNat % 16)] = acc ++ [61] ++ [hx (s[k].toNat / 16)] ++ [hx (s[k].toNat % 16)] by simp, ← byteCells_snoc _ (hx (s[k].toNat % 16)) _ rfl, ← hexB_at (s[k].toNat % 16) (by omega) _ (by rw [hexB_size]; omega) rfl]
          exact h6
        have hz6 := b6.size
        clear h6
        go_wp2
        go_step3
        refine ⟨rfl, ⟨k + 1, _, _, _, _, _, _, _, _, _, _, _, _, _, _, _, _, _, _, _, _, _, _, _, _, _, _, _, _, _, _, _, rfl, by omega, by simp; omega, HF, Or.inr h7, ((hbw.trans b3).trans b4).trans b6, by omega⟩, ?_⟩
        simp [intOf]
        omega
end Go.Proofs.YtoofggofpdlccabDoor
