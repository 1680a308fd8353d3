/-
  What mime's small, smallOr, firstLine and readQuoted do, over this seat's program.
-/
import Derived.Test.YtedpimhhbajljaaGreatDoorMma
import Derived.Deep.RegionHeld3
set_option linter.unusedVariables false
set_option linter.unusedSimpArgs false
namespace Go.Proofs.YtedpimhhbajljaaGreatDoor
open Go.RowKit Go.Proofs.Hed

theorem smL_take {s : ByteArray} {k : Nat} (h : k < s.size) : smL (s.data.toList.take (k + 1)) = smL (s.data.toList.take k) ++ [smB s[k]] := by
  rw [take_byte s k h]
  simp [smL]

set_option maxHeartbeats 1000000 in
set_option maxRecDepth 100000 in
/-- A text in small letters. -/
theorem smallM_any (s : ByteArray) (w : World) (hs : s.size ≤ 1099511627776) :
    Calls Tryz.prog 14 #[.string s] w fun e w' => e = .returned (.string (bts (smL s.data.toList))) ∧ Below w.heap.size w w' := by
  have hsl := sizeL s
  go_enter Tryz.func14, Tryz.ntmps14
  go_wp2_with fail
  refine (grow_new _ w (by omega)).mono ?_
  rintro e w1 ⟨rfl, h1, b1, _⟩
  have HW1 : Hid (Wr w w1 (smL (s.data.toList.take 0))) := hide ⟨h1, b1⟩
  clear h1 b1
  go_wp2
  go_loopw [4, 5, 11] (fun x y z wr => ∃ k : Nat, z = .int .i64 k ∧ k ≤ s.size ∧ Hid (Wr w wr (smL (s.data.toList.take k)))) (fun _ _ z _ => s.size - (intOf z).toNat)
  case atStart => exact ⟨0, rfl, by omega, HW1⟩
  case round =>
    obtain ⟨k, rfl, hk, HR⟩ := hrel
    by_cases hlt : k < s.size
    · have hlt1 : (k : Int) < (s.size : Int) := by omega
      have hnx := smL_take hlt
      have hll : (smL (s.data.toList.take k)).length ≤ s.size := by simp [smL]; omega
      have HB := hide (fun (x : Int) (hx : x = ((smB s[k]).toNat : Int)) => wByte (unhide HR) (smB s[k]) x hx (by omega))
      rw [← hnx] at HB
      have hsm : smB s[k] = if 65 ≤ s[k].toNat ∧ s[k].toNat ≤ 90 then UInt8.ofNat (s[k].toNat + 32) else s[k] := rfl
      have hbl := s[k].toNat_lt
      clear hnx hll HR
      obtain ⟨x, hx⟩ : ∃ x, s[k].toNat = x := ⟨_, rfl⟩
      rw [hx] at hsm hbl
      by_cases a1 : 65 ≤ x ∧ x ≤ 90
      · rw [if_pos a1] at hsm
        have HV := hide (unhide HB ((x + 32 : Nat) : Int) (by rw [hsm]; simp [UInt8.toNat_ofNat']; omega))
        obtain ⟨a2, a3⟩ := a1
        have e1 : (x : Int) ≥ 65 := by omega
        have e2 : (x : Int) ≤ 90 := by omega
        have d1 : decide ((x : Int) ≥ 65) = true := decide_eq_true e1
        have d2 : decide ((x : Int) ≤ 90) = true := decide_eq_true e2
        have hw8 : IntKind.u8.wrap ((x : Int) + 32) = ((x + 32 : Nat) : Int) := by rw [IntKind.wrap_u8]; omega
        clear HB hsm
        go_wp2_with fail
        refine (unhide HV).mono ?_
        rintro e w2 ⟨rfl, hw2⟩
        have HW2 := hide hw2
        clear hw2
        go_wp2
        exact ⟨⟨k + 1, by go_num, by omega, HW2⟩, by simp [intOf]; omega⟩
      · rw [if_neg a1] at hsm
        have HV := hide (unhide HB (x : Int) (by rw [hsm, hx]))
        by_cases a2 : 65 ≤ x
        · have e1 : (x : Int) ≥ 65 := by omega
          have e2 : ¬ (x : Int) ≤ 90 := by omega
          have d1 : decide ((x : Int) ≥ 65) = true := decide_eq_true e1
          have d2 : decide ((x : Int) ≤ 90) = false := decide_eq_false e2
          clear HB hsm
          go_wp2_with fail
          refine (unhide HV).mono ?_
          rintro e w2 ⟨rfl, hw2⟩
          have HW2 := hide hw2
          clear hw2
          go_wp2
          exact ⟨⟨k + 1, by go_num, by omega, HW2⟩, by simp [intOf]; omega⟩
        · have e1 : ¬ (x : Int) ≥ 65 := by omega
          have d1 : decide ((x : Int) ≥ 65) = false := decide_eq_false e1
          clear HB hsm
          go_wp2_with fail
          refine (unhide HV).mono ?_
          rintro e w2 ⟨rfl, hw2⟩
          have HW2 := hide hw2
          clear hw2
          go_wp2
          exact ⟨⟨k + 1, by go_num, by omega, HW2⟩, by simp [intOf]; omega⟩
    · have hlt1 : ¬ (k : Int) < (s.size : Int) := by omega
      have htl : s.data.toList.take k = s.data.toList := List.take_of_length_le (by omega)
      rw [htl] at HR
      have HS := hide (Tryz.Builder_String_any_k w.heap.size w.heap.size (smL s.data.toList) wr (unhide HR).isb (unhide HR).bel.size)
      have HB := hide (unhide HR).bel
      clear htl HR
      go_wp2_with fail
      refine (unhide HS).mono ?_
      rintro e w2 ⟨rfl, _, b2, _⟩
      have B2 := hide ((unhide HB).trans b2)
      clear b2
      go_wp2
      go_ret
      exact ⟨rfl, unhide B2⟩

set_option maxHeartbeats 400000 in
theorem smallOr_any (p t : ByteArray) (c : Nat) (w : World) (hp : p.size ≤ 1099511627776) (ht : t.size ≤ 1099511627776) :
    Calls Tryz.prog 68 #[.string p, .string t, .int .i64 (c : Int)] w fun e w' => e = .returned (.string (bts (smL (if c = 0 then t else p).data.toList))) ∧ Below w.heap.size w w' := by
  have HS := hide (fun W => smallM_any (if c = 0 then t else p) W (by split <;> assumption))
  by_cases h : c = 0
  · subst h
    simp only [if_true] at HS ⊢
    go_enter Tryz.func68, Tryz.ntmps68
    go_wp2_with fail
    refine (unhide HS _).mono ?_
    rintro e w1 ⟨rfl, b1⟩
    go_wp2
    go_ret
    exact ⟨rfl, b1⟩
  · rw [if_neg h] at HS ⊢
    have h1 : ((c : Int) == 0) = false := by simp; omega
    have h2 : ¬ (c : Int) = 0 := by omega
    go_enter Tryz.func68, Tryz.ntmps68
    go_wp2_with fail
    refine (unhide HS _).mono ?_
    rintro e w1 ⟨rfl, b1⟩
    go_wp2
    go_ret
    exact ⟨rfl, b1⟩

set_option maxHeartbeats 1000000 in
theorem firstLineM_any (s : ByteArray) (w : World) (hs : s.size ≤ 281474976710656) :
    Calls Tryz.prog 104 #[.string s] w fun e w' => e = .returned (.tuple #[.string (bts (lineOf s.data.toList)), .int .i64 (lineN s.data.toList : Int)]) ∧ w' = w := by
  have hsl := sizeL s
  have HI := hide (Tryz.strings_IndexByte s 10 w)
  have hix := index_lf s.data.toList
  rw [show ((10 : Int).toNat.toUInt8) = (10 : UInt8) from rfl, hix] at HI
  unfold lineOf lineN
  cases hlf : lfAt s.data.toList with
  | none =>
    rw [hlf] at HI
    simp only at HI ⊢
    rw [bts_toList, hsl]
    clear hix hsl hlf
    go_enter Tryz.func104, Tryz.ntmps104
    go_wp2_with fail
    refine (unhide HI).mono ?_
    rintro e w1 ⟨rfl, rfl⟩
    go_wp2
    go_ret2
    exact ⟨rfl, rfl⟩
  | some i =>
    rw [hlf] at HI
    simp only at HI ⊢
    have hil := lfAt_lt hlf
    rw [hsl] at hil
    have HT := hide (fun W => Tryz.strings_TrimSuffix (s.extract 0 i) ⟨#[13]⟩ W (by rw [size_part s 0 i (by omega)]; omega))
    rw [toList_upto, show (⟨#[13]⟩ : ByteArray).data.toList = [13] from rfl, trimSuffix_cr] at HT
    have h0 : ¬ (i : Int) < 0 := by omega
    have h1 : (i : Int) ≤ (s.size : Int) := by omega
    clear hix hsl hlf
    go_enter Tryz.func104, Tryz.ntmps104
    go_wp2_with fail
    refine (unhide HI).mono ?_
    rintro e w1 ⟨rfl, rfl⟩
    go_wp2_with fail
    refine (unhide HT _).mono ?_
    rintro e w1 ⟨rfl, rfl⟩
    go_wp2
    go_ret2
    refine ⟨?_, rfl⟩
    show Ending.returned (.tuple #[.string (bts (noCr (s.data.toList.take i))), .int .i64 _]) = _
    go_num
end Go.Proofs.YtedpimhhbajljaaGreatDoor
