/-
  What missiveref05.find and missiveref05.Base64 do, over this seat's program: a letter's number; bytes in base64.
-/
import Derived.Test.YtdallfakfhajdaaGreatDoorWlt
set_option linter.unusedVariables false
namespace Go.Proofs.YtdallfakfhajdaaGreatDoor
open Go.RowKit Go.Proofs.Enc

theorem let_num_fin : ∀ c : Fin 256, num64 (UInt8.ofNat c.val) < 64 → let64 (num64 (UInt8.ofNat c.val)) = UInt8.ofNat c.val := by decide +kernel
theorem let_num (c : UInt8) (h : num64 c < 64) : let64 (num64 c) = c := by
  have := let_num_fin ⟨c.toNat, c.toNat_lt⟩
  simp only [UInt8.ofNat_toNat] at this
  exact this h

/-- What find tells: the letter's number, or -1. -/
def findI (c : UInt8) : Int := if num64 c < 64 then (num64 c : Int) else -1

set_option maxHeartbeats 1000000 in
set_option maxRecDepth 100000 in
theorem refFind_any (c : UInt8) (w : World) :
    Calls Tryz.prog 117 #[.int .u8 c.toNat] w fun e w' => e = .returned (.int .i64 (findI c)) ∧ w' = w := by
  go_enter Tryz.func117, Tryz.ntmps117
  go_wp2
  go_loop [3] (fun z => ∃ k : Nat, z = .int .i64 k ∧ k ≤ 64 ∧ Hid (∀ j, j < k → let64 j ≠ c)) (fun z => 64 - (intOf z).toNat)
  case atStart => exact ⟨0, rfl, by omega, hide (by intro j hj; omega)⟩
  case round =>
    obtain ⟨k, rfl, hk, HA⟩ := hrel
    by_cases hlt : k < 64
    · have hB : k < letB.size := by rw [letB_size]; exact hlt
      have hx := letB_get k hlt hB
      by_cases he : let64 k = c
      · have hb : (((letB[k]'hB).toNat : Int) == (c.toNat : Int)) = true := by rw [hx, he]; simp
        have hfin : findI c = k := by rw [← he, findI, num_let hlt, if_pos hlt]
        have HF := hide hfin
        clear hfin hx he
        unfold letB at hb
        dsimp only at hb
        go_wp2
        go_ret
        exact ⟨by rw [unhide HF]; rfl, rfl⟩
      · have hb : (((letB[k]'hB).toNat : Int) == (c.toNat : Int)) = false := by
          rw [hx, beq_eq_false_iff_ne]
          intro e
          exact he (UInt8.toNat_inj.1 (by omega))
        have hnx : ∀ j, j < k + 1 → let64 j ≠ c := by
          intro j hj
          by_cases h : j = k
          · subst h; exact he
          · exact unhide HA j (by omega)
        have HN := hide hnx
        clear hnx hx he
        unfold letB at hb
        dsimp only at hb
        go_wp2
        exact ⟨⟨k + 1, by go_num, by omega, HN⟩, by simp [intOf]; omega⟩
    · have hfin : findI c = -1 := by
        unfold findI
        rw [if_neg]
        intro h
        exact unhide HA (num64 c) (by omega) (let_num c h)
      have HF := hide hfin
      clear hfin
      go_wp2
      go_ret
      exact ⟨by rw [unhide HF]; rfl, rfl⟩

theorem bts_append (a b : List UInt8) : bts a ++ bts b = bts (a ++ b) := by
  apply ext_list
  rw [ByteArray.data_append, Array.toList_append, toList_bts, toList_bts, toList_bts]

theorem letB_slice (m : Nat) (hm : m < 64) (w : World) : (Instr.slice 9 (.string letB) (some (.int .i64 (m : Int))) (some (.int .i64 ((m : Int) + 1))) none).run Tryz.prog w = .ok (.string (bts [let64 m])) w := by
  have h := slice_km letB m 1 (by rw [letB_size]; omega) w
  have e : letB.extract m (m + 1) = bts [let64 m] := by
    apply ext_list
    rw [toList_part, toList_bts, drop_byte letB m (by rw [letB_size]; omega), letB_get m hm]
    simp
  rw [e] at h
  exact h

theorem tmod64 (x p : Nat) : ((x : Int) / 2 ^ p).tmod 64 = ((x / 2 ^ p % 64 : Nat) : Int) := by
  rw [show ((x : Int) / 2 ^ p) = ((x / 2 ^ p : Nat) : Int) by simp]
  generalize x / 2 ^ p = q
  rw [Int.tmod_eq_emod_of_nonneg (by omega)]
  omega

theorem byteAt_in (s : ByteArray) (k j : Nat) (hj : j < 3) (h : k + j < s.size) : byteAt ((s.data.toList.drop k).take 3) j = (s[k + j]).toNat := by
  unfold byteAt
  rw [List.getD_eq_getElem?_getD, List.getElem?_take, if_pos hj, List.getElem?_drop, List.getElem?_eq_getElem (by rw [sizeL]; exact h)]
  rfl
theorem byteAt_out (s : ByteArray) (k j : Nat) (h : s.size ≤ k + j) : byteAt ((s.data.toList.drop k).take 3) j = 0 := by
  unfold byteAt
  rw [List.getD_eq_getElem?_getD, List.getElem?_eq_none (by rw [List.length_take, List.length_drop, sizeL]; omega)]
  rfl

set_option maxHeartbeats 2000000 in
set_option maxRecDepth 100000 in
/-- missiveref05.Base64 answers the bytes in base64. -/
theorem refBase64_any (s : ByteArray) (w : World) (hs : s.size ≤ 4000000) :
    Calls Tryz.prog 44 #[.string s] w fun e w' => e = .returned (.string (bts (b64 s.data.toList))) ∧ w' = w := by
  have hsl := sizeL s
  go_enter Tryz.func44, Tryz.ntmps44
  go_wp2
  go_loop [3, 4] (fun x z => ∃ k : Nat, z = .int .i64 k ∧ k % 3 = 0 ∧ k ≤ s.size + 2 ∧ x = .string (bts (b64 (s.data.toList.take k)))) (fun _ z => s.size + 3 - (intOf z).toNat)
  case atStart => exact ⟨0, rfl, rfl, by omega, rfl⟩
  case round =>
    obtain ⟨k, rfl, hk3, hk, rfl⟩ := hrel
    by_cases hlt : k < s.size
    · have hcl : ((s.data.toList.drop k).take 3).length = min 3 (s.size - k) := by rw [List.length_take, List.length_drop, sizeL]
      have hnext : b64 (s.data.toList.take (k + 3)) = b64 (s.data.toList.take k) ++ quad ((s.data.toList.drop k).take 3) := by
        rw [List.take_add, b64_parts _ _ (by rw [List.length_take, sizeL]; omega)]
        congr 1
        exact b64_quad (by rw [List.length_take]; omega)
      have hbl := b64_length (s.data.toList.take k)
      rw [List.length_take, sizeL] at hbl
      have HNX := hide hnext
      have HIN := hide (byteAt_in s k)
      have HOUT := hide (byteAt_out s k)
      have HQ := hide (fun i (hi : i < 4) => quad_next (l := (s.data.toList.drop k).take 3) (i := i) (by omega) (by omega) hi)
      have HL := hide (quad_length (l := (s.data.toList.drop k).take 3) (by omega) (by omega))
      have hsz : (b64 (s.data.toList.take k)).length ≤ 6000000 := by omega
      rw [hcl] at HQ
      have HCL := hide hcl
      clear hnext hbl hsl hcl
      generalize (s.data.toList.drop k).take 3 = c at HNX HIN HOUT HQ HL HCL
      generalize b64 (s.data.toList.take k) = o at HNX hsz
      go_wp2
      go_loop [5, 6, 7] (fun n m z => ∃ j : Nat, z = .int .i64 j ∧ j ≤ 3 ∧ n = .int .i64 (valK c j) ∧ m = .int .i64 (min j (s.size - k) : Nat)) (fun _ _ z => 3 - (intOf z).toNat)
      case atStart => exact ⟨0, rfl, by omega, rfl, by simp⟩
      case round =>
        obtain ⟨j, rfl, hj, rfl, rfl⟩ := hrel
        by_cases hj3 : j < 3
        · have hv : valK c j < 65536 := by
            have := valK_lt c j
            have : 256 ^ j ≤ 256 ^ 2 := Nat.pow_le_pow_right (by decide) (by omega)
            omega
          have HV := hide (show valK c (j + 1) = valK c j * 256 + byteAt c j from rfl)
          by_cases hin : k + j < s.size
          · have HB := hide (unhide HIN j hj3 hin)
            have hc := (s[k + j]).toNat_lt
            have hin' : (k : Int) + (j : Int) < (s.size : Int) := by omega
            have hmin : min j (s.size - k) = j := by omega
            have hmin2 : min (j + 1) (s.size - k) = j + 1 := by omega
            have HM2 := hide hmin2
            rw [hmin]
            clear hmin hmin2
            generalize valK c j = x at hv HV
            go_wp2
            exact ⟨⟨j + 1, by go_num, by omega, by rw [unhide HV, unhide HB]; go_num, by rw [unhide HM2]; go_num⟩, by simp [intOf]; omega⟩
          · have HB := hide (unhide HOUT j (by omega))
            have hin' : ¬ (k : Int) + (j : Int) < (s.size : Int) := by omega
            have hmin2 : min (j + 1) (s.size - k) = min j (s.size - k) := by omega
            have HM2 := hide hmin2
            clear hmin2
            generalize valK c j = x at hv HV
            go_wp2
            exact ⟨⟨j + 1, by go_num, by omega, by rw [unhide HV, unhide HB]; go_num, by rw [unhide HM2]⟩, by simp [intOf]; omega⟩
        · have hj3' : j = 3 := by omega
          subst hj3'
          have hx := valK3_lt c
          generalize valK c 3 = x at hx HQ
          obtain ⟨m, hm⟩ : ∃ m, min 3 (s.size - k) = m := ⟨_, rfl⟩
          rw [hm] at HQ ⊢
          have hm1 : 1 ≤ m := by omega
          have hm3 : m ≤ 3 := by omega
          clear hm
          go_wp2
          go_loop [3, 8, 9] (fun v z y => ∃ j : Nat, z = .int .i64 j ∧ j ≤ 4 ∧ v = .string (bts (o ++ (quad c).take j))) (fun _ z _ => 4 - (intOf z).toNat)
          case atStart => exact ⟨0, rfl, by omega, by simp⟩
          case round =>
            obtain ⟨j, rfl, hj, rfl⟩ := hrel
            by_cases hj4 : j < 4
            · have hq := unhide HQ j hj4
              have hsz2 : (bts (o ++ (quad c).take j)).size ≤ 7000000 := by rw [size_bts, List.length_append, List.length_take]; omega
              have hnx : bts (o ++ (quad c).take (j + 1)) = bts (o ++ (quad c).take j) ++ bts [if m < j then 61 else let64 (x / 2 ^ (18 - 6 * j) % 64)] := by
                rw [bts_append, hq, List.append_assoc]
              have HN := hide hnx
              clear hq hnx
              generalize bts (o ++ (quad c).take j) = p at hsz2 HN
              by_cases hgt : m < j
              · rw [if_pos hgt] at HN
                have hs1 : (ByteArray.mk #[61]).size = 1 := rfl
                go_wp2
                exact ⟨⟨j + 1, by go_num, by omega, by rw [unhide HN]; rfl⟩, by simp [intOf]; omega⟩
              · rw [if_neg hgt] at HN
                have hy : x / 2 ^ (18 - 6 * j) % 64 < 64 := by omega
                have hsl := letB_slice (x / 2 ^ (18 - 6 * j) % 64) hy
                have hs1 : (bts [let64 (x / 2 ^ (18 - 6 * j) % 64)]).size = 1 := by rw [size_bts]; rfl
                unfold letB at hsl
                dsimp only at hsl
                go_upto_region 19 with (fail)
                rw [tmod64]
                generalize x / 2 ^ (18 - 6 * j) % 64 = y at hy hsl hs1 HN
                go_wp2
                exact ⟨⟨j + 1, by go_num, by omega, by rw [unhide HN]⟩, by simp [intOf]; omega⟩
            · have hj4' : j = 4 := by omega
              subst hj4'
              have hfin : o ++ (quad c).take 4 = b64 (s.data.toList.take (k + 3)) := by rw [unhide HNX, List.take_of_length_le (by have := unhide HL; omega)]
              rw [hfin]
              clear hfin
              go_wp2
              exact ⟨⟨k + 3, by go_num, by omega, by omega, rfl⟩, by simp [intOf]; omega⟩
    · have hfin : b64 (s.data.toList.take k) = b64 s.data.toList := by rw [List.take_of_length_le (by rw [sizeL]; omega)]
      rw [hfin]
      clear hfin
      go_wp2
      go_ret
      exact ⟨rfl, rfl⟩
end Go.Proofs.YtdallfakfhajdaaGreatDoor
