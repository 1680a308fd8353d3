/-
  What missiveref05.Quoted, digit, end and blank do, over this seat's program: bytes quoted-printable; what stands at a place.
-/
import Derived.Test.YtoofggofpdlccaaRfb
import Derived.Test.YtoofggofpdlccaaQuo
import Derived.Deep.QuietTactic
import Derived.BigQuiet
import Derived.WalkSmall
set_option linter.unusedVariables false
namespace Go.Proofs.Ytoofggofpdlccaa
open Go.RowKit Go.Proofs.Enc

/-- What digit tells: the digit's number, or -1. -/
def digI (c : UInt8) : Int := if dig c < 16 then (dig c : Int) else -1

/-- A digit's great form. -/
def up (c : UInt8) : UInt8 := if 97 ≤ c.toNat ∧ c.toNat ≤ 102 then UInt8.ofNat (c.toNat - 32) else c
theorem up_fin : ∀ c : Fin 256, (∀ n : Fin 16, hx n.val = up (UInt8.ofNat c.val) → dig (UInt8.ofNat c.val) = n.val) ∧ (dig (UInt8.ofNat c.val) < 16 → hx (dig (UInt8.ofNat c.val)) = up (UInt8.ofNat c.val)) := by decide +kernel
theorem up_hit {c : UInt8} {n : Nat} (hn : n < 16) (h : hx n = up c) : dig c = n := by
  have := (up_fin ⟨c.toNat, c.toNat_lt⟩).1 ⟨n, hn⟩
  simp only [UInt8.ofNat_toNat] at this
  exact this h
theorem up_miss {c : UInt8} (h : dig c < 16) : hx (dig c) = up c := by
  have := (up_fin ⟨c.toNat, c.toNat_lt⟩).2
  simp only [UInt8.ofNat_toNat] at this
  exact this h

theorem hexB_get (n : Nat) (h : n < 16) (h' : n < hexB.size) : hexB[n] = hx n := by
  rw [← getD_byte hexB n h']
  exact hexB_fin ⟨n, h⟩

set_option maxHeartbeats 1000000 in
set_option maxRecDepth 100000 in
theorem refDigit_any (c : UInt8) (w : World) :
    Calls Try.prog 29 #[.int .u8 c.toNat] w fun e w' => e = .returned (.int .i64 (digI c)) ∧ w' = w := by
  have hc := c.toNat_lt
  obtain ⟨d, hd⟩ : ∃ d, up c = d := ⟨_, rfl⟩
  have HD := hide hd
  have key : 97 ≤ c.toNat ∧ c.toNat ≤ 102 ∧ (c.toNat : Int) - 32 = (d.toNat : Int) ∨ (¬ (97 ≤ c.toNat ∧ c.toNat ≤ 102) ∧ c = d) := by
    by_cases h : 97 ≤ c.toNat ∧ c.toNat ≤ 102
    · left
      rw [← hd, up, if_pos h]
      refine ⟨h.1, h.2, ?_⟩
      simp
      omega
    · right
      rw [← hd, up, if_neg h]
      exact ⟨h, rfl⟩
  clear hd
  go_enter Try.func29, Try.ntmps29
  have HC : Hid (c.toNat = c.toNat) := hide rfl
  rcases key with ⟨h1, h2, h3⟩ | ⟨h1, h2⟩
  · go_wp2
    go_loop [3] (fun z => ∃ k : Nat, z = .int .i64 k ∧ k ≤ 16 ∧ Hid (∀ j, j < k → hx j ≠ d)) (fun z => 16 - (intOf z).toNat)
    case atStart => exact ⟨0, rfl, by omega, hide (by intro j hj; omega)⟩
    case round =>
      obtain ⟨k, rfl, hk, HA⟩ := hrel
      by_cases hlt : k < 16
      · have hB : k < hexB.size := by rw [hexB_size]; exact hlt
        have hx' := hexB_get k hlt hB
        by_cases he : hx k = d
        · have hb : (((hexB[k]'hB).toNat : Int) == (d.toNat : Int)) = true := by rw [hx', he]; simp
          have hfin : digI c = k := by rw [digI, up_hit hlt (he.trans (unhide HD).symm), if_pos hlt]
          have HF := hide hfin
          clear hfin hx' he
          unfold hexB at hb
          go_wp2
          go_ret
          exact ⟨by rw [unhide HF]; rfl, rfl⟩
        · have hb : (((hexB[k]'hB).toNat : Int) == (d.toNat : Int)) = false := by
            rw [hx', beq_eq_false_iff_ne]
            intro e
            exact he (UInt8.toNat_inj.1 (by omega))
          have hnx : ∀ j, j < k + 1 → hx j ≠ d := by
            intro j hj
            by_cases h : j = k
            · subst h; exact he
            · exact unhide HA j (by omega)
          have HN := hide hnx
          clear hnx hx' he
          unfold hexB at hb
          go_wp2
          exact ⟨⟨k + 1, by go_num, by omega, HN⟩, by simp [intOf]; omega⟩
      · have hfin : digI c = -1 := by
          unfold digI
          rw [if_neg]
          intro h
          exact unhide HA (dig c) (by omega) ((up_miss h).trans (unhide HD))
        have HF := hide hfin
        clear hfin
        go_wp2
        go_ret
        exact ⟨by rw [unhide HF]; rfl, rfl⟩
  · subst h2
    by_cases g1 : 97 ≤ c.toNat
    all_goals
      (try have g2 : ¬ c.toNat ≤ 102 := by omega)
      clear h1
      go_wp2
      go_loop [3] (fun z => ∃ k : Nat, z = .int .i64 k ∧ k ≤ 16 ∧ Hid (∀ j, j < k → hx j ≠ c)) (fun z => 16 - (intOf z).toNat)
      case atStart => exact ⟨0, rfl, by omega, hide (by intro j hj; omega)⟩
      case round =>
        obtain ⟨k, rfl, hk, HA⟩ := hrel
        by_cases hlt : k < 16
        · have hB : k < hexB.size := by rw [hexB_size]; exact hlt
          have hx' := hexB_get k hlt hB
          by_cases he : hx k = c
          · have hb : (((hexB[k]'hB).toNat : Int) == (c.toNat : Int)) = true := by rw [hx', he]; simp
            have hfin : digI c = k := by rw [digI, up_hit hlt (he.trans (unhide HD).symm), if_pos hlt]
            have HF := hide hfin
            clear hfin hx' he
            unfold hexB at hb
            go_wp2
            go_ret
            exact ⟨by rw [unhide HF]; rfl, rfl⟩
          · have hb : (((hexB[k]'hB).toNat : Int) == (c.toNat : Int)) = false := by
              rw [hx', beq_eq_false_iff_ne]
              intro e
              exact he (UInt8.toNat_inj.1 (by omega))
            have hnx : ∀ j, j < k + 1 → hx j ≠ c := by
              intro j hj
              by_cases h : j = k
              · subst h; exact he
              · exact unhide HA j (by omega)
            have HN := hide hnx
            clear hnx hx' he
            unfold hexB at hb
            go_wp2
            exact ⟨⟨k + 1, by go_num, by omega, HN⟩, by simp [intOf]; omega⟩
        · have hfin : digI c = -1 := by
            unfold digI
            rw [if_neg]
            intro h
            exact unhide HA (dig c) (by omega) ((up_miss h).trans (unhide HD))
          have HF := hide hfin
          clear hfin
          go_wp2
          go_ret
          exact ⟨by rw [unhide HF]; rfl, rfl⟩

/-- What end tells: how many bytes the end of a line has, or -1. -/
def lendI (l : List UInt8) : Int := if lend l < 3 then (lend l : Int) else -1

set_option maxHeartbeats 1000000 in
set_option maxRecDepth 100000 in
theorem refEnd_any (s : ByteArray) (k : Nat) (w : World) (hs : s.size ≤ 4000000) (hk : k ≤ 8000000) :
    Calls Try.prog 30 #[.string s, .int .i64 k] w fun e w' => e = .returned (.int .i64 (lendI (s.data.toList.drop k))) ∧ w' = w := by
  by_cases h0 : s.size ≤ k
  · have hfin : lendI (s.data.toList.drop k) = 0 := by rw [drop_end s h0]; rfl
    have HF := hide hfin
    clear hfin
    go_enter Try.func30, Try.ntmps30
    go_wp2
    go_ret
    exact ⟨by rw [unhide HF]; rfl, rfl⟩
  · have hlt : k < s.size := by omega
    have hd := drop_byte s k hlt
    have hc := s[k].toNat_lt
    by_cases h10 : s[k].toNat = 10
    · have hb : ((s[k].toNat : Int) == 10) = true := by simp [h10]
      have hfin : lendI (s.data.toList.drop k) = 1 := by
        rw [hd]
        unfold lendI
        cases s.data.toList.drop (k + 1) <;> simp [lend, h10]
      have HF := hide hfin
      clear hfin hd h10
      go_enter Try.func30, Try.ntmps30
      go_wp2
      go_ret
      exact ⟨by rw [unhide HF]; rfl, rfl⟩
    · have hb : ((s[k].toNat : Int) == 10) = false := by simp; omega
      by_cases h13 : s[k].toNat = 13
      · have hb3 : ((s[k].toNat : Int) == 13) = true := by simp [h13]
        by_cases hn : k + 1 < s.size
        · have hn' : (k : Int) + 1 < (s.size : Int) := by omega
          have hd2 := drop_byte s (k + 1) hn
          have hc2 := s[k + 1].toNat_lt
          by_cases h10' : s[k + 1].toNat = 10
          · have hb4 : ((s[k + 1].toNat : Int) == 10) = true := by simp [h10']
            have hfin : lendI (s.data.toList.drop k) = 2 := by rw [hd, hd2]; simp [lendI, lend, h13, h10']
            have HF := hide hfin
            clear hfin hd hd2 h10 h13 h10'
            go_enter Try.func30, Try.ntmps30
            go_wp2
            go_ret
            exact ⟨by rw [unhide HF]; rfl, rfl⟩
          · have hb4 : ((s[k + 1].toNat : Int) == 10) = false := by simp; omega
            have hfin : lendI (s.data.toList.drop k) = -1 := by rw [hd, hd2]; simp [lendI, lend, h13, h10']
            have HF := hide hfin
            clear hfin hd hd2 h10 h13 h10'
            go_enter Try.func30, Try.ntmps30
            go_wp2
            go_ret
            exact ⟨by rw [unhide HF]; rfl, rfl⟩
        · have hn' : ¬ (k : Int) + 1 < (s.size : Int) := by omega
          have hfin : lendI (s.data.toList.drop k) = -1 := by rw [hd, drop_end s (by omega)]; simp [lendI, lend, h13]
          have HF := hide hfin
          clear hfin hd h10 h13
          go_enter Try.func30, Try.ntmps30
          go_wp2
          go_ret
          exact ⟨by rw [unhide HF]; rfl, rfl⟩
      · have hb3 : ((s[k].toNat : Int) == 13) = false := by simp; omega
        have hfin : lendI (s.data.toList.drop k) = -1 := by
          rw [hd]
          unfold lendI
          cases s.data.toList.drop (k + 1) <;> simp [lend, h10, h13]
        have HF := hide hfin
        clear hfin hd h10 h13
        go_enter Try.func30, Try.ntmps30
        go_wp2
        go_ret
        exact ⟨by rw [unhide HF]; rfl, rfl⟩

set_option maxHeartbeats 1000000 in
set_option maxRecDepth 100000 in
theorem refBlank_any (s : ByteArray) (at0 : Nat) (w : World) (hs : s.size ≤ 4000000) (hk0 : at0 ≤ s.size) (r : Nat) (hr : at0 + blanks (s.data.toList.drop at0) = r) :
    Calls Try.prog 31 #[.string s, .int .i64 at0] w fun e w' => e = .returned (.int .i64 r) ∧ w' = w := by
  have HR := hide hr
  clear hr
  go_enter Try.func31, Try.ntmps31
  go_wp2
  go_loop [1] (fun z => ∃ k : Nat, z = .int .i64 k ∧ k ≤ s.size ∧ Hid (r = k + blanks (s.data.toList.drop k))) (fun z => s.size - (intOf z).toNat)
  case atStart => exact ⟨at0, rfl, hk0, hide (unhide HR).symm⟩
  case round =>
    obtain ⟨k, rfl, hk, HB⟩ := hrel
    by_cases hlt : k < s.size
    · have hd := drop_byte s k hlt
      have hc := s[k].toNat_lt
      by_cases h32 : s[k].toNat = 32
      · have hb : ((s[k].toNat : Int) == 32) = true := by simp [h32]
        have hfin : r = k + 1 + blanks (s.data.toList.drop (k + 1)) := by
          have := unhide HB
          rw [hd, blanks, if_pos (Or.inl h32)] at this
          omega
        have HF := hide hfin
        clear hfin HB hd h32
        go_wp2
        exact ⟨⟨k + 1, by go_num, by omega, HF⟩, by simp [intOf]; omega⟩
      · have hb : ((s[k].toNat : Int) == 32) = false := by simp; omega
        by_cases h9 : s[k].toNat = 9
        · have hb9 : ((s[k].toNat : Int) == 9) = true := by simp [h9]
          have hfin : r = k + 1 + blanks (s.data.toList.drop (k + 1)) := by
            have := unhide HB
            rw [hd, blanks, if_pos (Or.inr h9)] at this
            omega
          have HF := hide hfin
          clear hfin HB hd h32 h9
          go_wp2
          exact ⟨⟨k + 1, by go_num, by omega, HF⟩, by simp [intOf]; omega⟩
        · have hb9 : ((s[k].toNat : Int) == 9) = false := by simp; omega
          have hfin : r = k := by
            have := unhide HB
            rw [hd, blanks, if_neg (by omega)] at this
            omega
          have HF := hide hfin
          clear hfin HB hd h32 h9
          go_wp2
          go_ret
          exact ⟨by rw [unhide HF]; rfl, rfl⟩
    · have hfin : r = k := by
        have := unhide HB
        rw [drop_end s (k := k) (by omega), blanks] at this
        omega
      have HF := hide hfin
      clear hfin HB
      go_wp2
      go_ret
      exact ⟨by rw [unhide HF]; rfl, rfl⟩

theorem hexB_slice (m : Nat) (hm : m < 16) (w : World) : (Instr.slice 9 (.string hexB) (some (.int .u8 (m : Int))) (some (.int .u8 ((m : Int) + 1))) none).run Try.prog w = .ok (.string (bts [hx m])) w := by
  have h := run_slice_string (P := Try.prog) w 9 hexB .u8 .u8 m ((m : Int) + 1) Try.underlying9 (by omega) (by omega) (by rw [hexB_size]; omega)
  rw [show ((m : Int) + 1).toNat = m + 1 by omega, show (m : Int).toNat = m from rfl] at h
  have e : hexB.extract m (m + 1) = bts [hx m] := by
    apply ext_list
    rw [toList_part, toList_bts, drop_byte hexB m (by rw [hexB_size]; omega), hexB_get m hm]
    simp
  rw [e] at h
  exact h

theorem slice_one (s : ByteArray) (k : Nat) (h : k < s.size) (w : World) : (Instr.slice 9 (.string s) (some (.int .i64 (k : Int))) (some (.int .i64 ((k : Int) + 1))) none).run Try.prog w = .ok (.string (bts [s[k]])) w := by
  have h2 := slice_km s k 1 (by omega) w
  have e : s.extract k (k + 1) = bts [s[k]] := by
    apply ext_list
    rw [toList_part, toList_bts, drop_byte s k h]
    simp
  rw [e] at h2
  exact h2

set_option maxHeartbeats 2000000 in
set_option maxRecDepth 100000 in
/-- missiveref05.Quoted answers the bytes quoted-printable. -/
theorem refQuoted_any (s : ByteArray) (w : World) (hs : s.size ≤ 4000000) :
    Calls Try.prog 18 #[.string s] w fun e w' => e = .returned (.string (bts (quo s.data.toList))) ∧ Below w.heap.size w w' := by
  go_enter Try.func18, Try.ntmps18
  go_wp2
  go_loopw [3, 4, 5, 6] (fun x z y1 y2 wr => ∃ (k : Nat) (acc : List UInt8), z = .int .i64 k ∧ k ≤ s.size ∧ x = .string (bts acc) ∧ acc.length ≤ 3 * k ∧ Hid (acc ++ quo (s.data.toList.drop k) = quo s.data.toList) ∧ Below w.heap.size w wr) (fun _ z _ _ _ => s.size - (intOf z).toNat)
  case atStart => exact ⟨0, [], rfl, by omega, rfl, by simp, hide rfl, Below.refl _ _⟩
  case round =>
    obtain ⟨k, acc, rfl, hk, rfl, hacc, HE, hbw⟩ := hrel
    by_cases hlt : k < s.size
    · have hd := drop_byte s k hlt
      have hc := s[k].toNat_lt
      have hfin := unhide HE
      rw [hd, quo, ← List.append_assoc] at hfin
      have hsz : (bts acc).size ≤ 12000000 := by rw [size_bts]; omega
      -- whether it is the last one of its line
      have hlast : ∃ last : Bool, (k + 1 = s.size ∧ last = true) ∨ (k + 1 < s.size ∧ ∃ h : k + 1 < s.size, last = ((s[k + 1].toNat : Int) == 10)) := by
        by_cases h : k + 1 < s.size
        · exact ⟨_, Or.inr ⟨h, h, rfl⟩⟩
        · exact ⟨true, Or.inl ⟨by omega, rfl⟩⟩
      by_cases hi : itself s[k] (s.data.toList.drop (k + 1)) = true
      · rw [piece, if_pos hi] at hfin
        have hnx : bts (acc ++ [s[k]]) = bts acc ++ bts [s[k]] := (bts_append _ _).symm
        have hl1 : (acc ++ [s[k]]).length ≤ 3 * (k + 1) := by simp; omega
        have HF := hide hfin
        have HN := hide hnx
        have HL := hide hl1
        have hsl := slice_one s k hlt
        have hs1 : (bts [s[k]]).size = 1 := by rw [size_bts]; rfl
        have HI := hide hi
        have HDD := hide hd
        clear hfin hnx hl1 hd hi HE
        generalize bts acc = o at hsz HN
        by_cases h32 : s[k].toNat = 32
        · have hlf : k + 1 < s.size ∧ ∃ h : k + 1 < s.size, s[k + 1].toNat ≠ 10 := by
            have := itself_space h32 (unhide HI)
            by_cases h : k + 1 < s.size
            · rw [drop_byte s (k + 1) h] at this
              exact ⟨h, h, this⟩
            · rw [drop_end s (by omega)] at this
              exact this.elim
          obtain ⟨hn, _, h10⟩ := hlf
          have e1 : (((k : Int) + 1) == (s.size : Int)) = false := by simp; omega
          have e2 : ((s[k + 1].toNat : Int) == 10) = false := by simp; omega
          have e3 : ((s[k].toNat : Int) == 32) = true := by simp [h32]
          have e4 : ¬ (33 : Int) ≤ (s[k].toNat : Int) := by omega
          have hn' : (k : Int) + 1 < (s.size : Int) := by omega
          clear h10 h32 hlast
          generalize bts [s[k]] = t at hsl hs1 HN
          go_wp2
          exact ⟨⟨k + 1, _, by go_num, by omega, by rw [unhide HN], unhide HL, HF, hbw⟩, by simp [intOf]; omega⟩
        · have e3 : ((s[k].toNat : Int) == 32) = false := by simp; omega
          have hE : ((((k : Int) + 1) == (s.size : Int)) = true ∧ True) ∨ ((((k : Int) + 1) == (s.size : Int)) = false ∧ (k : Int) + 1 < (s.size : Int)) := by
            by_cases h : k + 1 = s.size
            · left; exact ⟨by simp; omega, trivial⟩
            · right; exact ⟨by simp; omega, by omega⟩
          have hk1 : k + 1 ≤ s.size := by omega
          have hcase : s[k].toNat = 10 ∨ (33 ≤ s[k].toNat ∧ s[k].toNat ≤ 126 ∧ s[k].toNat ≠ 61) := by
            have := unhide HI
            unfold itself at this
            rw [if_neg h32] at this
            by_cases h10 : s[k].toNat = 10
            · exact Or.inl h10
            · rw [if_neg h10] at this
              simp at this
              omega
          clear h32 hlast
          rcases hcase with h10 | ⟨g1, g2, g3⟩
          · have e5 : ((s[k].toNat : Int) == 10) = true := by simp [h10]
            have e4 : ¬ (33 : Int) ≤ (s[k].toNat : Int) := by omega
            clear h10
            generalize bts [s[k]] = t at hsl hs1 HN
            rcases hE with ⟨e1, _⟩ | ⟨e1, hn'⟩
            · go_wp2
              exact ⟨⟨k + 1, _, by go_num, by omega, by rw [unhide HN], unhide HL, HF, hbw⟩, by simp [intOf]; omega⟩
            · have hn : k + 1 < s.size := by omega
              go_wp2
              exact ⟨⟨k + 1, _, by go_num, by omega, by rw [unhide HN], unhide HL, HF, hbw⟩, by simp [intOf]; omega⟩
          · have e5 : ((s[k].toNat : Int) != 61) = true := by simp; omega
            have e4 : (33 : Int) ≤ (s[k].toNat : Int) := by omega
            have e6 : (s[k].toNat : Int) ≤ 126 := by omega
            clear g3
            generalize bts [s[k]] = t at hsl hs1 HN
            rcases hE with ⟨e1, _⟩ | ⟨e1, hn'⟩
            · go_wp2
              exact ⟨⟨k + 1, _, by go_num, by omega, by rw [unhide HN], unhide HL, HF, hbw⟩, by simp [intOf]; omega⟩
            · have hn : k + 1 < s.size := by omega
              go_wp2
              exact ⟨⟨k + 1, _, by go_num, by omega, by rw [unhide HN], unhide HL, HF, hbw⟩, by simp [intOf]; omega⟩
      · rw [piece, if_neg hi] at hfin
        have hnx : bts (acc ++ [61, hx (s[k].toNat / 16), hx (s[k].toNat % 16)]) = bts acc ++ (ByteArray.mk #[61] ++ bts [hx (s[k].toNat / 16)] ++ bts [hx (s[k].toNat % 16)]) := by
          rw [show ByteArray.mk #[61] = bts [61] from rfl, bts_append, bts_append, bts_append]
          rfl
        have hl1 : (acc ++ [61, hx (s[k].toNat / 16), hx (s[k].toNat % 16)]).length ≤ 3 * (k + 1) := by simp; omega
        have HF := hide hfin
        have HN := hide hnx
        have HL := hide hl1
        have hsl1 := hexB_slice (s[k].toNat / 16) (by omega)
        have hsl2 := hexB_slice (s[k].toNat % 16) (by omega)
        have hs1 : (bts [hx (s[k].toNat / 16)]).size = 1 := by rw [size_bts]; rfl
        have hs2 : (bts [hx (s[k].toNat % 16)]).size = 1 := by rw [size_bts]; rfl
        have hs3 : (ByteArray.mk #[61] ++ bts [hx (s[k].toNat / 16)]).size = 2 := by rw [ByteArray.size_append, hs1]; rfl
        have hs4 : (ByteArray.mk #[61] ++ bts [hx (s[k].toNat / 16)] ++ bts [hx (s[k].toNat % 16)]).size = 3 := by rw [ByteArray.size_append, hs3, hs2]
        rw [show ((s[k].toNat / 16 : Nat) : Int) = (s[k].toNat : Int) / 16 by omega] at hsl1
        rw [show ((s[k].toNat % 16 : Nat) : Int) = (s[k].toNat : Int) % 16 by omega] at hsl2
        unfold hexB at hsl1 hsl2
        have HI := hide hi
        have HDD := hide hd
        clear hfin hnx hl1 hd hi HE
        generalize bts acc = o at hsz HN
        generalize bts [hx (s[k].toNat / 16)] = t1 at hsl1 hs1 hs3 hs4 HN
        generalize bts [hx (s[k].toNat % 16)] = t2 at hsl2 hs2 hs4 HN
        have hcase : (s[k].toNat = 32 ∧ (k + 1 = s.size ∨ ∃ h : k + 1 < s.size, s[k + 1].toNat = 10)) ∨ (s[k].toNat < 32 ∧ s[k].toNat ≠ 10) ∨ 126 < s[k].toNat ∨ s[k].toNat = 61 := by
          have h := unhide HI
          by_cases h32 : s[k].toNat = 32
          · left
            refine ⟨h32, ?_⟩
            by_cases hn : k + 1 < s.size
            · right
              refine ⟨hn, ?_⟩
              rw [drop_byte s (k + 1) hn] at h
              simp [itself, h32] at h
              exact h
            · left; omega
          · right
            unfold itself at h
            rw [if_neg h32] at h
            by_cases h10 : s[k].toNat = 10
            · rw [if_pos h10] at h; simp at h
            · rw [if_neg h10] at h
              simp at h
              omega
        have hE : ((((k : Int) + 1) == (s.size : Int)) = true ∧ True) ∨ ((((k : Int) + 1) == (s.size : Int)) = false ∧ (k : Int) + 1 < (s.size : Int)) := by
          by_cases h : k + 1 = s.size
          · left; exact ⟨by simp; omega, trivial⟩
          · right; exact ⟨by simp; omega, by omega⟩
        clear hlast
        rcases hcase with ⟨h32, hl⟩ | ⟨h32, h10⟩ | h126 | h61
        · have e3 : ((s[k].toNat : Int) == 32) = true := by simp [h32]
          have e4 : ¬ (33 : Int) ≤ (s[k].toNat : Int) := by omega
          have e5 : ((s[k].toNat : Int) == 10) = false := by simp; omega
          clear hE
          rcases hl with hl | ⟨hn, h10⟩
          · have e1 : (((k : Int) + 1) == (s.size : Int)) = true := by simp; omega
            clear hl h32
            go_wp2
            go_quiet (fail)
            go_wp2
            exact ⟨⟨k + 1, _, by go_num, by omega, by rw [unhide HN], unhide HL, HF, below_drewN hbw _⟩, by simp [intOf]; omega⟩
          · have e1 : (((k : Int) + 1) == (s.size : Int)) = false := by simp; omega
            have e2 : ((s[k + 1].toNat : Int) == 10) = true := by simp [h10]
            have hn' : (k : Int) + 1 < (s.size : Int) := by omega
            clear h10 h32
            go_wp2
            go_quiet (fail)
            go_wp2
            exact ⟨⟨k + 1, _, by go_num, by omega, by rw [unhide HN], unhide HL, HF, below_drewN hbw _⟩, by simp [intOf]; omega⟩
        · have e3 : ((s[k].toNat : Int) == 32) = false := by simp; omega
          have e4 : ¬ (33 : Int) ≤ (s[k].toNat : Int) := by omega
          have e5 : ((s[k].toNat : Int) == 10) = false := by simp; omega
          clear h10 h32
          rcases hE with ⟨e1, _⟩ | ⟨e1, hn'⟩
          · go_wp2
            go_quiet (fail)
            go_wp2
            exact ⟨⟨k + 1, _, by go_num, by omega, by rw [unhide HN], unhide HL, HF, below_drewN hbw _⟩, by simp [intOf]; omega⟩
          · have hn : k + 1 < s.size := by omega
            go_wp2
            go_quiet (fail)
            go_wp2
            exact ⟨⟨k + 1, _, by go_num, by omega, by rw [unhide HN], unhide HL, HF, below_drewN hbw _⟩, by simp [intOf]; omega⟩
        · have e3 : ((s[k].toNat : Int) == 32) = false := by simp; omega
          have e4 : (33 : Int) ≤ (s[k].toNat : Int) := by omega
          have e6 : ¬ (s[k].toNat : Int) ≤ 126 := by omega
          have e5 : ((s[k].toNat : Int) == 10) = false := by simp; omega
          clear h126
          rcases hE with ⟨e1, _⟩ | ⟨e1, hn'⟩
          · go_wp2
            go_quiet (fail)
            go_wp2
            exact ⟨⟨k + 1, _, by go_num, by omega, by rw [unhide HN], unhide HL, HF, below_drewN hbw _⟩, by simp [intOf]; omega⟩
          · have hn : k + 1 < s.size := by omega
            go_wp2
            go_quiet (fail)
            go_wp2
            exact ⟨⟨k + 1, _, by go_num, by omega, by rw [unhide HN], unhide HL, HF, below_drewN hbw _⟩, by simp [intOf]; omega⟩
        · have e3 : ((s[k].toNat : Int) == 32) = false := by simp; omega
          have e4 : (33 : Int) ≤ (s[k].toNat : Int) := by omega
          have e6 : (s[k].toNat : Int) ≤ 126 := by omega
          have e7 : ((s[k].toNat : Int) != 61) = false := by simp [h61]
          have e5 : ((s[k].toNat : Int) == 10) = false := by simp; omega
          clear h61
          rcases hE with ⟨e1, _⟩ | ⟨e1, hn'⟩
          · go_wp2
            go_quiet (fail)
            go_wp2
            exact ⟨⟨k + 1, _, by go_num, by omega, by rw [unhide HN], unhide HL, HF, below_drewN hbw _⟩, by simp [intOf]; omega⟩
          · have hn : k + 1 < s.size := by omega
            go_wp2
            go_quiet (fail)
            go_wp2
            exact ⟨⟨k + 1, _, by go_num, by omega, by rw [unhide HN], unhide HL, HF, below_drewN hbw _⟩, by simp [intOf]; omega⟩
    · have hfin : acc = quo s.data.toList := by
        have := unhide HE
        rw [drop_end s (by omega)] at this
        simpa [quo] using this
      have HF := hide hfin
      clear hfin
      go_wp2
      go_ret
      exact ⟨by rw [← unhide HF]; rfl, hbw⟩
end Go.Proofs.Ytoofggofpdlccaa
