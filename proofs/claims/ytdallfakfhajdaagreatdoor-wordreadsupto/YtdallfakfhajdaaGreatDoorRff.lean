/-
  What missiveref05.FromBase64 and missiveref05.Strict do, over this seat's program: what bytes in base64 say, and how many are counted.
-/
import Derived.Test.YtdallfakfhajdaaGreatDoorRfb
import Derived.Test.YtdallfakfhajdaaGreatDoorRow
set_option linter.unusedVariables false
namespace Go.Proofs.YtdallfakfhajdaaGreatDoor
open Go.RowKit Go.Proofs.Enc

theorem num_64 {c : UInt8} (h : num64 c = 64) : c.toNat = 10 ∨ c.toNat = 13 ∨ c.toNat = 32 ∨ c.toNat = 9 := by
  have := c.toNat_lt
  unfold num64 at h
  repeat' split at h
  all_goals omega
theorem num_65 {c : UInt8} (h : num64 c = 65) : c.toNat ≠ 10 ∧ c.toNat ≠ 13 ∧ c.toNat ≠ 32 ∧ c.toNat ≠ 9 := by
  have := c.toNat_lt
  unfold num64 at h
  repeat' split at h
  all_goals omega

set_option maxHeartbeats 2000000 in
set_option maxRecDepth 100000 in
/-- missiveref05.FromBase64 answers what the bytes say. -/
theorem refFrom64_any (s : ByteArray) (w : World) (hs : s.size ≤ 4000000) :
    Calls Tryz.prog 72 #[.string s] w fun e w' => e = .returned (.tuple #[.string (bts (from64 0 0 s.data.toList).1), .int .i64 (from64 0 0 s.data.toList).2]) ∧ Below w.heap.size w w' := by
  obtain ⟨i0, hi, hz0, hz1, hz2⟩ := info_parts bInfo
  go_enter Tryz.func72, Tryz.ntmps72
  go_wp2
  go_loopw [4, 5, 6, 7, 8, 9] (fun x vb vh vc z y wr => ∃ (k b hv cnt : Nat) (acc : List UInt8), vb = .int .i64 b ∧ vh = .int .i64 hv ∧ vc = .int .i64 cnt ∧ z = .int .i64 k ∧ k ≤ s.size ∧ b < 20000 ∧ (hv = 0 ∨ hv = 2 ∨ hv = 4 ∨ hv = 6) ∧ cnt ≤ k ∧ acc.length ≤ k ∧
    Hid (acc ++ (from64 hv (b % 2 ^ hv) (s.data.toList.drop k)).1 = (from64 0 0 s.data.toList).1 ∧ cnt + (from64 hv (b % 2 ^ hv) (s.data.toList.drop k)).2 = (from64 0 0 s.data.toList).2) ∧
    wr.ownsRow w.heap.size 5 1 x acc.length (Lib.byteCells acc) ∧ Below w.heap.size w wr) (fun _ _ _ _ z _ _ => s.size - (intOf z).toNat)
  case atStart => exact ⟨0, 0, 0, 0, [], rfl, rfl, rfl, rfl, by omega, by omega, by omega, by omega, by simp, hide ⟨rfl, Nat.zero_add _⟩, ⟨rfl, Or.inl ⟨rfl, rfl⟩⟩, Below.refl _ _⟩
  case round =>
    obtain ⟨k, b, hv, cnt, acc, rfl, rfl, rfl, rfl, hk, hb, hhv, hcnt, hacc, HE, hown, hbw⟩ := hrel
    have hbs := hbw.size
    by_cases hlt : k < s.size
    · have hd := drop_byte s k hlt
      have hc := s[k].toNat_lt
      by_cases h61 : s[k].toNat = 61
      · have hb6 : ((s[k].toNat : Int) != 61) = false := by simp [h61]
        have hfin : acc = (from64 0 0 s.data.toList).1 ∧ cnt = (from64 0 0 s.data.toList).2 := by
          have := unhide HE
          rw [hd, from64, if_pos (UInt8.toNat_inj.1 h61)] at this
          simpa using this
        have HF := hide hfin
        have hcv := own_string hown
        clear hfin hd h61
        obtain ⟨q0, q1, q2, rfl⟩ : ∃ q0 q1 q2, u4 = .slice q0 q1 q2 := by rcases hown.2 with ⟨rfl, _⟩ | ⟨g, cap, cur, rfl, _⟩ <;> exact ⟨_, _, _, rfl⟩
        go_wp2
        go_ret2
        exact ⟨by rw [← (unhide HF).1, ← (unhide HF).2]; rfl, hbw⟩
      · have hb6 : ((s[k].toNat : Int) != 61) = true := by simp; omega
        have hne : ¬ s[k] = 61 := fun e => h61 (by rw [e]; rfl)
        have HE2 : Hid (acc ++ (from64 hv (b % 2 ^ hv) (s[k] :: s.data.toList.drop (k + 1))).1 = (from64 0 0 s.data.toList).1 ∧ cnt + (from64 hv (b % 2 ^ hv) (s[k] :: s.data.toList.drop (k + 1))).2 = (from64 0 0 s.data.toList).2) := by rw [← hd]; exact HE
        have hf := fun W => refFind_any s[k] W
        unfold findI at hf
        clear hd HE h61
        by_cases h65 : num64 s[k] = 65
        · have hfin := unhide HE2
          rw [from64, if_neg hne, if_pos h65] at hfin
          rw [if_neg (by omega)] at hf
          have HF := hide hfin
          have HC := hide hf
          obtain ⟨n1, n2, n3, n4⟩ := num_65 h65
          have m1 : ((s[k].toNat : Int) != 10) = true := by simp; omega
          have m2 : ((s[k].toNat : Int) != 13) = true := by simp; omega
          have m3 : ((s[k].toNat : Int) != 32) = true := by simp; omega
          have m4 : ((s[k].toNat : Int) != 9) = true := by simp; omega
          clear hfin HE2 h65 hf n1 n2 n3 n4
          go_wp2_with fail
          refine (unhide HC _).mono ?_
          rintro e w1 ⟨rfl, rfl⟩
          go_wp2
          exact ⟨⟨k + 1, b, hv, cnt + 1, acc, rfl, rfl, by go_num, by go_num, by omega, hb, hhv, by omega, by omega, hide ⟨(unhide HF).1, by have := (unhide HF).2; omega⟩, hown, hbw⟩, by simp [intOf]; omega⟩
        · by_cases h64 : num64 s[k] = 64
          · have hfin := unhide HE2
            rw [from64, if_neg hne, if_neg h65, if_pos h64] at hfin
            rw [if_neg (by omega)] at hf
            have HF := hide hfin
            have HC := hide hf
            have hblank : ((s[k].toNat : Int) != 10) = false ∨ (((s[k].toNat : Int) != 10) = true ∧ ((s[k].toNat : Int) != 13) = false) ∨ (((s[k].toNat : Int) != 10) = true ∧ ((s[k].toNat : Int) != 13) = true ∧ ((s[k].toNat : Int) != 32) = false) ∨ (((s[k].toNat : Int) != 10) = true ∧ ((s[k].toNat : Int) != 13) = true ∧ ((s[k].toNat : Int) != 32) = true ∧ ((s[k].toNat : Int) != 9) = false) := by
              rcases num_64 h64 with h | h | h | h <;> simp [h]
            clear hfin HE2 h65 hf h64
            go_wp2_with fail
            refine (unhide HC _).mono ?_
            rintro e w1 ⟨rfl, rfl⟩
            rcases hblank with m1 | ⟨m1, m2⟩ | ⟨m1, m2, m3⟩ | ⟨m1, m2, m3, m4⟩
            all_goals
              go_wp2
              exact ⟨⟨k + 1, b, hv, cnt, acc, rfl, rfl, rfl, by go_num, by omega, hb, hhv, by omega, by omega, HF, hown, hbw⟩, by simp [intOf]; omega⟩
          · have hn : num64 s[k] < 64 := by have := num_le s[k]; omega
            have hfin := unhide HE2
            rw [from64, if_neg hne, if_neg h65, if_neg h64] at hfin
            rw [if_pos hn] at hf
            have HF := hide hfin
            have HC := hide hf
            clear hfin HE2 h65 h64 hf
            generalize num64 s[k] = n at hn HF HC
            obtain ⟨b2, hor, hb2, HB2⟩ : ∃ b2 : Nat, ((b : Int) % 256 * 64 + (n : Int)) = (b2 : Int) ∧ b2 < 20000 ∧ Hid (b2 = b % 256 * 64 + n) := ⟨b % 256 * 64 + n, by omega, by omega, hide rfl⟩
            have hor2 : ((b : Int).tmod 256 * 64 + (n : Int)) = (b2 : Int) := by rw [Int.tmod_eq_emod_of_nonneg (by omega)]; exact hor
            rcases hhv with rfl | rfl | rfl | rfl
            · go_wp2_with fail
              refine (unhide HC _).mono ?_
              rintro e w1 ⟨rfl, rfl⟩
              go_wp2
              refine ⟨⟨k + 1, b2, 6, cnt, acc, rfl, rfl, rfl, by go_num, by omega, hb2, by omega, by omega, by omega, ?_, hown, hbw⟩, by simp [intOf]; omega⟩
              have h : acc ++ (from64 6 n (s.data.toList.drop (k + 1))).1 = (from64 0 0 s.data.toList).1 ∧ cnt + (from64 6 n (s.data.toList.drop (k + 1))).2 = (from64 0 0 s.data.toList).2 := unhide HF
              have e : b2 % 2 ^ 6 = n := by have := unhide HB2; omega
              rw [← e] at h
              exact hide h
            · have hbyte : ((b2 : Int) % 256) = ((UInt8.ofNat ((b % 2 ^ 2 * 64 + n) / 2 ^ (2 - 2))).toNat : Int) := by
                have := unhide HB2
                simp
                omega
              have HY := hide hbyte
              clear hbyte
              go_wp2_with fail
              refine (unhide HC _).mono ?_
              rintro e w1 ⟨rfl, rfl⟩
              go_wp2_with (at_builtin; refine wpList_append_own _ rfl _ _ 36 rfl w.heap.size 5 i0 (.int .u8 0) 1 1 Tryz.underlying36 hi hz0 hz1 hz2 rfl (by decide) _ _ _ rfl (hown.alloc _) ⟨w1.heap.size, 0, none⟩ 1 1 [.int .u8 ((b2 : Int) % 256)] rfl rfl ?c1 ?c2 ?c3 ?c4 ?c5 ?_)
              case c1 =>
                intro j u hj
                match j, hj with
                | 0, hj => simp at hj; subst hj; simp [Addr.add]
              case c2 => intro u hu; simp at hu; subst hu; rfl
              case c3 => unfold maxLen; omega
              case c4 => omega
              case c5 => simp; omega
              intro v' w2 hown' hgrow _
              have hb3 := own_grown hown hgrow hbw (by omega)
              rw [byteCells_snoc acc _ _ (unhide HY)] at hown'
              go_wp2
              refine ⟨⟨k + 1, b2, 0, cnt, acc ++ [UInt8.ofNat ((b % 2 ^ 2 * 64 + n) / 2 ^ (2 - 2))], rfl, rfl, rfl, by go_num, by omega, hb2, by omega, by omega, by simp; omega, ?_, by simpa using hown', hb3⟩, by simp [intOf]; omega⟩
              have h := unhide HF
              rw [if_neg (by omega)] at h
              have e : b2 % 2 ^ (2 - 2) = (b % 2 ^ 2 * 64 + n) % 2 ^ (2 - 2) := by have := unhide HB2; omega
              rw [← e] at h
              exact hide ⟨by simpa using h.1, h.2⟩
            · have hbyte : ((b2 : Int) / 4 % 256) = ((UInt8.ofNat ((b % 2 ^ 4 * 64 + n) / 2 ^ (4 - 2))).toNat : Int) := by
                have := unhide HB2
                simp
                omega
              have HY := hide hbyte
              clear hbyte
              go_wp2_with fail
              refine (unhide HC _).mono ?_
              rintro e w1 ⟨rfl, rfl⟩
              go_wp2_with (at_builtin; refine wpList_append_own _ rfl _ _ 36 rfl w.heap.size 5 i0 (.int .u8 0) 1 1 Tryz.underlying36 hi hz0 hz1 hz2 rfl (by decide) _ _ _ rfl (hown.alloc _) ⟨w1.heap.size, 0, none⟩ 1 1 [.int .u8 ((b2 : Int) / 4 % 256)] rfl rfl ?c1 ?c2 ?c3 ?c4 ?c5 ?_)
              case c1 =>
                intro j u hj
                match j, hj with
                | 0, hj => simp at hj; subst hj; simp [Addr.add]
              case c2 => intro u hu; simp at hu; subst hu; rfl
              case c3 => unfold maxLen; omega
              case c4 => omega
              case c5 => simp; omega
              intro v' w2 hown' hgrow _
              have hb3 := own_grown hown hgrow hbw (by omega)
              rw [byteCells_snoc acc _ _ (unhide HY)] at hown'
              go_wp2
              refine ⟨⟨k + 1, b2, 2, cnt, acc ++ [UInt8.ofNat ((b % 2 ^ 4 * 64 + n) / 2 ^ (4 - 2))], rfl, rfl, rfl, by go_num, by omega, hb2, by omega, by omega, by simp; omega, ?_, by simpa using hown', hb3⟩, by simp [intOf]; omega⟩
              have h := unhide HF
              rw [if_neg (by omega)] at h
              have e : b2 % 2 ^ (4 - 2) = (b % 2 ^ 4 * 64 + n) % 2 ^ (4 - 2) := by have := unhide HB2; omega
              rw [← e] at h
              exact hide ⟨by simpa using h.1, h.2⟩
            · have hbyte : ((b2 : Int) / 16 % 256) = ((UInt8.ofNat ((b % 2 ^ 6 * 64 + n) / 2 ^ (6 - 2))).toNat : Int) := by
                have := unhide HB2
                simp
                omega
              have HY := hide hbyte
              clear hbyte
              go_wp2_with fail
              refine (unhide HC _).mono ?_
              rintro e w1 ⟨rfl, rfl⟩
              go_wp2_with (at_builtin; refine wpList_append_own _ rfl _ _ 36 rfl w.heap.size 5 i0 (.int .u8 0) 1 1 Tryz.underlying36 hi hz0 hz1 hz2 rfl (by decide) _ _ _ rfl (hown.alloc _) ⟨w1.heap.size, 0, none⟩ 1 1 [.int .u8 ((b2 : Int) / 16 % 256)] rfl rfl ?c1 ?c2 ?c3 ?c4 ?c5 ?_)
              case c1 =>
                intro j u hj
                match j, hj with
                | 0, hj => simp at hj; subst hj; simp [Addr.add]
              case c2 => intro u hu; simp at hu; subst hu; rfl
              case c3 => unfold maxLen; omega
              case c4 => omega
              case c5 => simp; omega
              intro v' w2 hown' hgrow _
              have hb3 := own_grown hown hgrow hbw (by omega)
              rw [byteCells_snoc acc _ _ (unhide HY)] at hown'
              go_wp2
              refine ⟨⟨k + 1, b2, 4, cnt, acc ++ [UInt8.ofNat ((b % 2 ^ 6 * 64 + n) / 2 ^ (6 - 2))], rfl, rfl, rfl, by go_num, by omega, hb2, by omega, by omega, by simp; omega, ?_, by simpa using hown', hb3⟩, by simp [intOf]; omega⟩
              have h := unhide HF
              rw [if_neg (by omega)] at h
              have e : b2 % 2 ^ (6 - 2) = (b % 2 ^ 6 * 64 + n) % 2 ^ (6 - 2) := by have := unhide HB2; omega
              rw [← e] at h
              exact hide ⟨by simpa using h.1, h.2⟩
    · have hfin : acc = (from64 0 0 s.data.toList).1 ∧ cnt = (from64 0 0 s.data.toList).2 := by
        have := unhide HE
        rw [drop_end s (by omega)] at this
        simpa [from64] using this
      have HF := hide hfin
      have hcv := own_string hown
      clear hfin
      obtain ⟨q0, q1, q2, rfl⟩ : ∃ q0 q1 q2, u4 = .slice q0 q1 q2 := by rcases hown.2 with ⟨rfl, _⟩ | ⟨g, cap, cur, rfl, _⟩ <;> exact ⟨_, _, _, rfl⟩
      go_wp2
      go_ret2
      exact ⟨by rw [← (unhide HF).1, ← (unhide HF).2]; rfl, hbw⟩

set_option maxHeartbeats 1000000 in
/-- missiveref05.Strict answers the bytes that are written so, or the error. -/
theorem refStrict_any (s : ByteArray) (w : World) (hs : s.size ≤ 4000000) :
    Calls Tryz.prog 32 #[.string s] w fun e w' => e = .returned (.tuple #[.string (bts (strictR s.data.toList).1), .int .i64 (strictR s.data.toList).2]) ∧ Below w.heap.size w w' := by
  have hl := from_len s.data.toList 0 0 rfl
  rw [sizeL] at hl
  go_enter Tryz.func32, Tryz.ntmps32
  go_wp2_with fail
  refine (refFrom64_any s _ hs).mono ?_
  rintro e w1 ⟨rfl, b1⟩
  go_wp2_with fail
  refine (refBase64_any _ _ (by rw [size_bts]; omega)).mono ?_
  rintro e w2 ⟨rfl, rfl⟩
  rw [toList_bts]
  by_cases he : b64 (from64 0 0 s.data.toList).1 = s.data.toList
  · have hq : ((bts (b64 (from64 0 0 s.data.toList).1)).toList == s.toList) = true := by
      rw [beqS]; simp only [decide_eq_true_eq]; exact ext_list ((toList_bts _).trans he)
    have hfin : strictR s.data.toList = ((from64 0 0 s.data.toList).1, 0) := by rw [strictR, if_pos he]
    have HF := hide hfin
    clear hfin he
    go_wp2
    go_ret2
    exact ⟨by rw [unhide HF]; rfl, b1⟩
  · have hq : ((bts (b64 (from64 0 0 s.data.toList).1)).toList == s.toList) = false := by
      rw [beqS]; simp only [decide_eq_false_iff_not]; intro e; exact he (by rw [← toList_bts (b64 (from64 0 0 s.data.toList).1), e])
    have hfin : strictR s.data.toList = ([], 7) := by rw [strictR, if_neg he]
    have HF := hide hfin
    clear hfin he
    go_wp2
    go_ret2
    exact ⟨by rw [unhide HF]; rfl, b1⟩
end Go.Proofs.YtdallfakfhajdaaGreatDoor
