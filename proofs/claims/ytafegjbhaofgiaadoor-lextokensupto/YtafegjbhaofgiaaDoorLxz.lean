/-
  What missiveref28.letter, plain and Quote do, over this seat's program.
-/
import Derived.Test.YtafegjbhaofgiaaDoorLxv
import Derived.Test.YtafegjbhaofgiaaDoorLxh
set_option linter.unusedVariables false
set_option linter.unusedSimpArgs false
namespace Go.Proofs.YtafegjbhaofgiaaDoor
open Go.RowKit Go.Proofs.Lx

theorem bne_dec (a k : Nat) : ((a : Int) != (k : Int)) = !decide (a = k) := by
  unfold bne; rw [beq_dec]
set_option maxHeartbeats 1000000 in
theorem refLetter_any (c : UInt8) (w : World) : Calls Tryd.prog 47 #[.int .u8 (c.toNat : Int)] w fun e w' => e = .returned (.bool (isA c)) ∧ w' = w := by
  rw [isA_cases]
  have b1 : ((c.toNat : Int) != 40) = !decide (c.toNat = 40) := bne_dec c.toNat 40
  have b2 : ((c.toNat : Int) != 41) = !decide (c.toNat = 41) := bne_dec c.toNat 41
  have b3 : ((c.toNat : Int) != 34) = !decide (c.toNat = 34) := bne_dec c.toNat 34
  have b4 : ((c.toNat : Int) != 123) = !decide (c.toNat = 123) := bne_dec c.toNat 123
  have b5 : decide ((33 : Int) ≤ (c.toNat : Int)) = decide (33 ≤ c.toNat) := by rw [Bool.eq_iff_iff]; simp; omega
  have b6 : decide ((c.toNat : Int) ≤ 126) = decide (c.toNat ≤ 126) := by rw [Bool.eq_iff_iff]; simp; omega
  generalize decide (c.toNat = 40) = x1 at *
  generalize decide (c.toNat = 41) = x2 at *
  generalize decide (c.toNat = 34) = x3 at *
  generalize decide (c.toNat = 123) = x4 at *
  generalize decide (33 ≤ c.toNat) = x5 at *
  generalize decide (c.toNat ≤ 126) = x6 at *
  generalize (c.toNat : Int) = n at *
  cases x5 <;> cases x6 <;> cases x1 <;> cases x2 <;> cases x3 <;> cases x4 <;>
  · simp only [Bool.not_true, Bool.not_false] at *
    go_enter Tryd.func47, Tryd.ntmps47
    go_wp2
    go_ret
    exact ⟨rfl, rfl⟩

set_option maxHeartbeats 1000000 in
set_option maxRecDepth 100000 in
theorem plain_any (s : ByteArray) (w : World) (hs : s.size ≤ 281474976710656) : Calls Tryd.prog 37 #[.string s] w fun e w' => e = .returned (.bool (s.data.toList.all isQ)) ∧ w' = w := by
  obtain ⟨R, hR⟩ : ∃ R, s.data.toList.all isQ = R := ⟨_, rfl⟩
  rw [hR]
  have HRR := hide hR
  clear hR
  go_enter Tryd.func37, Tryd.ntmps37
  go_wp2
  go_loop [3] (fun zi => ∃ k : Nat, zi = .int .i64 k ∧ k ≤ s.size ∧ Hid ((s.data.toList.take k).all isQ = true)) (fun zi => s.size - (intOf zi).toNat)
  case atStart => exact ⟨0, rfl, Nat.zero_le _, hide rfl⟩
  case round =>
    obtain ⟨k, rfl, hk, HA⟩ := hrel
    by_cases hlt : k < s.size
    · have hlt1 : (k : Int) < (s.size : Int) := by omega
      have hc := s[k].toNat_lt
      have HQT := hide (isQ_take s k hlt)
      cases hq : isQ s[k] with
      | true =>
        have HA2 : Hid ((s.data.toList.take (k + 1)).all isQ = true) := hide (by rw [unhide HQT, unhide HA, hq]; rfl)
        unfold isQ at hq
        rw [decide_eq_true_iff] at hq
        have g1 : ¬ 126 < (s[k].toNat : Int) := by omega
        have e9 : ¬ (s[k].toNat : Int) < 32 ∨ ((s[k].toNat : Int) < 32 ∧ ((s[k].toNat : Int) != 9) = false) := by
          by_cases h9 : s[k].toNat < 32
          · right; refine ⟨by omega, ?_⟩
            rw [show s[k].toNat = 9 by omega]; rfl
          · left; omega
        clear HQT HA hq
        rcases e9 with e9 | ⟨e9, e10⟩
        · go_wp2
          go_round
          case rel => exact ⟨k + 1, by go_num, by omega, HA2⟩
          case measure => simp [intOf]; omega
        · go_wp2
          go_round
          case rel => exact ⟨k + 1, by go_num, by omega, HA2⟩
          case measure => simp [intOf]; omega
      | false =>
        have HF : Hid (R = false) := hide (by
          rw [← unhide HRR]
          have h := isQ_no hlt hq
          unfold quoteL at h
          cases ha : s.data.toList.all isQ with
          | false => rfl
          | true => rw [ha] at h; simp at h)
        unfold isQ at hq
        rw [decide_eq_false_iff_not] at hq
        have e9 : 126 < (s[k].toNat : Int) ∨ (¬ 126 < (s[k].toNat : Int) ∧ (s[k].toNat : Int) < 32 ∧ ((s[k].toNat : Int) != 9) = true) := by
          by_cases h32 : 126 < s[k].toNat
          · left; omega
          · right; refine ⟨by omega, by omega, by rw [bne_iff_ne]; omega⟩
        clear HQT HA hq
        rcases e9 with e9 | ⟨e9, e10, e11⟩
        · go_wp2
          go_ret
          exact ⟨by rw [unhide HF]; rfl, rfl⟩
        · go_wp2
          go_ret
          exact ⟨by rw [unhide HF]; rfl, rfl⟩
    · have hlt1 : ¬ (k : Int) < (s.size : Int) := by omega
      have hF := unhide HA
      rw [List.take_of_length_le (by rw [sizeL]; omega), unhide HRR] at hF
      have HF := hide hF
      clear hF HA
      go_wp2
      go_ret
      exact ⟨by rw [unhide HF]; rfl, rfl⟩

set_option maxHeartbeats 2000000 in
set_option maxRecDepth 100000 in
theorem refQuote_any (s : ByteArray) (w : World) (hs : s.size ≤ 274877906944) :
    Calls Tryd.prog 18 #[.string s] w fun e w' => e = .returned (quoR (quoteL s.data.toList)) ∧ w' = w := by
  have HP := hide (fun W => plain_any s W (by omega))
  have HQL : Hid (quoteL s.data.toList = if s.data.toList.all isQ then some (34 :: (s.data.toList.flatMap escL ++ [34])) else none) := hide (by rw [quoteL])
  cases ha : s.data.toList.all isQ with
  | false =>
    rw [ha] at HP
    have HF : Hid (quoteL s.data.toList = none) := hide (by rw [unhide HQL, ha]; rfl)
    clear ha HQL
    go_enter Tryd.func18, Tryd.ntmps18
    go_wp2_with fail
    refine (unhide HP _).mono ?_
    rintro e w1 ⟨rfl, h1⟩
    subst h1
    go_wp2
    go_ret2
    exact ⟨by rw [unhide HF]; rfl, rfl⟩
  | true =>
    rw [ha] at HP
    have HF : Hid (quoteL s.data.toList = some (34 :: (s.data.toList.flatMap escL ++ [34]))) := hide (by rw [unhide HQL, ha]; rfl)
    clear ha HQL
    go_enter Tryd.func18, Tryd.ntmps18
    go_wp2_with fail
    refine (unhide HP _).mono ?_
    rintro e w1 ⟨rfl, h1⟩
    subst h1
    go_wp2
    go_loop [4, 5] (fun zo zi => ∃ (k : Nat) (O : ByteArray), zo = .string O ∧ zi = .int .i64 k ∧ k ≤ s.size ∧ O.size ≤ 2 * k + 1 ∧ Hid (O.data.toList = 34 :: (s.data.toList.take k).flatMap escL)) (fun _ zi => s.size - (intOf zi).toNat)
    case atStart => exact ⟨0, ⟨#[34]⟩, rfl, rfl, Nat.zero_le _, by decide, hide rfl⟩
    case round =>
      obtain ⟨k, O, rfl, rfl, hk, hO, HO⟩ := hrel
      have z1 : (ByteArray.mk #[92]).size = 1 := rfl
      have z2 : (ByteArray.mk #[34]).size = 1 := rfl
      by_cases hlt : k < s.size
      · have hlt1 : (k : Int) < (s.size : Int) := by omega
        have hlt2 : (k : Int) + 1 ≤ (s.size : Int) := by omega
        have hc := s[k].toNat_lt
        have hsl : ∀ W, (Instr.slice 9 (.string s) (some (.int .i64 (k : Int))) (some (.int .i64 ((k : Int) + 1))) none).run Tryd.prog W = .ok (.string (s.extract k (k + 1))) W := fun W => slice_km s k 1 (by omega) W
        obtain ⟨X, hX⟩ : ∃ X, X = s.extract k (k + 1) := ⟨_, rfl⟩
        have hXl : X.data.toList = [s[k]] := by
          rw [hX, toList_part, drop_byte s k hlt, show k + 1 - k = 1 by omega]; rfl
        have hXz : X.size = 1 := by rw [← sizeL, hXl]; rfl
        rw [← hX] at hsl
        have HET := hide (esc_take s k hlt)
        clear hX
        by_cases c34 : s[k] = 34 ∨ s[k] = 92
        · have HO2 : Hid ((O ++ ⟨#[92]⟩ ++ X).data.toList = 34 :: (s.data.toList.take (k + 1)).flatMap escL) := hide (by
            simp only [ByteArray.data_append, Array.toList_append]
            rw [unhide HO, hXl, unhide HET, escL, if_pos c34]; simp)
          have HZ2 : Hid ((O ++ ⟨#[92]⟩ ++ X).size ≤ 2 * (k + 1) + 1) := hide (by simp only [ByteArray.size_append]; omega)
          have e5 : (((s[k].toNat : Int) == 34) = true) ∨ (((s[k].toNat : Int) == 34) = false ∧ ((s[k].toNat : Int) == 92) = true) := by
            by_cases h : s[k] = 34
            · left; rw [h]; rfl
            · right
              refine ⟨?_, by rw [c34.resolve_left h]; rfl⟩
              rw [c34.resolve_left h]; rfl
          clear HET HO c34 hXl
          rcases e5 with e5 | ⟨e5, e6⟩
          · go_wp2
            go_round
            case rel => exact ⟨k + 1, _, rfl, by go_num, by omega, unhide HZ2, HO2⟩
            case measure => simp [intOf]; omega
          · go_wp2
            go_round
            case rel => exact ⟨k + 1, _, rfl, by go_num, by omega, unhide HZ2, HO2⟩
            case measure => simp [intOf]; omega
        · have n34 : ((s[k].toNat : Int) == 34) = false := by
            rw [beq_eq_false_iff_ne]; intro h
            exact c34 (Or.inl (UInt8.toNat_inj.1 (by have : (34 : UInt8).toNat = 34 := rfl; omega)))
          have n92 : ((s[k].toNat : Int) == 92) = false := by
            rw [beq_eq_false_iff_ne]; intro h
            exact c34 (Or.inr (UInt8.toNat_inj.1 (by have : (92 : UInt8).toNat = 92 := rfl; omega)))
          have HO2 : Hid ((O ++ X).data.toList = 34 :: (s.data.toList.take (k + 1)).flatMap escL) := hide (by
            simp only [ByteArray.data_append, Array.toList_append]
            rw [unhide HO, hXl, unhide HET, escL, if_neg c34]; simp)
          have HZ2 : Hid ((O ++ X).size ≤ 2 * (k + 1) + 1) := hide (by simp only [ByteArray.size_append]; omega)
          clear HET HO c34 hXl
          go_wp2
          go_round
          case rel => exact ⟨k + 1, _, rfl, by go_num, by omega, unhide HZ2, HO2⟩
          case measure => simp [intOf]; omega
      · have hlt1 : ¬ (k : Int) < (s.size : Int) := by omega
        have HF2 : Hid (quoR (quoteL s.data.toList) = .tuple #[.string (O ++ ⟨#[34]⟩), .int .i64 0]) := hide (by
          rw [unhide HF]
          show Value.tuple #[.string (bts _), .int .i64 0] = _
          refine congrArg (fun x => Value.tuple #[.string x, .int .i64 0]) (ext_list ?_)
          rw [toList_bts, ByteArray.data_append, Array.toList_append, unhide HO, List.take_of_length_le (by rw [sizeL]; omega)]; rfl)
        clear HO HF
        go_wp2
        go_ret2
        exact ⟨by rw [unhide HF2]; rfl, rfl⟩
end Go.Proofs.YtafegjbhaofgiaaDoor
