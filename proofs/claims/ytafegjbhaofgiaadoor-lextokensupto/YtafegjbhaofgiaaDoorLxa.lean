/-
  What strings.CutSuffix and TrimSuffix at one byte, and lex.announced, Announced, unended, mayTouch, isOfAtom and atom do, over this seat's program.
-/
import Derived.Test.YtafegjbhaofgiaaDoorWrb

import Derived.Test.YtafegjbhaofgiaaDoorLxb
import Derived.Test.YtafegjbhaofgiaaDoorShelf
set_option linter.unusedVariables false
namespace Go.Proofs.YtafegjbhaofgiaaDoor
open Go.RowKit Go.Proofs.Lx

theorem data_one (c : UInt8) : (ByteArray.mk #[c]).data.toList = [c] := rfl
theorem cutSuffix_any (s : ByteArray) (c : UInt8) (w : World) (hs : s.size ≤ 281474976710656) :
    Calls Tryd.prog 42 #[.string s, .string ⟨#[c]⟩] w fun e w' => e = .returned (.tuple #[.string (bts (trimE s.data.toList c)), .bool (decide (s.data.toList.getLast? = some c))]) ∧ w' = w := by
  have h := Tryd.strings_CutSuffix s ⟨#[c]⟩ w (by omega)
  rw [data_one, trimSuf, hasSuf] at h
  exact h
theorem trimSuffix_any (s : ByteArray) (c : UInt8) (w : World) (hs : s.size ≤ 281474976710656) :
    Calls Tryd.prog 22 #[.string s, .string ⟨#[c]⟩] w fun e w' => e = .returned (.string (bts (trimE s.data.toList c))) ∧ w' = w := by
  have h := Tryd.strings_TrimSuffix s ⟨#[c]⟩ w (by omega)
  rw [data_one, trimSuf] at h
  exact h

/-- A number, or none, as Go tells it. -/
def annV (o : Option Nat) : Value := match o with
  | some n => .tuple #[.int .i64 (n : Int), .bool true]
  | none => .tuple #[.int .i64 0, .bool false]
theorem ret_ann {o o' : Option Nat} (h : o = o') : Ending.returned (annV o) = .returned (annV o') := by rw [h]
theorem is_empty (s : ByteArray) : s.toList.isEmpty = decide (s.size = 0) := by
  rw [ByteArray.toList_eq, ← sizeL]
  cases s.data.toList <;> simp
theorem head_byte (D : ByteArray) (h : 0 < D.size) : D.data.toList.head? = some D[0] := by
  have := drop_byte D 0 h
  rw [List.drop_zero] at this
  rw [this]; rfl

set_option maxHeartbeats 1000000 in
set_option maxRecDepth 100000 in
theorem announced_any (s : ByteArray) (w : World) (h1 : 1 ≤ s.size) (hs : s.size ≤ 281474976710656) :
    Calls Tryd.prog 26 #[.string s] w fun e w' => e = .returned (annV (annB (s.data.toList.drop 1))) ∧ w' = w := by
  obtain ⟨r, hr⟩ : ∃ r, r = s.extract 1 s.size := ⟨_, rfl⟩
  have hsl : ∀ W, (Instr.slice 9 (.string s) (some (.int .i64 1)) none none).run Tryd.prog W = .ok (.string r) W := fun W => by rw [hr]; exact slice_from s 1 1 rfl h1 W
  have hrl : r.data.toList = s.data.toList.drop 1 := by rw [hr, toList_from]
  have hrz : r.size ≤ 281474976710656 := by rw [hr, ByteArray.size_extract]; omega
  rw [← hrl]
  have hz1 : (trimE r.data.toList 125).length ≤ r.size := by rw [← sizeL]; exact trimE_len _ _
  have HC := hide (fun W => cutSuffix_any r 125 W hrz)
  have HT := hide (fun W => trimSuffix_any (bts (trimE r.data.toList 125)) 43 W (by rw [size_bts]; omega))
  rw [toList_bts] at HT
  clear hr hrl h1
  by_cases his : r.data.toList.getLast? = some 125
  · have hA : annB r.data.toList = numD (trimE r.data.toList.dropLast 43) := by rw [annB, if_pos his]
    have hd1 : trimE r.data.toList 125 = r.data.toList.dropLast := by rw [trimE, if_pos his]
    rw [decide_eq_true his] at HC
    rw [hA]
    rw [hd1] at HC HT
    generalize bts r.data.toList.dropLast = d1 at HC HT
    obtain ⟨D, hD⟩ : ∃ D, D = bts (trimE r.data.toList.dropLast 43) := ⟨_, rfl⟩
    have hDl : D.data.toList = trimE r.data.toList.dropLast 43 := by rw [hD, toList_bts]
    rw [← hD] at HT
    rw [← hDl]
    have hDz := sizeL D
    clear hA hd1 his hz1 hrz hD hDl
    have HE := hide (is_empty D)
    by_cases a0 : D.size = 0
    · have e0 : D.toList.isEmpty = true := by rw [unhide HE]; exact decide_eq_true a0
      have HF : Hid (numD D.data.toList = none) := hide (by rw [numD, if_pos (Or.inl (List.length_eq_zero_iff.1 (by omega)))])
      clear hDz a0 HE
      go_enter Tryd.func26, Tryd.ntmps26
      go_wp2_with fail
      refine (unhide HC _).mono ?_
      rintro e w1 ⟨rfl, rfl⟩
      go_wp2_with fail
      refine (unhide HT _).mono ?_
      rintro e w1 ⟨rfl, rfl⟩
      go_wp2
      go_ret2
      exact ⟨by rw [unhide HF]; rfl, rfl⟩
    · have e0 : D.toList.isEmpty = false := by rw [unhide HE]; exact decide_eq_false a0
      by_cases a9 : 9 < D.size
      · have HF : Hid (numD D.data.toList = none) := hide (by rw [numD, if_pos (Or.inr (Or.inl (by omega)))])
        have e9 : 9 < (D.size : Int) := by omega
        clear hDz a0 HE
        go_enter Tryd.func26, Tryd.ntmps26
        go_wp2_with fail
        refine (unhide HC _).mono ?_
        rintro e w1 ⟨rfl, rfl⟩
        go_wp2_with fail
        refine (unhide HT _).mono ?_
        rintro e w1 ⟨rfl, rfl⟩
        go_wp2
        go_ret2
        exact ⟨by rw [unhide HF]; rfl, rfl⟩
      · have e9 : ¬ 9 < (D.size : Int) := by omega
        have hp0 : 0 < D.size := by omega
        have hhd := head_byte D hp0
        have hne : D.data.toList ≠ [] := by intro h; rw [h] at hDz; simp at hDz; omega
        have hbq : (D.toList == [48]) = decide (D.data.toList = [48]) := by rw [ByteArray.toList_eq, Bool.eq_iff_iff]; simp
        have hdig : Hid (¬ (D.data.toList.head? = some 48 ∧ D.data.toList ≠ [48]) → numD D.data.toList = digs D.data.toList 0) := hide (fun hn => by
          rw [numD, if_neg]
          rintro (h | h | h)
          · exact hne h
          · omega
          · exact hn h)
        have hc0 := D[0].toNat_lt
        by_cases a48 : D[0] = 48 ∧ D.data.toList ≠ [48]
        · have HF : Hid (numD D.data.toList = none) := hide (by rw [numD, if_pos (Or.inr (Or.inr ⟨by rw [hhd, a48.1], a48.2⟩))])
          have b1 : ((D[0].toNat : Int) == 48) = true := by rw [a48.1]; rfl
          have b2 : (D.toList == [48]) = false := by rw [hbq]; exact decide_eq_false a48.2
          clear hhd hne hbq hdig hDz a0 HE a48
          go_enter Tryd.func26, Tryd.ntmps26
          go_wp2_with fail
          refine (unhide HC _).mono ?_
          rintro e w1 ⟨rfl, rfl⟩
          go_wp2_with fail
          refine (unhide HT _).mono ?_
          rintro e w1 ⟨rfl, rfl⟩
          go_wp2
          go_ret2
          exact ⟨by rw [unhide HF]; rfl, rfl⟩
        · have HN := hide (unhide hdig (fun h => a48 ⟨by rw [hhd] at h; exact Option.some.inj h.1, h.2⟩))
          have key : ∀ (b : Bool), (b = true → (D.toList == [48]) = true) → ((D[0].toNat : Int) == 48) = b → Calls Tryd.prog 26 #[.string s] w fun e w' => e = .returned (annV (numD D.data.toList)) ∧ w' = w := by
            intro b hb1 hb
            have hsz9 : D.size ≤ 9 := by omega
            clear hhd hne hbq hdig hDz a0 HE a48
            cases b with
            | true =>
              have b2 := hb1 rfl
              clear hb1
              go_enter Tryd.func26, Tryd.ntmps26
              go_wp2_with fail
              refine (unhide HC _).mono ?_
              rintro e w1 ⟨rfl, rfl⟩
              go_wp2_with fail
              refine (unhide HT _).mono ?_
              rintro e w1 ⟨rfl, rfl⟩
              go_wp2
              go_loop [6, 38] (fun zm zi => ∃ k n : Nat, zm = .int .i64 n ∧ zi = .int .i64 k ∧ k ≤ D.size ∧ n ≤ 999999999 ∧ Hid (n < 10 ^ k) ∧ Hid (digs D.data.toList 0 = digs (D.data.toList.drop k) n)) (fun _ zi => D.size - (intOf zi).toNat)
              case atStart => exact ⟨0, 0, rfl, rfl, Nat.zero_le _, by omega, hide (by decide), hide rfl⟩
              case round =>
                obtain ⟨k, n, rfl, rfl, hk, hn, HB, HR⟩ := hrel
                by_cases hlt : k < D.size
                · have hlt' : (k : Int) < (D.size : Int) := by omega
                  have hc := D[k].toNat_lt
                  have hd := unhide HR
                  rw [drop_byte D k hlt, digs] at hd
                  by_cases l48 : D[k].toNat < 48
                  · have e1 : (D[k].toNat : Int) < 48 := by omega
                    rw [if_neg (by omega)] at hd
                    have HF := hide ((unhide HN).trans hd)
                    clear hd HR HB
                    go_wp2
                    go_ret2
                    exact ⟨by rw [unhide HF]; rfl, rfl⟩
                  · have e1 : ¬ (D[k].toNat : Int) < 48 := by omega
                    by_cases g57 : 57 < D[k].toNat
                    · have e2 : 57 < (D[k].toNat : Int) := by omega
                      rw [if_neg (by omega)] at hd
                      have HF := hide ((unhide HN).trans hd)
                      clear hd HR HB
                      go_wp2
                      go_ret2
                      exact ⟨by rw [unhide HF]; rfl, rfl⟩
                    · have e2 : ¬ 57 < (D[k].toNat : Int) := by omega
                      rw [if_pos (by omega)] at hd
                      have HR2 := hide hd
                      obtain ⟨y, hy⟩ : ∃ y, y = D[k].toNat - 48 := ⟨_, rfl⟩
                      have hy9 : y ≤ 9 := by omega
                      have hyi : (D[k].toNat : Int) = (y : Int) + 48 := by omega
                      rw [← hy] at HR2
                      have HB2 : Hid (10 * n + y < 10 ^ (k + 1)) := hide (by
                        have := unhide HB
                        rw [Nat.pow_succ]; omega)
                      have hn2 : 10 * n + y ≤ 999999999 := by
                        have h1 := unhide HB2
                        have h2 : 10 ^ (k + 1) ≤ 10 ^ 9 := Nat.pow_le_pow_right (by decide) (by omega)
                        omega
                      clear hd HR HB hy
                      go_wp2
                      go_round
                      case rel => exact ⟨k + 1, 10 * n + y, by first | (rw [hyi]; go_num) | go_num, by go_num, by omega, hn2, HB2, HR2⟩
                      case measure => simp [intOf]; omega
                · have hlt' : ¬ (k : Int) < (D.size : Int) := by omega
                  have hd := unhide HR
                  rw [drop_end D (by omega), digs] at hd
                  have HF := hide ((unhide HN).trans hd)
                  clear hd HR HB
                  go_wp2
                  go_ret2
                  exact ⟨by rw [unhide HF]; rfl, rfl⟩
            | false =>
              clear hb1
              go_enter Tryd.func26, Tryd.ntmps26
              go_wp2_with fail
              refine (unhide HC _).mono ?_
              rintro e w1 ⟨rfl, rfl⟩
              go_wp2_with fail
              refine (unhide HT _).mono ?_
              rintro e w1 ⟨rfl, rfl⟩
              go_wp2
              go_loop [6, 38] (fun zm zi => ∃ k n : Nat, zm = .int .i64 n ∧ zi = .int .i64 k ∧ k ≤ D.size ∧ n ≤ 999999999 ∧ Hid (n < 10 ^ k) ∧ Hid (digs D.data.toList 0 = digs (D.data.toList.drop k) n)) (fun _ zi => D.size - (intOf zi).toNat)
              case atStart => exact ⟨0, 0, rfl, rfl, Nat.zero_le _, by omega, hide (by decide), hide rfl⟩
              case round =>
                obtain ⟨k, n, rfl, rfl, hk, hn, HB, HR⟩ := hrel
                by_cases hlt : k < D.size
                · have hlt' : (k : Int) < (D.size : Int) := by omega
                  have hc := D[k].toNat_lt
                  have hd := unhide HR
                  rw [drop_byte D k hlt, digs] at hd
                  by_cases l48 : D[k].toNat < 48
                  · have e1 : (D[k].toNat : Int) < 48 := by omega
                    rw [if_neg (by omega)] at hd
                    have HF := hide ((unhide HN).trans hd)
                    clear hd HR HB
                    go_wp2
                    go_ret2
                    exact ⟨by rw [unhide HF]; rfl, rfl⟩
                  · have e1 : ¬ (D[k].toNat : Int) < 48 := by omega
                    by_cases g57 : 57 < D[k].toNat
                    · have e2 : 57 < (D[k].toNat : Int) := by omega
                      rw [if_neg (by omega)] at hd
                      have HF := hide ((unhide HN).trans hd)
                      clear hd HR HB
                      go_wp2
                      go_ret2
                      exact ⟨by rw [unhide HF]; rfl, rfl⟩
                    · have e2 : ¬ 57 < (D[k].toNat : Int) := by omega
                      rw [if_pos (by omega)] at hd
                      have HR2 := hide hd
                      obtain ⟨y, hy⟩ : ∃ y, y = D[k].toNat - 48 := ⟨_, rfl⟩
                      have hy9 : y ≤ 9 := by omega
                      have hyi : (D[k].toNat : Int) = (y : Int) + 48 := by omega
                      rw [← hy] at HR2
                      have HB2 : Hid (10 * n + y < 10 ^ (k + 1)) := hide (by
                        have := unhide HB
                        rw [Nat.pow_succ]; omega)
                      have hn2 : 10 * n + y ≤ 999999999 := by
                        have h1 := unhide HB2
                        have h2 : 10 ^ (k + 1) ≤ 10 ^ 9 := Nat.pow_le_pow_right (by decide) (by omega)
                        omega
                      clear hd HR HB hy
                      go_wp2
                      go_round
                      case rel => exact ⟨k + 1, 10 * n + y, by first | (rw [hyi]; go_num) | go_num, by go_num, by omega, hn2, HB2, HR2⟩
                      case measure => simp [intOf]; omega
                · have hlt' : ¬ (k : Int) < (D.size : Int) := by omega
                  have hd := unhide HR
                  rw [drop_end D (by omega), digs] at hd
                  have HF := hide ((unhide HN).trans hd)
                  clear hd HR HB
                  go_wp2
                  go_ret2
                  exact ⟨by rw [unhide HF]; rfl, rfl⟩
          by_cases c48 : D[0] = 48
          · refine key true (fun _ => ?_) (by rw [c48]; rfl)
            rw [hbq]
            by_cases hh : D.data.toList = [48]
            · exact decide_eq_true hh
            · exact absurd ⟨c48, hh⟩ a48
          · refine key false (fun h => by cases h) ?_
            rw [beq_eq_false_iff_ne]
            intro h
            have : D[0].toNat = 48 := by omega
            exact c48 (UInt8.toNat_inj.1 (by rw [this]; rfl))
  · have HF : Hid (annB r.data.toList = none) := hide (by rw [annB, if_neg his])
    rw [decide_eq_false his] at HC
    generalize bts (trimE (trimE r.data.toList 125) 43) = d2 at HT
    generalize bts (trimE r.data.toList 125) = d1 at HC HT
    clear hz1 hrz his
    go_enter Tryd.func26, Tryd.ntmps26
    go_wp2_with fail
    refine (unhide HC _).mono ?_
    rintro e w1 ⟨rfl, rfl⟩
    go_wp2_with fail
    refine (unhide HT _).mono ?_
    rintro e w1 ⟨rfl, rfl⟩
    go_wp2
    go_ret2
    exact ⟨by rw [unhide HF]; rfl, rfl⟩

theorem lastIdx_list (s : ByteArray) : ∀ k, k ≤ s.size → match lastB (s.data.toList.take k) with
    | none => Lib.lastIdx s 123 k = -1
    | some q => ∃ i : Nat, Lib.lastIdx s 123 k = i ∧ i < k ∧ q = (s.data.toList.take k).drop (i + 1)
  | 0, _ => by simp [lastB, Lib.lastIdx]
  | k + 1, hk => by
    have ih := lastIdx_list s k (by omega)
    have hb : s.data[k]! = s[k] := by
      rw [getElem!_pos s.data k (by have : s.data.size = s.size := rfl; omega)]; rfl
    have htk := take_byte s k (by omega)
    have hlen : (s.data.toList.take k).length = k := by rw [List.length_take, sizeL]; omega
    by_cases h : s[k] = 123
    · have e1 : lastB (s.data.toList.take (k + 1)) = some [] := by rw [htk, h]; exact lastB_of (by simp) _
      rw [e1]
      simp only
      refine ⟨k, Lib.lastIdx_hit s 123 k (by rw [hb, h]; rfl), by omega, ?_⟩
      rw [List.drop_of_length_le (by rw [List.length_take, sizeL]; omega)]
    · have e0 : Lib.lastIdx s 123 (k + 1) = Lib.lastIdx s 123 k := Lib.lastIdx_miss s 123 k (by
        rw [hb]; intro hh; exact h (UInt8.toNat_inj.1 (by have : (123 : UInt8).toNat = 123 := rfl; omega)))
      rw [e0]
      cases hl : lastB (s.data.toList.take k) with
      | none =>
        rw [hl] at ih
        have : lastB (s.data.toList.take (k + 1)) = none := by
          rw [htk]
          apply lastB_out
          rw [List.mem_append, List.mem_singleton]
          rintro (h' | h')
          · exact lastB_none hl h'
          · exact h h'.symm
        rw [this]
        exact ih
      | some q =>
        rw [hl] at ih
        obtain ⟨i, h1, h2, h3⟩ := ih
        obtain ⟨p, hp, hq⟩ := lastB_some hl
        have : lastB (s.data.toList.take (k + 1)) = some (q ++ [s[k]]) := by
          rw [htk, hp, List.append_assoc, List.cons_append]
          refine lastB_of ?_ p
          rw [List.mem_append, List.mem_singleton]
          rintro (h' | h')
          · exact hq h'
          · exact h h'.symm
        rw [this]
        refine ⟨i, h1, by omega, ?_⟩
        rw [htk, List.drop_append_of_le_length (by omega), h3]

set_option maxHeartbeats 1000000 in
/-- lex.Announced. -/
theorem annL_any (s : ByteArray) (w : World) (hs : s.size ≤ 281474976710656) :
    Calls Tryd.prog 10 #[.string s] w fun e w' => e = .returned (annV (annL s.data.toList)) ∧ w' = w := by
  have HL := hide (fun W => Tryd.strings_LastIndexByte s 123 (by omega) W)
  have hix := lastIdx_list s s.size (Nat.le_refl _)
  rw [List.take_of_length_le (by rw [sizeL]; omega)] at hix
  unfold Lib.lastIndexByte at HL
  cases hl : lastB s.data.toList with
  | none =>
    rw [hl] at hix
    simp only at hix
    rw [hix] at HL
    have HF : Hid (annL s.data.toList = none) := hide (by rw [annL, hl]; rfl)
    clear hix hl
    go_enter Tryd.func10, Tryd.ntmps10
    go_wp2_with fail
    refine (unhide HL _).mono ?_
    rintro e w1 ⟨rfl, rfl⟩
    go_wp2
    go_ret2
    exact ⟨by rw [unhide HF]; rfl, rfl⟩
  | some q =>
    rw [hl] at hix
    obtain ⟨i, h1, h2, h3⟩ := hix
    rw [h1] at HL
    obtain ⟨r, hr⟩ : ∃ r, r = s.extract i s.size := ⟨_, rfl⟩
    have hsl : ∀ W, (Instr.slice 9 (.string s) (some (.int .i64 (i : Int))) none none).run Tryd.prog W = .ok (.string r) W := fun W => by rw [hr]; exact slice_from s i i rfl (by omega) W
    have hrz : r.size = s.size - i := by rw [hr, ByteArray.size_extract]; omega
    have HA := hide (fun W => announced_any r W (by omega) (by omega))
    have HF : Hid (annB (r.data.toList.drop 1) = annL s.data.toList) := hide (by rw [annL, hl, hr, toList_from, List.drop_drop, Option.bind_some, h3])
    rw [unhide HF] at HA
    have hlt : ¬ (i : Int) < 0 := by omega
    generalize annL s.data.toList = o at HA ⊢
    clear HF h1 h2 h3 hl hr hrz
    cases o with
    | none =>
      go_enter Tryd.func10, Tryd.ntmps10
      go_wp2_with fail
      refine (unhide HL _).mono ?_
      rintro e w1 ⟨rfl, rfl⟩
      go_wp2_with fail
      refine (unhide HA _).mono ?_
      rintro e w1 ⟨rfl, rfl⟩
      simp only [annV]
      go_wp2
      go_ret2
      exact ⟨rfl, rfl⟩
    | some n =>
      go_enter Tryd.func10, Tryd.ntmps10
      go_wp2_with fail
      refine (unhide HL _).mono ?_
      rintro e w1 ⟨rfl, rfl⟩
      go_wp2_with fail
      refine (unhide HA _).mono ?_
      rintro e w1 ⟨rfl, rfl⟩
      simp only [annV]
      go_wp2
      go_ret2
      exact ⟨rfl, rfl⟩
end Go.Proofs.YtafegjbhaofgiaaDoor
