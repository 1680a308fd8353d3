/-
  What strings.CutSuffix and TrimSuffix at one byte, and lex.announced, Announced, unended, mayTouch, isOfAtom and atom do, over this seat's program.
-/
import Derived.Test.YtihgmpebpkjmkaaGreatDoorWrb
import Derived.Test.YtihgmpebpkjmkaaGreatDoorBnd8
import Derived.Test.YtihgmpebpkjmkaaGreatDoorShelf
import Derived.Test.YtihgmpebpkjmkaaGreatDoorStr
import Derived.Test.YtihgmpebpkjmkaaGreatDoorBnd2
import Derived.BigCall
import Derived.Laws.BitsAllLaws
import Derived.ScopeJumps
import Derived.WalkMore
set_option linter.unusedVariables false
namespace Go.Proofs.YtihgmpebpkjmkaaGreatDoor
open Go.RowKit Go.Proofs.Lx

theorem data_one (c : UInt8) : (ByteArray.mk #[c]).data.toList = [c] := rfl
theorem cutSuffix_any (s : ByteArray) (c : UInt8) (w : World) (hs : s.size ≤ 281474976710656) :
    Calls Tryz.prog 85 #[.string s, .string ⟨#[c]⟩] w fun e w' => e = .returned (.tuple #[.string (bts (trimE s.data.toList c)), .bool (decide (s.data.toList.getLast? = some c))]) ∧ w' = w := by
  have h := Tryz.strings_CutSuffix s ⟨#[c]⟩ w (by omega)
  rw [data_one, trimSuf, hasSuf] at h
  exact h
theorem trimSuffix_any (s : ByteArray) (c : UInt8) (w : World) (hs : s.size ≤ 281474976710656) :
    Calls Tryz.prog 70 #[.string s, .string ⟨#[c]⟩] w fun e w' => e = .returned (.string (bts (trimE s.data.toList c))) ∧ w' = w := by
  have h := Tryz.strings_TrimSuffix s ⟨#[c]⟩ w (by omega)
  rw [data_one, trimSuf] at h
  exact h

/-- A number, or none, as Go tells it. -/
def annV (o : Option Nat) : Value := match o with
  | some n => .tuple #[.int .i64 (n : Int), .bool true]
  | none => .tuple #[.int .i64 0, .bool false]
theorem ret_ann {o o' : Option Nat} (h : o = o') : Ending.returned (annV o) = .returned (annV o') := by rw [h]
theorem is_empty (s : ByteArray) : s.toList.isEmpty = decide (s.size = 0) := by
  rw [ByteArray.toList_eq, ← sizeL]
  cases s.data.toList <;> simp
theorem head_byte (D : ByteArray) (h : 0 < D.size) : D.data.toList.head? = some D[0] := by
  have := drop_byte D 0 h
  rw [List.drop_zero] at this
  rw [this]; rfl

set_option maxHeartbeats 1000000 in
set_option maxRecDepth 100000 in
theorem announced_any (s : ByteArray) (w : World) (h1 : 1 ≤ s.size) (hs : s.size ≤ 281474976710656) :
    Calls Tryz.prog 69 #[.string s] w fun e w' => e = .returned (annV (annB (s.data.toList.drop 1))) ∧ w' = w := by
  obtain ⟨r, hr⟩ : ∃ r, r = s.extract 1 s.size := ⟨_, rfl⟩
  have hsl : ∀ W, (Instr.slice 9 (.string s) (some (.int .i64 1)) none none).run Tryz.prog W = .ok (.string r) W := fun W => by rw [hr]; exact slice_from s 1 1 rfl h1 W
  have hrl : r.data.toList = s.data.toList.drop 1 := by rw [hr, toList_from]
  have hrz : r.size ≤ 281474976710656 := by rw [hr, ByteArray.size_extract]; omega
  rw [← hrl]
  have hz1 : (trimE r.data.toList 125).length ≤ r.size := by rw [← sizeL]; exact trimE_len _ _
  have HC := hide (fun W => cutSuffix_any r 125 W hrz)
  have HT := hide (fun W => trimSuffix_any (bts (trimE r.data.toList 125)) 43 W (by rw [size_bts]; omega))
  rw [toList_bts] at HT
  clear hr hrl h1
  by_cases his : r.data.toList.getLast? = some 125
  · have hA : annB r.data.toList = numD (trimE r.data.toList.dropLast 43) := by rw [annB, if_pos his]
    have hd1 : trimE r.data.toList 125 = r.data.toList.dropLast := by rw [trimE, if_pos his]
    rw [decide_eq_true his] at HC
    rw [hA]
    rw [hd1] at HC HT
    generalize bts r.data.toList.dropLast = d1 at HC HT
    obtain ⟨D, hD⟩ : ∃ D, D = bts (trimE r.data.toList.dropLast 43) := ⟨_, rfl⟩
    have hDl : D.data.toList = trimE r.data.toList.dropLast 43 := by rw [hD, toList_bts]
    rw [← hD] at HT
    rw [← hDl]
    have hDz := sizeL D
    clear hA hd1 his hz1 hrz hD hDl
    have HE := hide (is_empty D)
    by_cases a0 : D.size = 0
    · have e0 : D.toList.isEmpty = true := by rw [unhide HE]; exact decide_eq_true a0
      have HF : Hid (numD D.data.toList = none) := hide (by rw [numD, if_pos (Or.inl (List.length_eq_zero_iff.1 (by omega)))])
      clear hDz a0 HE
      go_enter Tryz.func69, Tryz.ntmps69
      go_wp2_with fail
      refine (unhide HC _).mono ?_
      rintro e w1 ⟨rfl, rfl⟩
      go_wp2_with fail
      refine (unhide HT _).mono ?_
      rintro e w1 ⟨rfl, rfl⟩
      go_wp2
      go_ret2
      exact ⟨by rw [unhide HF]; rfl, rfl⟩
    · have e0 : D.toList.isEmpty = false := by rw [unhide HE]; exact decide_eq_false a0
      by_cases a9 : 9 < D.size
      · have HF : Hid (numD D.data.toList = none) := hide (by rw [numD, if_pos (Or.inr (Or.inl (by omega)))])
        have e9 : 9 < (D.size : Int) := by omega
        clear hDz a0 HE
        go_enter Tryz.func69, Tryz.ntmps69
        go_wp2_with fail
        refine (unhide HC _).mono ?_
        rintro e w1 ⟨rfl, rfl⟩
        go_wp2_with fail
        refine (unhide HT _).mono ?_
        rintro e w1 ⟨rfl, rfl⟩
        go_wp2
        go_ret2
        exact ⟨by rw [unhide HF]; rfl, rfl⟩
      · have e9 : ¬ 9 < (D.size : Int) := by omega
        have hp0 : 0 < D.size := by omega
        have hhd := head_byte D hp0
        have hne : D.data.toList ≠ [] := by intro h; rw [h] at hDz; simp at hDz; omega
        have hbq : (D.toList == [48]) = decide (D.data.toList = [48]) := by rw [ByteArray.toList_eq, Bool.eq_iff_iff]; simp
        have hdig : Hid (¬ (D.data.toList.head? = some 48 ∧ D.data.toList ≠ [48]) → numD D.data.toList = digs D.data.toList 0) := hide (fun hn => by
          rw [numD, if_neg]
          rintro (h | h | h)
          · exact hne h
          · omega
          · exact hn h)
        have hc0 := D[0].toNat_lt
        by_cases a48 : D[0] = 48 ∧ D.data.toList ≠ [48]
        · have HF : Hid (numD D.data.toList = none) := hide (by rw [numD, if_pos (Or.inr (Or.inr ⟨by rw [hhd, a48.1], a48.2⟩))])
          have b1 : ((D[0].toNat : Int) == 48) = true := by rw [a48.1]; rfl
          have b2 : (D.toList == [48]) = false := by rw [hbq]; exact decide_eq_false a48.2
          clear hhd hne hbq hdig hDz a0 HE a48
          go_enter Tryz.func69, Tryz.ntmps69
          go_wp2_with fail
          refine (unhide HC _).mono ?_
          rintro e w1 ⟨rfl, rfl⟩
          go_wp2_with fail
          refine (unhide HT _).mono ?_
          rintro e w1 ⟨rfl, rfl⟩
          go_wp2
          go_ret2
          exact ⟨by rw [unhide HF]; rfl, rfl⟩
        · have HN := hide (unhide hdig (fun h => a48 ⟨by rw [hhd] at h; exact Option.some.inj h.1, h.2⟩))
          have key : ∀ (b : Bool), (b = true → (D.toList == [48]) = true) → ((D[0].toNat : Int) == 48) = b → Calls Tryz.prog 69 #[.string s] w fun e w' => e = .returned (annV (numD D.data.toList)) ∧ w' = w := by
            intro b hb1 hb
            have hsz9 : D.size ≤ 9 := by omega
            clear hhd hne hbq hdig hDz a0 HE a48
            cases b with
            | true =>
              have b2 := hb1 rfl
              clear hb1
              go_enter Tryz.func69, Tryz.ntmps69
              go_wp2_with fail
              refine (unhide HC _).mono ?_
              rintro e w1 ⟨rfl, rfl⟩
              go_wp2_with fail
              refine (unhide HT _).mono ?_
              rintro e w1 ⟨rfl, rfl⟩
              go_wp2
              go_loop [6, 38] (fun zm zi => ∃ k n : Nat, zm = .int .i64 n ∧ zi = .int .i64 k ∧ k ≤ D.size ∧ n ≤ 999999999 ∧ Hid (n < 10 ^ k) ∧ Hid (digs D.data.toList 0 = digs (D.data.toList.drop k) n)) (fun _ zi => D.size - (intOf zi).toNat)
              case atStart => exact ⟨0, 0, rfl, rfl, Nat.zero_le _, by omega, hide (by decide), hide rfl⟩
              case round =>
                obtain ⟨k, n, rfl, rfl, hk, hn, HB, HR⟩ := hrel
                by_cases hlt : k < D.size
                · have hlt' : (k : Int) < (D.size : Int) := by omega
                  have hc := D[k].toNat_lt
                  have hd := unhide HR
                  rw [drop_byte D k hlt, digs] at hd
                  by_cases l48 : D[k].toNat < 48
                  · have e1 : (D[k].toNat : Int) < 48 := by omega
                    rw [if_neg (by omega)] at hd
                    have HF := hide ((unhide HN).trans hd)
                    clear hd HR HB
                    go_wp2
                    go_ret2
                    exact ⟨by rw [unhide HF]; rfl, rfl⟩
                  · have e1 : ¬ (D[k].toNat : Int) < 48 := by omega
                    by_cases g57 : 57 < D[k].toNat
                    · have e2 : 57 < (D[k].toNat : Int) := by omega
                      rw [if_neg (by omega)] at hd
                      have HF := hide ((unhide HN).trans hd)
                      clear hd HR HB
                      go_wp2
                      go_ret2
                      exact ⟨by rw [unhide HF]; rfl, rfl⟩
                    · have e2 : ¬ 57 < (D[k].toNat : Int) := by omega
                      rw [if_pos (by omega)] at hd
                      have HR2 := hide hd
                      obtain ⟨y, hy⟩ : ∃ y, y = D[k].toNat - 48 := ⟨_, rfl⟩
                      have hy9 : y ≤ 9 := by omega
                      have hyi : (D[k].toNat : Int) = (y : Int) + 48 := by omega
                      rw [← hy] at HR2
                      have HB2 : Hid (10 * n + y < 10 ^ (k + 1)) := hide (by
                        have := unhide HB
                        rw [Nat.pow_succ]; omega)
                      have hn2 : 10 * n + y ≤ 999999999 := by
                        have h1 := unhide HB2
                        have h2 : 10 ^ (k + 1) ≤ 10 ^ 9 := Nat.pow_le_pow_right (by decide) (by omega)
                        omega
                      clear hd HR HB hy
                      go_wp2
                      go_round
                      case rel => exact ⟨k + 1, 10 * n + y, by first | (rw [hyi]; go_num) | go_num, by go_num, by omega, hn2, HB2, HR2⟩
                      case measure => simp [intOf]; omega
                · have hlt' : ¬ (k : Int) < (D.size : Int) := by omega
                  have hd := unhide HR
                  rw [drop_end D (by omega), digs] at hd
                  have HF := hide ((unhide HN).trans hd)
                  clear hd HR HB
                  go_wp2
                  go_ret2
                  exact ⟨by rw [unhide HF]; rfl, rfl⟩
            | false =>
              clear hb1
              go_enter Tryz.func69, Tryz.ntmps69
              go_wp2_with fail
              refine (unhide HC _).mono ?_
              rintro e w1 ⟨rfl, rfl⟩
              go_wp2_with fail
              refine (unhide HT _).mono ?_
              rintro e w1 ⟨rfl, rfl⟩
              go_wp2
              go_loop [6, 38] (fun zm zi => ∃ k n : Nat, zm = .int .i64 n ∧ zi = .int .i64 k ∧ k ≤ D.size ∧ n ≤ 999999999 ∧ Hid (n < 10 ^ k) ∧ Hid (digs D.data.toList 0 = digs (D.data.toList.drop k) n)) (fun _ zi => D.size - (intOf zi).toNat)
              case atStart => exact ⟨0, 0, rfl, rfl, Nat.zero_le _, by omega, hide (by decide), hide rfl⟩
              case round =>
                obtain ⟨k, n, rfl, rfl, hk, hn, HB, HR⟩ := hrel
                by_cases hlt : k < D.size
                · have hlt' : (k : Int) < (D.size : Int) := by omega
                  have hc := D[k].toNat_lt
                  have hd := unhide HR
                  rw [drop_byte D k hlt, digs] at hd
                  by_cases l48 : D[k].toNat < 48
                  · have e1 : (D[k].toNat : Int) < 48 := by omega
                    rw [if_neg (by omega)] at hd
                    have HF := hide ((unhide HN).trans hd)
                    clear hd HR HB
                    go_wp2
                    go_ret2
                    exact ⟨by rw [unhide HF]; rfl, rfl⟩
                  · have e1 : ¬ (D[k].toNat : Int) < 48 := by omega
                    by_cases g57 : 57 < D[k].toNat
                    · have e2 : 57 < (D[k].toNat : Int) := by omega
                      rw [if_neg (by omega)] at hd
                      have HF := hide ((unhide HN).trans hd)
                      clear hd HR HB
                      go_wp2
                      go_ret2
                      exact ⟨by rw [unhide HF]; rfl, rfl⟩
                    · have e2 : ¬ 57 < (D[k].toNat : Int) := by omega
                      rw [if_pos (by omega)] at hd
                      have HR2 := hide hd
                      obtain ⟨y, hy⟩ : ∃ y, y = D[k].toNat - 48 := ⟨_, rfl⟩
                      have hy9 : y ≤ 9 := by omega
                      have hyi : (D[k].toNat : Int) = (y : Int) + 48 := by omega
                      rw [← hy] at HR2
                      have HB2 : Hid (10 * n + y < 10 ^ (k + 1)) := hide (by
                        have := unhide HB
                        rw [Nat.pow_succ]; omega)
                      have hn2 : 10 * n + y ≤ 999999999 := by
                        have h1 := unhide HB2
                        have h2 : 10 ^ (k + 1) ≤ 10 ^ 9 := Nat.pow_le_pow_right (by decide) (by omega)
                        omega
                      clear hd HR HB hy
                      go_wp2
                      go_round
                      case rel => exact ⟨k + 1, 10 * n + y, by first | (rw [hyi]; go_num) | go_num, by go_num, by omega, hn2, HB2, HR2⟩
                      case measure => simp [intOf]; omega
                · have hlt' : ¬ (k : Int) < (D.size : Int) := by omega
                  have hd := unhide HR
                  rw [drop_end D (by omega), digs] at hd
                  have HF := hide ((unhide HN).trans hd)
                  clear hd HR HB
                  go_wp2
                  go_ret2
                  exact ⟨by rw [unhide HF]; rfl, rfl⟩
          by_cases c48 : D[0] = 48
          · refine key true (fun _ => ?_) (by rw [c48]; rfl)
            rw [hbq]
            by_cases hh : D.data.toList = [48]
            · exact decide_eq_true hh
            · exact absurd ⟨c48, hh⟩ a48
          · refine key false (fun h => by cases h) ?_
            rw [beq_eq_false_iff_ne]
            intro h
            have : D[0].toNat = 48 := by omega
            exact c48 (UInt8.toNat_inj.1 (by rw [this]; rfl))
  · have HF : Hid (annB r.data.toList = none) := hide (by rw [annB, if_neg his])
    rw [decide_eq_false his] at HC
    generalize bts (trimE (trimE r.data.toList 125) 43) = d2 at HT
    generalize bts (trimE r.data.toList 125) = d1 at HC HT
    clear hz1 hrz his
    go_enter Tryz.func69, Tryz.ntmps69
    go_wp2_with fail
    refine (unhide HC _).mono ?_
    rintro e w1 ⟨rfl, rfl⟩
    go_wp2_with fail
    refine (unhide HT _).mono ?_
    rintro e w1 ⟨rfl, rfl⟩
    go_wp2
    go_ret2
    exact ⟨by rw [unhide HF]; rfl, rfl⟩


end Go.Proofs.YtihgmpebpkjmkaaGreatDoor

/-
  What vari.write and vari.Put do, over this seat's program: Put answers the number's bytes, and no older memory turns.
-/
set_option linter.unusedVariables false
namespace Go.Proofs.YtihgmpebpkjmkaaGreatDoor
open Go.RowKit Go.Proofs.Num

theorem or128_fin : ∀ x : Fin 256, x.val ||| 128 = x.val % 128 + 128 := by decide +kernel
theorem or128 (m : Nat) : bits .or .u8 ((m : Int) % 256) 128 = ((m % 128 + 128 : Nat) : Int) := by
  have h1 : ((m : Int) % 256) = ((m % 256 : Nat) : Int) := by omega
  rw [h1]
  refine (u8_or_nat (m % 256) 128 (by omega) (by omega)).trans ?_
  have := or128_fin ⟨m % 256, by omega⟩
  simp only at this
  rw [this]
  omega

set_option maxHeartbeats 1000000 in
set_option maxRecDepth 100000 in
theorem vwrite_any (B b : Nat) (l : List UInt8) (n : Nat) (w : World) (hn : n < 18446744073709551616) (h : Lib.IsBuilderF 60 5 B b (Lib.byteCells l) w) (hlen : l.length + 10 ≤ 140737488355328) (hBw : B ≤ w.heap.size) :
    Calls Tryz.prog 34 #[.pointer (some ⟨b, 0, none⟩), .int .u64 n] w fun e w' => e = .returned (.tuple #[]) ∧ Lib.IsBuilderF 60 5 B b (Lib.byteCells (l ++ putL n)) w' ∧ Below B w w' ∧ Lib.OthersKept 5 (some b) w w' := by
  have hl10 := putL_len10 hn
  go_enter Tryz.func34, Tryz.ntmps34
  go_wp2
  go_loopw [1] (fun v wr => ∃ (m : Nat) (acc : List UInt8), v = .int .u64 m ∧ m < 18446744073709551616 ∧ acc ++ putL m = l ++ putL n ∧ Lib.IsBuilderF 60 5 B b (Lib.byteCells acc) wr ∧ Below B w wr ∧ Lib.OthersKept 5 (some b) w wr) (fun v wr => (intOf v).toNat)
  case atStart => exact ⟨n, l, rfl, hn, rfl, h, Below.refl _ _, Lib.OthersKept.refl _ _ _⟩
  case round =>
    obtain ⟨m, acc, rfl, hm, hacc, hI, hbw, hok⟩ := hrel
    have hal := congrArg List.length hacc
    have hpm := putL_pos m
    simp at hal
    have hbs := hbw.size
    by_cases h128 : 128 ≤ m
    · have hor := or128 m
      have h1 : ((m : Int) % 256) = ((m % 256 : Nat) : Int) := by omega
      have hu : (((m % 128 + 128 : Nat)) : Int) = ((UInt8.ofNat (m % 128 + 128)).toNat : Int) := by simp; omega
      rw [putL_big h128] at hacc
      have H1 := hide hor
      have H2 := hide hu
      have H3 := hide hacc
      clear hor hu hacc h1
      go_wp2_with (go_at_call 57; refine (writeByte_k B b (Lib.byteCells acc) _ _ hI (by rw [Lib.byteCells_length]; omega) (by omega)).mono ?_)
      rintro e w1 ⟨rfl, h1, hb1, hk1⟩
      rw [unhide H1, byteCells_snoc acc _ _ (unhide H2)] at h1
      go_wp2
      go_roundw
      case rel => exact ⟨m / 128, acc ++ [UInt8.ofNat (m % 128 + 128)], by go_num, by omega, by rw [← unhide H3]; simp, Or.inr h1, hbw.trans hb1, hok.trans hk1⟩
      case measure => simp [intOf]; omega
    · have hu : (m : Int) = ((UInt8.ofNat m).toNat : Int) := by simp; omega
      rw [putL_small (by omega)] at hacc
      have H2 := hide hu
      have H3 := hide hacc
      clear hu hacc
      go_wp2_with (go_at_call 57; refine (writeByte_k B b (Lib.byteCells acc) _ _ hI (by rw [Lib.byteCells_length]; omega) (by omega)).mono ?_)
      rintro e w1 ⟨rfl, h1, hb1, hk1⟩
      rw [byteCells_snoc acc _ _ (unhide H2), unhide H3] at h1
      go_wp2
      go_end0
      exact ⟨rfl, Or.inr h1, hbw.trans hb1, hok.trans hk1⟩

set_option maxHeartbeats 1000000 in
set_option maxRecDepth 100000 in
/-- vari.Put answers the number's bytes. -/
theorem putV_any (n : Nat) (w : World) (hn : n < 18446744073709551616) :
    Calls Tryz.prog 14 #[.int .u64 n] w fun e w' => e = .returned (.string ⟨(putL n).toArray⟩) ∧ Below w.heap.size w w' := by
  go_enter Tryz.func14, Tryz.ntmps14
  go_wp2_with (go_at_call 34; refine (vwrite_any w.heap.size w.heap.size [] n _ hn (Lib.IsBuilderF.of (Lib.fresh_isBuilder 60 5 w)) (by simp) (by simp)).mono ?_)
  rintro e w1 ⟨rfl, h1, hb1, hk1⟩
  have hs := hb1.size
  simp at hs h1
  go_wp2_with (go_at_call 22; refine (Tryz.Builder_String_any_k w.heap.size w.heap.size (putL n) _ h1 (by omega)).mono ?_)
  rintro e w2 ⟨rfl, _, hb2, _⟩
  go_wp2
  go_ret
  exact ⟨rfl, (((Below.refl _ w).alloc (Nat.le_refl _) _).trans hb1).trans hb2⟩
end Go.Proofs.YtihgmpebpkjmkaaGreatDoor

/-
  What vari.scan, strings.Clone and vari.Get do, over this seat's program: they tell what the text begins with, and no older memory turns.
-/
set_option linter.unusedVariables false
namespace Go.Proofs.YtihgmpebpkjmkaaGreatDoor
open Go.RowKit Go.Proofs.Num

/-- A goto to label l0: J0; to label l1: J1; to any other: no way out. -/
def jumpTwoS (l0 l1 : Nat) (J0 J1 : Act → World → Prop) (Q : Exit → Act → World → Prop) : Exit → Act → World → Prop
  | .goto l', a, w => (l' = l0 ∧ J0 a w) ∨ (l' = l1 ∧ J1 a w)
  | e, a, w => Q e a w

section
variable {P : Program} {a : Act} {w : World} {Q : Exit → Act → World → Prop}

/-- A scope with two labels: the run comes back to the first one, each time with less to do, and may leave by the second one, behind which no goto stands. -/
theorem wp_scope_two {c rest0 rest1 : Code} (l0 l1 : Nat) (J0 J1 : Act → World → Prop) (μ : Act → World → Nat) (hf0 : findLabel c l0 = some (Code.skip.seq rest0)) (hf1 : findLabel c l1 = some rest1)
    (first : (∀ a w, J0 a w → rest0.wp P (jumpTwoS l0 l1 J0 J1 Q) a w) → c.wp P (jumpTwoS l0 l1 J0 J1 Q) a w)
    (pass : ∀ a w, J0 a w → rest0.wp P (jumpTwoS l0 l1 (fun a' w' => J0 a' w' ∧ μ a' w' < μ a w) J1 Q) a w)
    (last : ∀ a w, J1 a w → rest1.wp P (jumpTwoS l0 l1 (fun _ _ => False) (fun _ _ => False) Q) a w) : (Code.scope c).wp P Q a w := by
  have pass' : ∀ a w, J0 a w → (Code.skip.seq rest0).wp P (jumpTwoS l0 l1 (fun a' w' => J0 a' w' ∧ μ a' w' < μ a w) J1 Q) a w := fun a w h => wp_seq (wp_skip (pass a w h))
  intro b k cs
  have hg0 : gotoIn l0 (.inScope c :: k) = some (.code (Code.skip.seq rest0) :: .inScope c :: k) := by simp [gotoIn, hf0]
  have hg1 : gotoIn l1 (.inScope c :: k) = some (.code rest1 :: .inScope c :: k) := by simp [gotoIn, hf1]
  have key1 : ∀ a w, J1 a w → ∃ e a' w', Q e a' w' ∧ Arrives P (lone (b.at a (.code rest1 :: .inScope c :: k)) cs w) b k cs e a' w' := by
    intro a w hJ
    obtain ⟨e, a₁, w₁, hq, harr⟩ := last a w hJ b (.inScope c :: k) cs
    cases e with
    | normal => exact ⟨.normal, a₁, w₁, hq, Steps.trans harr (.one step_inScope)⟩
    | exit id => exact ⟨.exit id, a₁, w₁, hq, fun k' hk => harr k' (by simp [exitTo, hk])⟩
    | goto l' => rcases hq with ⟨_, h⟩ | ⟨_, h⟩ <;> exact h.elim
    | ret => exact ⟨_, a₁, w₁, hq, harr⟩
    | panic ch => exact ⟨_, a₁, w₁, hq, harr⟩
    | outgrown => exact ⟨_, a₁, w₁, hq, harr⟩
  have key0 : ∀ n a w, μ a w = n → J0 a w → ∃ e a' w', Q e a' w' ∧ Arrives P (lone (b.at a (.code (Code.skip.seq rest0) :: .inScope c :: k)) cs w) b k cs e a' w' := by
    intro n
    induction n using Nat.strongRecOn with
    | _ n ih =>
      intro a w hn hJ
      obtain ⟨e, a₁, w₁, hq, harr⟩ := pass' a w hJ b (.inScope c :: k) cs
      cases e with
      | normal => exact ⟨.normal, a₁, w₁, hq, Steps.trans harr (.one step_inScope)⟩
      | exit id => exact ⟨.exit id, a₁, w₁, hq, fun k' hk => harr k' (by simp [exitTo, hk])⟩
      | goto l' =>
        rcases hq with ⟨rfl, hJ', hlt⟩ | ⟨rfl, hJ'⟩
        · obtain ⟨e₂, a₂, w₂, hq₂, harr₂⟩ := ih _ (by omega) a₁ w₁ rfl hJ'
          exact ⟨e₂, a₂, w₂, hq₂, .of_steps (harr _ hg0) harr₂⟩
        · obtain ⟨e₂, a₂, w₂, hq₂, harr₂⟩ := key1 a₁ w₁ hJ'
          exact ⟨e₂, a₂, w₂, hq₂, .of_steps (harr _ hg1) harr₂⟩
      | ret => exact ⟨_, a₁, w₁, hq, harr⟩
      | panic ch => exact ⟨_, a₁, w₁, hq, harr⟩
      | outgrown => exact ⟨_, a₁, w₁, hq, harr⟩
  have hp : ∀ a w, J0 a w → rest0.wp P (jumpTwoS l0 l1 J0 J1 Q) a w := fun a w h => wp_mono (pass a w h) fun e a' w' hq => by
    cases e with
    | goto l' => rcases hq with ⟨e, hj, _⟩ | h2
                 · exact Or.inl ⟨e, hj⟩
                 · exact Or.inr h2
    | _ => exact hq
  obtain ⟨e, a₁, w₁, hq, harr⟩ := first hp b (.inScope c :: k) cs
  cases e with
  | normal => exact ⟨.normal, a₁, w₁, hq, .head step_scope (Steps.trans harr (.one step_inScope))⟩
  | exit id => exact ⟨.exit id, a₁, w₁, hq, fun k' hk => .head step_scope (harr k' (by simp [exitTo, hk]))⟩
  | goto l' =>
    rcases hq with ⟨rfl, hJ'⟩ | ⟨rfl, hJ'⟩
    · obtain ⟨e₂, a₂, w₂, hq₂, harr₂⟩ := key0 _ a₁ w₁ rfl hJ'
      exact ⟨e₂, a₂, w₂, hq₂, .of_steps (.head step_scope (harr _ hg0)) harr₂⟩
    · obtain ⟨e₂, a₂, w₂, hq₂, harr₂⟩ := key1 a₁ w₁ hJ'
      exact ⟨e₂, a₂, w₂, hq₂, .of_steps (.head step_scope (harr _ hg1)) harr₂⟩
  | ret => exact ⟨_, a₁, w₁, hq, .of_steps (.one step_scope) harr⟩
  | panic ch => exact ⟨_, a₁, w₁, hq, .of_steps (.one step_scope) harr⟩
  | outgrown => exact ⟨_, a₁, w₁, hq, .of_steps (.one step_scope) harr⟩
end

/-- What the frame of scan holds at its label 'next', k bytes read. -/
def Nxt (s : ByteArray) (w : World) (a' : Act) (w' : World) : Prop :=
  w' = w ∧ ∃ (k n : Nat) (u7 u8 u9 u10 u11 u12 u13 u14 u15 u16 u17 u18 u19 u20 u21 u22 u23 u24 u25 u26 u27 u28 u29 u30 u31 u32 u33 u34 u35 u36 u37 u38 u39 u40 : Value), a' = { tmps := #[.string s, undef, .int .u64 0, .int .i64 0, .int .i64 0, .int .u64 n, .int .i64 k, u7, u8, u9, u10, u11, u12, u13, u14, u15, u16, u17, u18, u19, u20, u21, u22, u23, u24, u25, u26, u27, u28, u29, u30, u31, u32, u33, u34, u35, u36, u37, u38, u39, u40], defers := [] } ∧ k ≤ s.size ∧ k ≤ 9 ∧ n < 2 ^ (7 * k) ∧ scanFrom (s.data.toList.drop k) k n = scanL s.data.toList
/-- .. and at its label 'wrong'. -/
def Wrg (s : ByteArray) (w : World) (a' : Act) (w' : World) : Prop :=
  w' = w ∧ ∃ (u5 u6 u7 u8 u9 u10 u11 u12 u13 u14 u15 u16 u17 u18 u19 u20 u21 u22 u23 u24 u25 u26 u27 u28 u29 u30 u31 u32 u33 u34 u35 u36 u37 u38 u39 u40 : Value), a' = { tmps := #[.string s, undef, .int .u64 0, .int .i64 0, .int .i64 0, u5, u6, u7, u8, u9, u10, u11, u12, u13, u14, u15, u16, u17, u18, u19, u20, u21, u22, u23, u24, u25, u26, u27, u28, u29, u30, u31, u32, u33, u34, u35, u36, u37, u38, u39, u40], defers := [] } ∧ scanL s.data.toList = (0, 0, 7)

theorem joinE_lt (n c k : Nat) (hn : n < 2 ^ (7 * k)) : n + c % 128 * 2 ^ (7 * k) < 2 ^ (7 * (k + 1)) := by
  have e : 2 ^ (7 * (k + 1)) = 128 * 2 ^ (7 * k) := by rw [show 7 * (k + 1) = 7 + 7 * k by omega, Nat.pow_add]
  have hmul : c % 128 * 2 ^ (7 * k) ≤ 127 * 2 ^ (7 * k) := Nat.mul_le_mul_right _ (by omega)
  rw [e]; omega

theorem joinE_u64 (n c k : Nat) (hk : k ≤ 9) (hn : n < 2 ^ (7 * k)) (hc : c < 256) (h9 : k = 9 → c ≤ 1) : n + c % 128 * 2 ^ (7 * k) < 18446744073709551616 := by
  rcases Nat.lt_or_ge k 9 with h' | h'
  · have h1 := joinE_lt n c k hn
    have hp : 2 ^ (7 * (k + 1)) ≤ 2 ^ (7 * 9) := Nat.pow_le_pow_right (by decide) (by omega)
    have h63 : (2 : Nat) ^ (7 * 9) = 9223372036854775808 := by decide
    omega
  · have hk9 : k = 9 := by omega
    subst hk9
    have h63 : (2 : Nat) ^ (7 * 9) = 9223372036854775808 := by decide
    have := h9 rfl
    rw [h63] at hn ⊢
    omega

theorem wrap_u64 (n : Nat) (h : n < 18446744073709551616) : IntKind.u64.wrap (n : Int) = n := by
  simp [IntKind.wrap, IntKind.bits, IntKind.signed]; omega

theorem joinE (n c k : Nat) (hk : k ≤ 9) (hn : n < 2 ^ (7 * k)) (hc : c < 256) (h9 : k = 9 → c ≤ 1) :
    bits .or .u64 (n : Int) (IntKind.u64.wrap (IntKind.u64.wrap (bits .and .u8 (c : Int) 127) * 2 ^ (7 * k))) = ((n + c % 128 * 2 ^ (7 * k) : Nat) : Int) := by
  have hu := joinE_u64 n c k hk hn hc h9
  have e1 : bits .and .u8 (c : Int) 127 = ((c % 128 : Nat) : Int) := (u8_and_nat c 127 hc (by omega)).trans (by rw [nat_mask7])
  rw [e1, wrap_u64 _ (by omega), show (((c % 128 : Nat) : Int) * 2 ^ (7 * k)) = ((c % 128 * 2 ^ (7 * k) : Nat) : Int) by simp, wrap_u64 _ (by omega)]
  refine (u64_or_nat _ _ (by omega) (by omega)).trans ?_
  rw [Nat.or_comm, nat_join (7 * k) _ n (Nat.mul_mod_left _ _) hn, Nat.add_comm]

set_option maxHeartbeats 1000000 in
set_option maxRecDepth 100000 in
theorem scan_any (s : ByteArray) (w : World) (hs : s.size ≤ maxLen) :
    Calls Tryz.prog 32 #[.string s] w fun e w' => e = .returned (.tuple #[.int .u64 (scanL s.data.toList).1, .int .i64 (scanL s.data.toList).2.1, .int .i64 (scanL s.data.toList).2.2]) ∧ w' = w := by
  unfold maxLen at hs
  go_enter Tryz.func32, Tryz.ntmps32
  go_wp2
  refine wp_scope_two 0 1 (Nxt s w) (Wrg s w) (fun a' _ => (10 - intOf (a'.tmps.getD 6 undef)).toNat) rfl rfl ?_ ?_ ?_
  · intro hp
    go_wp2
    go_step3
    rename_i K hK
    exact hK _ _ (hp _ _ ⟨rfl, 0, 0, _, _, _, _, _, _, _, _, _, _, _, _, _, _, _, _, _, _, _, _, _, _, _, _, _, _, _, _, _, _, _, _, _, _, rfl, Nat.zero_le _, by omega, by decide, rfl⟩)
  · rintro a' w' ⟨rfl, k, n, u7, u8, u9, u10, u11, u12, u13, u14, u15, u16, u17, u18, u19, u20, u21, u22, u23, u24, u25, u26, u27, u28, u29, u30, u31, u32, u33, u34, u35, u36, u37, u38, u39, u40, rfl, hk, hk9, hn, hsc⟩
    have HS := hide hsc
    have HN := hide hn
    clear hsc hn
    by_cases hend : k = s.size
    · have hb : ((k : Int) == (s.size : Int)) = true := by simp [hend]
      have hfin : scanL s.data.toList = (0, 0, 5) := by rw [← unhide HS, hend, drop_end s (Nat.le_refl _)]; rfl
      have HF := hide hfin
      clear hfin hend
      go_wp2
      simp only [jumpTwoS]
      go_ret3
      exact ⟨by rw [unhide HF]; rfl, rfl⟩
    · have hlt : k < s.size := by omega
      have hb : ((k : Int) == (s.size : Int)) = false := by simp; omega
      have hc := s[k].toNat_lt
      have hdrop := drop_byte s k hlt
      by_cases h9 : k = 9 ∧ 1 < s[k].toNat
      · have hb9 : ((k : Int) == 9) = true := by simp [h9.1]
        have hb1 : 1 < s[k].toNat := h9.2
        have hfin : scanL s.data.toList = (0, 0, 7) := by rw [← unhide HS, hdrop, scanFrom, if_pos h9]
        have HF := hide hfin
        clear hfin h9 hdrop
        go_wp2
        go_step3
        exact Or.inr ⟨rfl, rfl, _, _, _, _, _, _, _, _, _, _, _, _, _, _, _, _, _, _, _, _, _, _, _, _, _, _, _, _, _, _, _, _, _, _, _, _, rfl, unhide HF⟩
      · have h9c : k = 9 → s[k].toNat ≤ 1 := fun e => by omega
        have HJ := hide (joinE n s[k].toNat k (by omega) (unhide HN) hc h9c)
        by_cases h128 : 128 ≤ s[k].toNat
        · have hk8 : k ≤ 8 := by omega
          have hb9 : ((k : Int) == 9) = false := by simp; omega
          have hfin : scanFrom (s.data.toList.drop (k + 1)) (k + 1) (n + s[k].toNat % 128 * 2 ^ (7 * k)) = scanL s.data.toList := by rw [← unhide HS, hdrop, scanFrom, if_neg h9, if_pos h128]
          have HF := hide hfin
          clear hfin h9 h9c hdrop
          go_wp2
          go_step3
          rw [unhide HJ]
          refine Or.inl ⟨rfl, ⟨rfl, k + 1, _, _, _, _, _, _, _, _, _, _, _, _, _, _, _, _, _, _, _, _, _, _, _, _, _, _, _, _, _, _, _, _, _, _, _, rfl, by omega, by omega, joinE_lt n _ k (unhide HN), unhide HF⟩, ?_⟩
          simp [intOf]
          omega
        · by_cases hz : s[k].toNat = 0 ∧ 0 < k
          · have hfin : scanL s.data.toList = (0, 0, 7) := by rw [← unhide HS, hdrop, scanFrom, if_neg h9, if_neg h128, if_pos hz]
            have HF := hide hfin
            have hz0 : ((s[k].toNat : Int) == 0) = true := by simp [hz.1]
            have hz1 : 0 < k := hz.2
            have hz2 : s[k].toNat ≤ 1 := by omega
            clear hfin h9 h9c hdrop hz
            by_cases h9' : k = 9
            · have hb9 : ((k : Int) == 9) = true := by simp [h9']
              clear h9'
              go_wp2
              go_step3
              exact Or.inr ⟨rfl, rfl, _, _, _, _, _, _, _, _, _, _, _, _, _, _, _, _, _, _, _, _, _, _, _, _, _, _, _, _, _, _, _, _, _, _, _, _, rfl, unhide HF⟩
            · have hb9 : ((k : Int) == 9) = false := by simp; omega
              go_wp2
              go_step3
              exact Or.inr ⟨rfl, rfl, _, _, _, _, _, _, _, _, _, _, _, _, _, _, _, _, _, _, _, _, _, _, _, _, _, _, _, _, _, _, _, _, _, _, _, _, rfl, unhide HF⟩
          · have hfin : scanL s.data.toList = (n + s[k].toNat % 128 * 2 ^ (7 * k), k + 1, 0) := by rw [← unhide HS, hdrop, scanFrom, if_neg h9, if_neg h128, if_neg hz]
            have HF := hide hfin
            by_cases h9' : k = 9
            · have hb9 : ((k : Int) == 9) = true := by simp [h9']
              have hz0 : ((s[k].toNat : Int) == 0) = false := by simp; omega
              have hz2 : s[k].toNat ≤ 1 := by omega
              clear h9' hfin h9 h9c hdrop hz
              go_wp2
              simp only [jumpTwoS]
              go_ret3
              refine ⟨?_, rfl⟩
              rw [unhide HF, unhide HJ]
              rfl
            · have hb9 : ((k : Int) == 9) = false := by simp; omega
              by_cases hz0 : s[k].toNat = 0
              · have hz1 : ((s[k].toNat : Int) == 0) = true := by simp [hz0]
                have hk1 : ¬ 0 < k := by omega
                clear hfin h9 h9c hdrop hz hz0
                go_wp2
                simp only [jumpTwoS]
                go_ret3
                refine ⟨?_, rfl⟩
                rw [unhide HF, unhide HJ]
                rfl
              · have hz1 : ((s[k].toNat : Int) == 0) = false := by simp; omega
                clear hfin h9 h9c hdrop hz hz0
                go_wp2
                simp only [jumpTwoS]
                go_ret3
                refine ⟨?_, rfl⟩
                rw [unhide HF, unhide HJ]
                rfl
  · rintro a' w' ⟨rfl, u5, u6, u7, u8, u9, u10, u11, u12, u13, u14, u15, u16, u17, u18, u19, u20, u21, u22, u23, u24, u25, u26, u27, u28, u29, u30, u31, u32, u33, u34, u35, u36, u37, u38, u39, u40, rfl, hfin⟩
    have HF := hide hfin
    clear hfin
    go_wp2
    simp only [jumpTwoS]
    go_ret3
    exact ⟨by rw [unhide HF]; rfl, rfl⟩

set_option maxHeartbeats 400000 in
/-- strings.Clone answers the same bytes. -/
theorem clone_any (s : ByteArray) (w : World) (hs : s.size ≤ 281474976710656) :
    Calls Tryz.prog 33 #[.string s] w fun e w' => e = .returned (.string s) ∧ Below w.heap.size w w' := by
  go_enter Tryz.func33, Tryz.ntmps33
  go_wp2_with (go_at_call 56; refine (Tryz.stringslite_Clone s _ hs).mono ?_)
  rintro e w1 ⟨rfl, hb⟩
  go_wp2
  go_ret
  exact ⟨rfl, hb⟩

/-- What is behind the number that s begins with; nothing, if it begins with none. -/
def restOf (s : ByteArray) : ByteArray := if (scanL s.data.toList).2.2 = 0 then s.extract (scanL s.data.toList).2.1 s.size else ByteArray.empty

set_option maxHeartbeats 400000 in
/-- vari.Get tells the number that s begins with, and what is behind it, or the error. -/
theorem get_any (s : ByteArray) (w : World) (hs : s.size ≤ 281474976710656) :
    Calls Tryz.prog 13 #[.string s] w fun e w' => e = .returned (.tuple #[.int .u64 (scanL s.data.toList).1, .string (restOf s), .int .i64 (scanL s.data.toList).2.2]) ∧ Below w.heap.size w w' := by
  have hle := scanL_le s.data.toList
  have hsz : s.data.toList.length = s.size := Array.length_toList ..
  obtain ⟨m, k, e0, hsc⟩ : ∃ m k e0, scanL s.data.toList = (m, k, e0) := ⟨_, _, _, rfl⟩
  have hno := scanL_no s.data.toList
  have hrest : restOf s = if e0 = 0 then s.extract k s.size else ByteArray.empty := by simp [restOf, hsc]
  have hscan := scan_any s w (by unfold maxLen; omega)
  rw [hsc] at hno hle hscan ⊢
  simp only at hno hle
  rw [hsz] at hle
  obtain ⟨hk, hk10, hm⟩ := hle
  have HC := hide hscan
  clear hsc hsz hscan
  by_cases he : e0 = 0
  · subst he
    rw [if_pos rfl] at hrest
    have HR := hide hrest
    clear hrest hno
    have hext : (s.extract k s.size).size ≤ 281474976710656 := by rw [ByteArray.size_extract]; omega
    go_enter Tryz.func13, Tryz.ntmps13
    go_wp2_with (first | (go_at_call 32; refine (unhide HC).mono ?_; rintro e w1 ⟨rfl, rfl⟩) | (go_at_call 33; refine (clone_any (s.extract k s.size) _ hext).mono ?_; rintro e w2 ⟨rfl, hb⟩))
    go_ret3
    exact ⟨by rw [unhide HR]; rfl, hb⟩
  · rw [if_neg he] at hrest
    have hne : ((e0 : Int) == 0) = false := by simp; omega
    have hm0 : m = 0 := by
      rcases hno with h | h | h
      · exact absurd h he
      · simp at h; exact h.1
      · simp at h; exact h.1
    subst hm0
    have HR := hide hrest
    clear hrest hno he
    go_enter Tryz.func13, Tryz.ntmps13
    go_wp2_with (go_at_call 32; refine (unhide HC).mono ?_; rintro e w1 ⟨rfl, rfl⟩)
    go_ret3
    exact ⟨by rw [unhide HR]; rfl, Below.refl _ _⟩
end Go.Proofs.YtihgmpebpkjmkaaGreatDoor

/-
  What missivetop.begins does, over this seat's program: it answers true.
-/
set_option linter.unusedVariables false
namespace Go.Proofs.YtihgmpebpkjmkaaGreatDoor
open Go.RowKit Go.Proofs.Num

theorem put_300 (w : World) : Calls Tryz.prog 14 #[.int .u64 300] w fun e w' => e = .returned (.string { data := #[172, 2] }) ∧ Below w.heap.size w w' := by
  have h := putV_any 300 w (by decide)
  rw [show putL 300 = [172, 2] by rw [putL_big (by decide), putL_small (by decide)]; rfl] at h
  exact h
theorem get_300 (w : World) : Calls Tryz.prog 13 #[.string { data := #[172, 2, 120] }] w fun e w' => e = .returned (.tuple #[.int .u64 300, .string { data := #[120] }, .int .i64 0]) ∧ Below w.heap.size w w' := by
  have h := get_any { data := #[172, 2, 120] } w (by decide)
  rw [show scanL (ByteArray.mk #[172, 2, 120]).data.toList = (300, 2, 0) by decide +kernel, show restOf { data := #[172, 2, 120] } = { data := #[120] } by decide +kernel] at h
  exact h

set_option maxHeartbeats 400000 in
theorem begins_any (w : World) : Calls Tryz.prog 4 #[] w fun e w' => e = .returned (.bool true) ∧ Below w.heap.size w w' := by
  go_enter Tryz.func4, Tryz.ntmps4
  go_wp2_with fail
  refine (put_300 _).mono ?_
  rintro e w1 ⟨rfl, b1⟩
  go_wp2_with fail
  rw [show (({ data := #[172, 2] } : ByteArray) ++ { data := #[120] }) = { data := #[172, 2, 120] } by decide +kernel]
  refine (get_300 _).mono ?_
  rintro e w2 ⟨rfl, b2⟩
  go_wp2
  go_ret
  exact ⟨rfl, belows' b1 b2⟩
end Go.Proofs.YtihgmpebpkjmkaaGreatDoor
