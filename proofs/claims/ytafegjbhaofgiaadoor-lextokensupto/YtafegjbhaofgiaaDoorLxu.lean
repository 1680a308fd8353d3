/-
  What missiveref28.digits does, over this seat's program.
-/
import Derived.Test.YtafegjbhaofgiaaDoorLxo
set_option linter.unusedVariables false
set_option linter.unusedSimpArgs false
namespace Go.Proofs.YtafegjbhaofgiaaDoor
open Go.RowKit Go.Proofs.Lx

def digI (o : Option Nat) : Int := match o with
  | some n => (n : Int)
  | none => -1
theorem ret_int {a b : Int} (h : a = b) : Ending.returned (.int .i64 a) = .returned (.int .i64 b) := by rw [h]

set_option maxHeartbeats 1000000 in
set_option maxRecDepth 100000 in
theorem refDigits_any (D : ByteArray) (w : World) (hs : D.size ≤ 281474976710656) :
    Calls Tryd.prog 27 #[.string D] w fun e w' => e = .returned (.int .i64 (digI (numD D.data.toList))) ∧ w' = w := by
  have hDz := sizeL D
  have HE := is_empty D
  by_cases a0 : D.size = 0
  · have e0 : D.toList.isEmpty = true := by rw [HE]; exact decide_eq_true a0
    have HF : Hid (numD D.data.toList = none) := hide (by rw [numD, if_pos (Or.inl (List.length_eq_zero_iff.1 (by omega)))])
    clear hDz a0 HE
    go_enter Tryd.func27, Tryd.ntmps27
    go_wp2
    go_ret
    exact ⟨by rw [unhide HF]; rfl, rfl⟩
  · have e0 : D.toList.isEmpty = false := by rw [HE]; exact decide_eq_false a0
    by_cases a9 : 9 < D.size
    · have HF : Hid (numD D.data.toList = none) := hide (by rw [numD, if_pos (Or.inr (Or.inl (by omega)))])
      have e9 : 9 < (D.size : Int) := by omega
      clear hDz a0 HE
      go_enter Tryd.func27, Tryd.ntmps27
      go_wp2
      go_ret
      exact ⟨by rw [unhide HF]; rfl, rfl⟩
    · have e9 : ¬ 9 < (D.size : Int) := by omega
      have hp0 : 0 < D.size := by omega
      have hp0' : 0 < (D.size : Int) := by omega
      have hhd := head_byte D hp0
      have hne : D.data.toList ≠ [] := by intro h; rw [h] at hDz; simp at hDz; omega
      have h48 : D.data.toList ≠ [48] ∨ D.size = 1 := by
        by_cases h : D.data.toList = [48]
        · right; rw [h] at hDz; simp at hDz; omega
        · left; exact h
      have hone : D[0] = 48 → D.size = 1 → D.data.toList = [48] := by
        intro h1 h2
        have := drop_byte D 0 hp0
        rw [List.drop_zero, drop_end D (by omega), h1] at this
        exact this
      have hdig : Hid (¬ (D.data.toList.head? = some 48 ∧ D.data.toList ≠ [48]) → numD D.data.toList = digs D.data.toList 0) := hide (fun hn => by
        rw [numD, if_neg]
        rintro (h | h | h)
        · exact hne h
        · omega
        · exact hn h)
      have hc0 := D[0].toNat_lt
      by_cases c48 : D[0] = 48
      · have b1 : ((D[0].toNat : Int) == 48) = true := by rw [c48]; rfl
        by_cases z1 : 1 < D.size
        · have z1' : 1 < (D.size : Int) := by omega
          have HF : Hid (numD D.data.toList = none) := hide (by
            have hn : D.data.toList ≠ [48] := by
              intro h
              have h2 := congrArg List.length h
              rw [List.length_singleton] at h2
              omega
            rw [numD, if_pos (Or.inr (Or.inr ⟨by rw [hhd, c48], hn⟩))])
          clear hhd hne h48 hone hdig hDz a0 HE c48
          go_enter Tryd.func27, Tryd.ntmps27
          go_wp2
          go_ret
          exact ⟨by rw [unhide HF]; rfl, rfl⟩
        · have z1' : ¬ 1 < (D.size : Int) := by omega
          have HN := hide (unhide hdig (fun h => h.2 (hone c48 (by omega))))
          have hsz9 : D.size ≤ 9 := by omega
          clear hhd hne h48 hone hdig hDz a0 HE c48
          go_enter Tryd.func27, Tryd.ntmps27
          go_wp2
          clear b1
          go_loop [3, 4] (fun zm zi => ∃ k n : Nat, zm = .int .i64 n ∧ zi = .int .i64 k ∧ k ≤ D.size ∧ n ≤ 999999999 ∧ Hid (n < 10 ^ k) ∧ Hid (digs D.data.toList 0 = digs (D.data.toList.drop k) n)) (fun _ zi => D.size - (intOf zi).toNat)
          case atStart => exact ⟨0, 0, rfl, rfl, Nat.zero_le _, by omega, hide (by decide), hide rfl⟩
          case round =>
            obtain ⟨k, n, rfl, rfl, hk, hn, HB, HR⟩ := hrel
            by_cases hlt : k < D.size
            · have hlt' : (k : Int) < (D.size : Int) := by omega
              have hc := D[k].toNat_lt
              have hd := unhide HR
              rw [drop_byte D k hlt, digs] at hd
              by_cases l48 : D[k].toNat < 48
              · have e1 : (D[k].toNat : Int) < 48 := by omega
                rw [if_neg (by omega)] at hd
                have HF := hide ((unhide HN).trans hd)
                clear hd HR HB
                go_wp2
                go_ret
                exact ⟨by rw [unhide HF]; rfl, rfl⟩
              · have e1 : ¬ (D[k].toNat : Int) < 48 := by omega
                by_cases g57 : 57 < D[k].toNat
                · have e2 : 57 < (D[k].toNat : Int) := by omega
                  rw [if_neg (by omega)] at hd
                  have HF := hide ((unhide HN).trans hd)
                  clear hd HR HB
                  go_wp2
                  go_ret
                  exact ⟨by rw [unhide HF]; rfl, rfl⟩
                · have e2 : ¬ 57 < (D[k].toNat : Int) := by omega
                  rw [if_pos (by omega)] at hd
                  have HR2 := hide hd
                  obtain ⟨y, hy⟩ : ∃ y, y = D[k].toNat - 48 := ⟨_, rfl⟩
                  have hy9 : y ≤ 9 := by omega
                  have hyi : (D[k].toNat : Int) = (y : Int) + 48 := by omega
                  rw [← hy] at HR2
                  have HB2 : Hid (10 * n + y < 10 ^ (k + 1)) := hide (by
                    have := unhide HB
                    rw [Nat.pow_succ]; omega)
                  have hn2 : 10 * n + y ≤ 999999999 := by
                    have h1 := unhide HB2
                    have h2 : 10 ^ (k + 1) ≤ 10 ^ 9 := Nat.pow_le_pow_right (by decide) (by omega)
                    omega
                  clear hd HR HB hy
                  go_wp2
                  go_round
                  case rel => exact ⟨k + 1, 10 * n + y, by first | (rw [hyi]; go_num) | go_num, by go_num, by omega, hn2, HB2, HR2⟩
                  case measure => simp [intOf]; omega
            · have hlt' : ¬ (k : Int) < (D.size : Int) := by omega
              have hd := unhide HR
              rw [drop_end D (by omega), digs] at hd
              have HF := hide ((unhide HN).trans hd)
              clear hd HR HB
              go_wp2
              go_ret
              exact ⟨by rw [unhide HF]; rfl, rfl⟩
      · have b1 : ((D[0].toNat : Int) == 48) = false := by
          rw [beq_eq_false_iff_ne]
          intro h
          have : D[0].toNat = 48 := by omega
          exact c48 (UInt8.toNat_inj.1 (by rw [this]; rfl))
        have HN := hide (unhide hdig (fun h => by rw [hhd] at h; exact c48 (Option.some.inj h.1)))
        have hsz9 : D.size ≤ 9 := by omega
        clear hhd hne h48 hone hdig hDz a0 HE c48
        go_enter Tryd.func27, Tryd.ntmps27
        go_wp2
        clear b1
        go_loop [3, 4] (fun zm zi => ∃ k n : Nat, zm = .int .i64 n ∧ zi = .int .i64 k ∧ k ≤ D.size ∧ n ≤ 999999999 ∧ Hid (n < 10 ^ k) ∧ Hid (digs D.data.toList 0 = digs (D.data.toList.drop k) n)) (fun _ zi => D.size - (intOf zi).toNat)
        case atStart => exact ⟨0, 0, rfl, rfl, Nat.zero_le _, by omega, hide (by decide), hide rfl⟩
        case round =>
          obtain ⟨k, n, rfl, rfl, hk, hn, HB, HR⟩ := hrel
          by_cases hlt : k < D.size
          · have hlt' : (k : Int) < (D.size : Int) := by omega
            have hc := D[k].toNat_lt
            have hd := unhide HR
            rw [drop_byte D k hlt, digs] at hd
            by_cases l48 : D[k].toNat < 48
            · have e1 : (D[k].toNat : Int) < 48 := by omega
              rw [if_neg (by omega)] at hd
              have HF := hide ((unhide HN).trans hd)
              clear hd HR HB
              go_wp2
              go_ret
              exact ⟨by rw [unhide HF]; rfl, rfl⟩
            · have e1 : ¬ (D[k].toNat : Int) < 48 := by omega
              by_cases g57 : 57 < D[k].toNat
              · have e2 : 57 < (D[k].toNat : Int) := by omega
                rw [if_neg (by omega)] at hd
                have HF := hide ((unhide HN).trans hd)
                clear hd HR HB
                go_wp2
                go_ret
                exact ⟨by rw [unhide HF]; rfl, rfl⟩
              · have e2 : ¬ 57 < (D[k].toNat : Int) := by omega
                rw [if_pos (by omega)] at hd
                have HR2 := hide hd
                obtain ⟨y, hy⟩ : ∃ y, y = D[k].toNat - 48 := ⟨_, rfl⟩
                have hy9 : y ≤ 9 := by omega
                have hyi : (D[k].toNat : Int) = (y : Int) + 48 := by omega
                rw [← hy] at HR2
                have HB2 : Hid (10 * n + y < 10 ^ (k + 1)) := hide (by
                  have := unhide HB
                  rw [Nat.pow_succ]; omega)
                have hn2 : 10 * n + y ≤ 999999999 := by
                  have h1 := unhide HB2
                  have h2 : 10 ^ (k + 1) ≤ 10 ^ 9 := Nat.pow_le_pow_right (by decide) (by omega)
                  omega
                clear hd HR HB hy
                go_wp2
                go_round
                case rel => exact ⟨k + 1, 10 * n + y, by first | (rw [hyi]; go_num) | go_num, by go_num, by omega, hn2, HB2, HR2⟩
                case measure => simp [intOf]; omega
          · have hlt' : ¬ (k : Int) < (D.size : Int) := by omega
            have hd := unhide HR
            rw [drop_end D (by omega), digs] at hd
            have HF := hide ((unhide HN).trans hd)
            clear hd HR HB
            go_wp2
            go_ret
            exact ⟨by rw [unhide HF]; rfl, rfl⟩
end Go.Proofs.YtafegjbhaofgiaaDoor
