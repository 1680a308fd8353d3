/-
  What the document's digits of layer 10 does, over this seat's program.
-/
import Derived.Test.YtoegfnonfmcnbaaDoorDtx
set_option linter.unusedVariables false
namespace Go.Proofs.YtoegfnonfmcnbaaDoor
open Go.RowKit Go.Proofs.Dcl

/-- A number that the document's digits tells. -/
def digV (o : Option Nat) : Int := match o with
  | some n => (n : Int)
  | none => -1

set_option maxHeartbeats 1000000 in
theorem refDigits_any (s : ByteArray) (least most : Nat) (w : World) (h4 : most ≤ 4) (hl : least ≤ 4) :
    Calls Tryd.prog 18 #[.string s, .int .i64 (least : Int), .int .i64 (most : Int)] w fun e w' => e = .returned (.int .i64 (digV (numR s.data.toList least most))) ∧ w' = w := by
  unfold numR
  rw [sizeL]
  by_cases a1 : s.size < least
  · rw [if_pos (Or.inl a1)]
    have a1' : (s.size : Int) < (least : Int) := by omega
    go_enter Tryd.func18, Tryd.ntmps18
    go_wp2
    go_ret
    exact ⟨rfl, rfl⟩
  by_cases a2 : most < s.size
  · rw [if_pos (Or.inr a2)]
    have a1' : ¬ (s.size : Int) < (least : Int) := by omega
    have a2' : (most : Int) < (s.size : Int) := by omega
    go_enter Tryd.func18, Tryd.ntmps18
    go_wp2
    go_ret
    exact ⟨rfl, rfl⟩
  rw [if_neg (by omega)]
  have a1' : ¬ (s.size : Int) < (least : Int) := by omega
  have a2' : ¬ (most : Int) < (s.size : Int) := by omega
  have hs4 : s.size ≤ 4 := by omega
  clear a1 a2 hl h4
  go_enter Tryd.func18, Tryd.ntmps18
  go_wp2
  go_loop [7, 8] (fun n i => ∃ (k acc : Nat), k ≤ s.size ∧ i = .int .i64 (k : Int) ∧ n = .int .i64 (acc : Int) ∧ acc < 10 ^ k ∧ numA 0 s.data.toList = numA acc (s.data.toList.drop k)) (fun _ i => s.size - (intOf i).toNat)
  case atStart => exact ⟨0, 0, by omega, rfl, rfl, by simp, rfl⟩
  case round =>
    obtain ⟨k, acc, hk, rfl, rfl, hac, heq⟩ := hrel
    have hp : (10 : Nat) ^ k ≤ 10 ^ 4 := Nat.pow_le_pow_right (by omega) (by omega)
    have hp4 : (10 : Nat) ^ 4 = 10000 := by decide
    by_cases hlt : k < s.size
    · rw [drop_byte s k hlt] at heq
      have hc := s[k].toNat_lt
      have hgo : ∀ n : Nat, n = s[k].toNat → numA acc (s[k] :: s.data.toList.drop (k + 1)) = if 48 ≤ n ∧ n ≤ 57 then numA (acc * 10 + (n - 48)) (s.data.toList.drop (k + 1)) else none := by
        intro n hn; subst hn
        conv => lhs; unfold numA
        by_cases hd : 48 ≤ s[k].toNat ∧ s[k].toNat ≤ 57
        · simp [digB, hd]
        · simp only [digB, decide_eq_false hd, if_neg hd]; rfl
      have HG := hide hgo
      have HE := hide heq
      clear hgo heq
      by_cases d1 : s[k].toNat < 48
      · have d1' : (s[k].toNat : Int) < 48 := by omega
        have he := unhide HE
        rw [unhide HG _ rfl, if_neg (by omega)] at he
        rw [he]
        clear HE HG
        go_wp2
        go_ret
        exact ⟨rfl, rfl⟩
      by_cases d2 : 57 < s[k].toNat
      · have d1' : ¬ (s[k].toNat : Int) < 48 := by omega
        have d2' : 57 < (s[k].toNat : Int) := by omega
        have he := unhide HE
        rw [unhide HG _ rfl, if_neg (by omega)] at he
        rw [he]
        clear HE HG
        go_wp2
        go_ret
        exact ⟨rfl, rfl⟩
      have d1' : 48 ≤ (s[k].toNat : Int) := by omega
      have d2' : (s[k].toNat : Int) ≤ 57 := by omega
      have he := unhide HE
      rw [unhide HG _ rfl, if_pos (by omega)] at he
      have HE2 := hide he
      clear HE HG he
      go_wp2
      go_round
      case rel => exact ⟨k + 1, acc * 10 + (s[k].toNat - 48), by omega, by go_num, by congr 1; omega, by rw [Nat.pow_succ]; omega, unhide HE2⟩
      case measure => simp [intOf]; omega
    · obtain rfl : k = s.size := by omega
      rw [drop_end s (Nat.le_refl _)] at heq
      have HE : Hid (numA 0 s.data.toList = some acc) := heq.trans (by simp [numA])
      clear heq
      go_wp2
      go_ret
      exact ⟨by rw [unhide HE]; rfl, rfl⟩
end Go.Proofs.YtoegfnonfmcnbaaDoor
