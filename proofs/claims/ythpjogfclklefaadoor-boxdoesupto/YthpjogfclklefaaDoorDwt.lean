/-
  What date.Write, isRight and WriteTime do, over this seat's program.
-/
import Derived.Test.YthpjogfclklefaaDoorDwr
set_option linter.unusedVariables false
namespace Go.Proofs.YthpjogfclklefaaDoor
open Go.RowKit Go.Proofs.Dcl

theorem find_step (f : Nat → Int) (r : Int) (h1 : f 1 ≤ r) (j : Nat) : (∃ m, 1 ≤ m ∧ m ≤ j ∧ f m ≤ r ∧ r < f (m + 1)) ∨ f (j + 1) ≤ r := by
  induction j with
  | zero => exact .inr h1
  | succ j ih =>
    rcases ih with ⟨m, a, b, c, d⟩ | h
    · exact .inl ⟨m, a, by omega, c, d⟩
    · by_cases hr : f (j + 1 + 1) ≤ r
      · exact .inr hr
      · exact .inl ⟨j + 1, by omega, by omega, h, by omega⟩

/-- A number that is a day's has its day. -/
theorem day_exists {n : Int} (h : dayB n = true) : ∃ y m d : Nat, vldB y m d = true ∧ num y m d = n := by
  obtain ⟨a, b⟩ := dayB_t h
  obtain ⟨c, _, c1, hlo, hup⟩ := year_of n a b
  obtain ⟨Y, hY⟩ : ∃ Y : Nat, (Y : Int) = 1 + (c : Int) := ⟨1 + c, by omega⟩
  rw [← hY] at hlo hup
  have hs := ahd_succ Y
  rcases find_step (fun m => cum Y m) (n + 719162 - ahd Y) (by rw [show ((1 : Nat) : Int) = 1 from rfl, cum_one]; omega) 12 with ⟨m, m1, m2, ha, hb⟩ | hbad
  · have hcs := cum_succ Y m (by omega) (by omega)
    rw [show ((m + 1 : Nat) : Int) = (m : Int) + 1 by omega, hcs] at hb
    refine ⟨Y, m, (n + 719162 - ahd Y - cum Y m + 1).toNat, ?_, ?_⟩
    · rw [show (((n + 719162 - ahd Y - cum Y m + 1).toNat : Nat) : Int) = n + 719162 - ahd Y - cum Y m + 1 by omega]
      exact vld_of n Y m (by omega) (by omega) (by omega) (by omega) (by omega) (by omega)
    · rw [show (((n + 719162 - ahd Y - cum Y m + 1).toNat : Nat) : Int) = n + 719162 - ahd Y - cum Y m + 1 by omega]
      exact num_of n Y m
  · have := cum_13 Y
    have e : cum (Y : Int) ((12 + 1 : Nat) : Int) = cum Y 13 := rfl
    omega

def rightB (d s z : Int) : Bool := dayB d && decide (0 ≤ s ∧ s ≤ 86399 ∧ -5999 ≤ z ∧ z ≤ 5999)

set_option maxHeartbeats 1000000 in
theorem isRight_any (b : Nat) (d s z : Int) (l : ByteArray) (w : World) (hM : Mom w b d s z l) :
    Calls Tryd.prog 53 #[.pointer (some ⟨b, 0, none⟩)] w fun e w' => e = .returned (.bool (rightB d s z)) ∧ w' = w := by
  have HI := fun W => isDay_any d W
  have c0 : w.cell? ⟨b, 0, none⟩ = some (.int .i64 d) := (Blk.cell hM 0).trans rfl
  have c1 : w.cell? ⟨b, 1, none⟩ = some (.int .i64 s) := (Blk.cell hM 1).trans rfl
  have c2 : w.cell? ⟨b, 2, none⟩ = some (.int .i64 z) := (Blk.cell hM 2).trans rfl
  clear hM
  unfold rightB
  cases hd : dayB d
  · rw [hd] at HI
    simp only [Bool.false_and]
    go_enter Tryd.func53, Tryd.ntmps53
    go_wp2_with (go_at_call 65; refine (HI _).mono ?_; rintro e w' ⟨rfl, rfl⟩)
    go_ret
    exact ⟨rfl, rfl⟩
  rw [hd] at HI
  simp only [Bool.true_and]
  by_cases a1 : 0 ≤ s
  · by_cases a2 : s ≤ 86399
    · by_cases a3 : -5999 ≤ z
      · by_cases a4 : z ≤ 5999
        · rw [decide_eq_true ⟨a1, a2, a3, a4⟩]
          go_enter Tryd.func53, Tryd.ntmps53
          go_wp2_with (go_at_call 65; refine (HI _).mono ?_; rintro e w' ⟨rfl, rfl⟩)
          go_ret
          exact ⟨rfl, rfl⟩
        · rw [decide_eq_false (by omega)]
          have a4' : decide (z ≤ 5999) = false := decide_eq_false a4
          go_enter Tryd.func53, Tryd.ntmps53
          go_wp2_with (go_at_call 65; refine (HI _).mono ?_; rintro e w' ⟨rfl, rfl⟩)
          go_ret
          exact ⟨rfl, rfl⟩
      · rw [decide_eq_false (by omega)]
        go_enter Tryd.func53, Tryd.ntmps53
        go_wp2_with (go_at_call 65; refine (HI _).mono ?_; rintro e w' ⟨rfl, rfl⟩)
        go_ret
        exact ⟨rfl, rfl⟩
    · rw [decide_eq_false (by omega)]
      go_enter Tryd.func53, Tryd.ntmps53
      go_wp2_with (go_at_call 65; refine (HI _).mono ?_; rintro e w' ⟨rfl, rfl⟩)
      go_ret
      exact ⟨rfl, rfl⟩
  · rw [decide_eq_false (by omega)]
    go_enter Tryd.func53, Tryd.ntmps53
    go_wp2_with (go_at_call 65; refine (HI _).mono ?_; rintro e w' ⟨rfl, rfl⟩)
    go_ret
    exact ⟨rfl, rfl⟩

set_option maxHeartbeats 1000000 in
theorem wSep {u W : World} {l : List UInt8} (h : Wr u W l) (c : UInt8) (x : Int) (hx : x = (c.toNat : Int)) (n : Nat) (hn : n < 100) (hl : l.length ≤ 800) :
    Calls Tryd.prog 54 #[.int .u8 x, .int .i64 (n : Int), .pointer (some ⟨u.heap.size, 0, none⟩)] W fun e w' => e = .returned (.tuple #[]) ∧ Wr u w' (l ++ ([c] ++ twoL n)) := by
  have H1 := hide (wByte h c x hx (by omega))
  clear h hx
  go_enter Tryd.func54, Tryd.ntmps54
  go_wp2_with fail
  refine (unhide H1).mono ?_
  rintro e W1 ⟨rfl, h1⟩
  have H2 := hide (wTwo h1 n hn (by simp; omega))
  clear h1 H1
  go_wp2_with fail
  refine (unhide H2).mono ?_
  rintro e W2 ⟨rfl, h2⟩
  go_wp2
  go_end0
  exact ⟨rfl, by rw [List.append_assoc] at h2; exact h2⟩

end Go.Proofs.YthpjogfclklefaaDoor
