/-
  What the document's Civil does, over this seat's program.
-/
import Derived.Test.YthpjogfclklefaaDoorDdb
set_option linter.unusedVariables false
namespace Go.Proofs.YthpjogfclklefaaDoor
open Go.RowKit Go.Proofs.Dcl

theorem hid {p : Prop} (h : p) : Hid p := h
theorem unhid {p : Prop} (h : Hid p) : p := h

theorem results_tmp4 {fn : Func} {t u v x : Tmp} (h : fn.results = #[.tmp t, .tmp u, .tmp v, .tmp x]) (tmps : Array Value) (P : Program) (w : World) :
    (results fn tmps).run P w = .ok (.tuple #[tmps.getD t undef, tmps.getD u undef, tmps.getD v undef, tmps.getD x undef]) w := by
  simp [results, h]

/-- A step of the search for a year, and how far the year may lie. -/
def Step (S Q : Int) : Prop := (S = 0 ∧ Q = 1) ∨ (∃ j : Nat, j ≤ 13 ∧ S = (2 ^ j : Nat) ∧ Q = (2 ^ (j + 1) : Nat))
theorem step_half {S Q : Int} (h : Step S Q) (h0 : 0 < S) : Step (S / 2) S ∧ Q = 2 * S ∧ S ≤ 8192 := by
  rcases h with ⟨rfl, _⟩ | ⟨j, hj, rfl, rfl⟩
  · omega
  · have hle : (2 : Nat) ^ j ≤ 2 ^ 13 := Nat.pow_le_pow_right (by omega) hj
    have h13 : (2 : Nat) ^ 13 = 8192 := by decide
    refine ⟨?_, ?_, by omega⟩
    · cases j with
      | zero => left; simp
      | succ i =>
        right
        refine ⟨i, by omega, ?_, rfl⟩
        rw [Nat.pow_succ]; omega
    · rw [Nat.pow_succ]; omega
theorem step_first : Step 8192 16384 := Or.inr ⟨13, by omega, by decide, by decide⟩
theorem step_end {S Q : Int} (h : Step S Q) (h0 : ¬ 0 < S) : Q = 1 := by
  rcases h with ⟨_, h⟩ | ⟨j, hj, rfl, _⟩
  · exact h
  · have : 0 < (2 : Nat) ^ j := Nat.pow_pos (by omega)
    omega

theorem num_of (n y k : Int) : num y k (n + 719162 - ahd y - cum y k + 1) = n := by unfold num; omega
theorem vld_of (n y k : Int) (a : 1 ≤ y) (b : y ≤ 9999) (k1 : 1 ≤ k) (k2 : k ≤ 12) (c : 0 ≤ n + 719162 - ahd y - cum y k) (d : n + 719162 - ahd y - cum y k < dim y k) : vldB y k (n + 719162 - ahd y - cum y k + 1) = true :=
  vld_iff.2 ⟨a, b, k1, k2, by omega, by omega⟩

/-- What Civil tells of a number: its day. -/
def CivIs (n : Int) (v : Value) : Prop := (dayB n = false ∧ v = .tuple #[.int .i64 0, .int .i64 0, .int .i64 0, .int .i64 1]) ∨ (dayB n = true ∧ ∃ y m d : Int, vldB y m d = true ∧ num y m d = n ∧ v = .tuple #[.int .i64 y, .int .i64 m, .int .i64 d, .int .i64 0])
theorem CivIs.no {n : Int} {v : Value} (h : CivIs n v) (hd : dayB n = false) : v = .tuple #[.int .i64 0, .int .i64 0, .int .i64 0, .int .i64 1] := by
  rcases h with ⟨_, h⟩ | ⟨h, _⟩
  · exact h
  · rw [hd] at h; cases h
theorem CivIs.yes {n : Int} {v : Value} (h : CivIs n v) (hd : dayB n = true) : ∃ y m d : Int, vldB y m d = true ∧ num y m d = n ∧ v = .tuple #[.int .i64 y, .int .i64 m, .int .i64 d, .int .i64 0] := by
  rcases h with ⟨h, _⟩ | ⟨_, h⟩
  · rw [hd] at h; cases h
  · exact h

theorem day_of_vld {y m d : Int} (h : vldB y m d = true) : dayB (num y m d) = true := by
  have := num_bd h
  simp [dayB]; omega

theorem bound_after {n Y Q : Int} (hn : n ≤ 2932896) (hY : Y ≤ 9999) (hq : Q = 1) (h : Y + Q ≤ 9999 → n < -719162 + ahd (Y + Q)) : n < -719162 + ahd (Y + 1) := by
  subst hq
  by_cases e : Y = 9999
  · subst e
    have := ahd_max
    show n < -719162 + ahd 10000
    omega
  · exact h (by omega)

set_option maxHeartbeats 4000000 in
theorem refCivil_any (n : Int) (w : World) :
    Calls Tryd.prog 63 #[.int .i64 n] w fun e w' => ∃ v, e = .returned v ∧ CivIs n v ∧ w' = w := by
  cases hd : dayB n
  · have hv : CivIs n (.tuple #[.int .i64 0, .int .i64 0, .int .i64 0, .int .i64 1]) := .inl ⟨hd, rfl⟩
    rcases dayB_f hd with a | a
    · clear hd
      go_enter Tryd.func63, Tryd.ntmps63
      go_wp2
      (try simp only [Exit.inBlock, Exit.then])
      refine bodyPost_ret (results_tmp4 rfl _ _ _) rfl ?_
      exact ⟨_, rfl, hv, rfl⟩
    · have a' : ¬ n < -719162 := by omega
      clear hd
      go_enter Tryd.func63, Tryd.ntmps63
      go_wp2
      (try simp only [Exit.inBlock, Exit.then])
      refine bodyPost_ret (results_tmp4 rfl _ _ _) rfl ?_
      exact ⟨_, rfl, hv, rfl⟩
  · obtain ⟨a, b⟩ := dayB_t hd
    have HD := hd
    have hv : ∀ y m d : Int, vldB y m d = true → num y m d = n → CivIs n (.tuple #[.int .i64 y, .int .i64 m, .int .i64 d, .int .i64 0]) := fun y m d h1 h2 => .inr ⟨HD, y, m, d, h1, h2, rfl⟩
    clear hd HD
    go_enter Tryd.func63, Tryd.ntmps63
    go_wp2
    go_loop [6, 7] (fun y s => ∃ Y S Q : Int, y = .int .i64 Y ∧ s = .int .i64 S ∧ 0 ≤ S ∧ 1 ≤ Y ∧ Y ≤ 9999 ∧ Step S Q ∧ -719162 + ahd Y ≤ n ∧ (Y + Q ≤ 9999 → n < -719162 + ahd (Y + Q))) (fun _ s => (intOf s).toNat)
    case atStart => exact ⟨1, 8192, 16384, rfl, rfl, by omega, by omega, by omega, step_first, by rw [ahd_one]; omega, by omega⟩
    case round =>
      obtain ⟨Y, S, Q, rfl, rfl, s0, y1, y2, hS, hlo, hhi⟩ := hrel
      by_cases hs : 0 < S
      · obtain ⟨hS', rfl, s1⟩ := step_half hS hs
        clear hS
        by_cases c1 : Y + S ≤ 9999
        · have HA := fun W => refAhead_any (Y + S) W (by omega) (by omega)
          have hbd := ahd_bd (Y + S) (by omega) (by omega)
          by_cases c2 : -719162 + ahd (Y + S) ≤ n
          · have HHI := hid hhi
            clear hhi
            go_wp2_with (go_at_call 74; refine (HA _).mono ?_; rintro e w' ⟨rfl, rfl⟩)
            go_round
            case rel => exact ⟨Y + S, S / 2, S, rfl, rfl, by omega, by omega, by omega, hS', c2, by have := unhid HHI; rw [show Y + 2 * S = Y + S + S by omega] at this; exact this⟩
            case measure => simp [intOf]; omega
          · clear hhi
            go_wp2_with (go_at_call 74; refine (HA _).mono ?_; rintro e w' ⟨rfl, rfl⟩)
            go_round
            case rel => exact ⟨Y, S / 2, S, rfl, rfl, by omega, by omega, by omega, hS', hlo, fun _ => by omega⟩
            case measure => simp [intOf]; omega
        · clear hhi
          go_wp2
          go_round
          case rel => exact ⟨Y, S / 2, S, rfl, rfl, by omega, by omega, by omega, hS', hlo, fun h => absurd h c1⟩
          case measure => simp [intOf]; omega
      · have hq := step_end hS hs
        have hup := bound_after b y2 hq hhi
        have HA := fun W => refAhead_any Y W (by omega) (by omega)
        have hbd := ahd_bd Y (by omega) (by omega)
        have hsu := ahd_succ Y
        have hl := lp_01 Y
        clear hS hhi
        go_wp2_with (go_at_call 74; refine (HA _).mono ?_; rintro e w' ⟨rfl, rfl⟩)
        go_loop [8, 9] (fun r k => ∃ m : Int, 1 ≤ m ∧ m ≤ 12 ∧ k = .int .i64 m ∧ 0 ≤ n + 719162 - ahd Y - cum Y m ∧ r = .int .i64 (n + 719162 - ahd Y - cum Y m)) (fun _ k => (12 - intOf k).toNat)
        case atStart => exact ⟨1, by omega, by omega, rfl, by rw [cum_one]; omega, by rw [cum_one]; simp⟩
        case round =>
          obtain ⟨m, hm1, hm2, rfl, hr, rfl⟩ := hrel
          have cb := cum_bd Y m hm1 (by omega)
          have db := dim_bd Y m
          have cs := cum_succ Y m hm1 hm2
          have HL := fun W => refLong_any Y m W (by omega) (by omega) hm1 hm2
          by_cases hc : dim Y m ≤ n + 719162 - ahd Y - cum Y m
          · have hm : m < 12 := by
              by_cases e : m = 12
              · subst e
                have h13 := cum_13 Y
                have : cum Y (12 + 1) = cum Y 13 := rfl
                omega
              · omega
            go_wp2_with (go_at_call 75; refine (HL _).mono ?_; rintro e w' ⟨rfl, rfl⟩)
            go_round
            case rel => exact ⟨m + 1, by omega, by omega, rfl, by rw [cs]; omega, by rw [cs]; go_num⟩
            case measure => simp [intOf]; omega
          · have hvv := hv _ _ _ (vld_of n Y m y1 y2 hm1 hm2 hr (by omega)) (num_of n Y m)
            go_wp2_with (go_at_call 75; refine (HL _).mono ?_; rintro e w' ⟨rfl, rfl⟩)
            (try simp only [Exit.inBlock, Exit.then])
            refine bodyPost_ret (results_tmp4 rfl _ _ _) rfl ?_
            exact ⟨_, rfl, hvv, rfl⟩

end Go.Proofs.YthpjogfclklefaaDoor
