/-
  What date.Civil does, over this seat's program: sort.Search by the library's contract.
-/
import Derived.Test.YthpjogfclklefaaDoorDdc
import Derived.Shelf.SlSorted.Search
set_option linter.unusedVariables false
namespace Go.Proofs
def Tryd.search_ren : Go.Shelf.Ren := ⟨fun | 16 => 68 | n => n, fun | 3 => 3 | 4 => 4 | 35 => 103 | 38 => 97 | n => n, fun | n => n⟩
theorem Tryd.search_lays : Go.Proofs.SlLaysO.n16 Tryd.prog Tryd.search_ren := {
  mixed := by kernel_rfl
  f16 := Tryd.func68.trans (congrArg some (by kernel_rfl))
  t3 := Tryd.underlying3
  a3 := Tryd.isAgg3
  z3 := Tryd.sizeOf3
  v3 := Tryd.zeroValue3
  t4 := Tryd.underlying4
  a4 := Tryd.isAgg4
  z4 := Tryd.sizeOf4
  v4 := Tryd.zeroValue4
  t35 := Tryd.underlying103
  a35 := Tryd.isAgg103
  z35 := Tryd.sizeOf103
  v35 := Tryd.zeroValue103
  t38 := Tryd.underlying97
  a38 := Tryd.isAgg97
  z38 := Tryd.sizeOf97
  v38 := Tryd.zeroValue97 }
end Go.Proofs
namespace Go.Proofs.YthpjogfclklefaaDoor
open Go.RowKit Go.Proofs.Dcl Go.Shelf Go.Lib Go.Sort

/-- Whether a year behind is one too many. -/
def tooB (n : Int) (i : Nat) : Bool := decide (n < -719162 + ahd (i + 2))

theorem too_mono (n : Int) (a b : Nat) (h : a ≤ b) (ha : tooB n a = true) : tooB n b = true := by
  unfold tooB at *
  have := of_decide_eq_true ha
  have := ahd_mono ((a : Int) + 2) ((b : Int) + 2) (by omega)
  exact decide_eq_true (by omega)

theorem count_mono (n : Nat) (p : Nat → Bool) (hm : ∀ a b, a ≤ b → b < n → p a = true → p b = true) :
    (List.range n).countP (fun i => !p i) ≤ n ∧ ∀ i, i < n → (p i = true ↔ (List.range n).countP (fun i => !p i) ≤ i) := by
  induction n with
  | zero => exact ⟨by simp, fun i hi => by omega⟩
  | succ n ih =>
    obtain ⟨h1, h2⟩ := ih (fun a b hab hb => hm a b hab (by omega))
    rw [List.range_succ, List.countP_append]
    cases hp : p n
    · have hall : ∀ i, i < n → p i = false := by
        intro i hi
        cases hpi : p i
        · rfl
        · rw [hm i n (by omega) (by omega) hpi] at hp; cases hp
      have hc : (List.range n).countP (fun i => !p i) = n := by
        rw [List.countP_eq_length.2 (fun a ha => by rw [hall a (by simpa using ha)]; rfl)]
        simp
      have h1 : List.countP (fun i => !p i) [n] = 1 := by simp [hp]
      rw [hc, h1]
      refine ⟨by omega, fun i hi => ?_⟩
      by_cases e : i = n
      · subst e; rw [hp]; simp
      · rw [hall i (by omega)]; constructor
        · intro h; cases h
        · intro h; omega
    · have h0 : List.countP (fun i => !p i) [n] = 0 := by simp [hp]
      rw [h0, Nat.add_zero]
      refine ⟨by omega, fun i hi => ?_⟩
      by_cases e : i = n
      · subst e; rw [hp]; simp; exact h1
      · exact h2 i (by omega)

/-- The year that is found. -/
theorem year_of (n : Int) (a : -719162 ≤ n) (b : n ≤ 2932896) :
    ∃ c : Nat, (List.range 9998).countP (fun i => !tooB n i) = c ∧ c ≤ 9998 ∧ -719162 + ahd (1 + c) ≤ n ∧ n < -719162 + ahd (1 + c + 1) := by
  obtain ⟨h1, h2⟩ := count_mono 9998 (tooB n) (fun a b hab _ h => too_mono n a b hab h)
  refine ⟨_, rfl, h1, ?_, ?_⟩
  · generalize (List.range 9998).countP (fun i => !tooB n i) = c at h1 h2
    cases c with
    | zero => have := ahd_one; simp; omega
    | succ k =>
      have h : ¬ tooB n k = true := fun h => by have := (h2 k (by omega)).1 h; omega
      unfold tooB at h
      rw [decide_eq_true_eq] at h
      rw [show (1 : Int) + ((k + 1 : Nat) : Int) = (k : Int) + 2 by omega]
      omega
  · generalize (List.range 9998).countP (fun i => !tooB n i) = c at h1 h2
    by_cases e : c = 9998
    · subst e
      have := ahd_max
      show n < -719162 + ahd 10000
      omega
    · have h := (h2 c (by omega)).2 (Nat.le_refl _)
      unfold tooB at h
      rw [decide_eq_true_eq] at h
      rw [show (1 : Int) + (c : Int) + 1 = (c : Int) + 2 by omega]
      exact h

set_option maxHeartbeats 1000000 in
theorem closure_any (n : Int) (i : Nat) (B : Nat) (w : World) (hi : i < 9998) (hc : w.cell? ⟨B, 0, none⟩ = some (.int .i64 n)) :
    Calls Tryd.prog 69 #[.int .i64 i, .pointer (some ⟨B, 0, none⟩)] w fun e w' => e = .returned (.bool (tooB n i)) ∧ ∃ q, w' = w.drewN q := by
  have HF := fun W => firstDay_any ((i : Int) + 2) W (by omega) (by omega)
  have hb := ahd_bd ((i : Int) + 2) (by omega) (by omega)
  go_enter Tryd.func69, Tryd.ntmps69
  go_wp2
  go_quiet ((go_at_call 70; exact Calls.quiet_of_same (HF _)))
  go_wp2
  go_ret
  exact ⟨rfl, nq, rfl⟩

theorem drewB {B : Nat} {a w : World} (h : Below B a w) (n : Nat) : Below B a (w.drewN n) := ⟨h.os, h.tape, h.output, h.size, h.block⟩
theorem grow_empty (w : World) : grow w #[] = w := by cases w; simp [grow]

theorem enter33 : ∀ args w, (callFunc 69 args).run Tryd.prog w = .ok (.enter 69 args) w := by
  intro args w
  go_simp

set_option maxHeartbeats 4000000 in
theorem civil_any (n : Int) (w : World) (ht : LTab w) :
    Calls Tryd.prog 57 #[.int .i64 n] w fun e w' => ∃ v, e = .returned v ∧ CivIs n v ∧ Below w.heap.size w w' := by
  have HI := fun W => isDay_any n W
  cases hd : dayB n
  · have hv : CivIs n (.tuple #[.int .i64 0, .int .i64 0, .int .i64 0, .int .i64 1]) := .inl ⟨hd, rfl⟩
    rw [hd] at HI
    clear hd ht
    go_enter Tryd.func57, Tryd.ntmps57
    go_wp2_with (go_at_call 65; refine (HI _).mono ?_; rintro e w' ⟨rfl, rfl⟩)
    (try simp only [Exit.inBlock, Exit.then])
    refine bodyPost_ret (results_tmp4 rfl _ _ _) rfl ?_
    exact ⟨_, rfl, hv, (Below.refl _ _).alloc (Nat.le_refl _) _⟩
  · obtain ⟨a, b⟩ := dayB_t hd
    rw [hd] at HI
    have hv : Hid (∀ y m d : Int, vldB y m d = true → num y m d = n → CivIs n (.tuple #[.int .i64 y, .int .i64 m, .int .i64 d, .int .i64 0])) := fun y m d h1 h2 => .inr ⟨hd, y, m, d, h1, h2, rfl⟩
    clear hd
    obtain ⟨c, hc, c1, hlo, hup⟩ := year_of n a b
    obtain ⟨Y, hY⟩ : ∃ Y : Int, Y = 1 + (c : Int) := ⟨_, rfl⟩
    rw [← hY] at hlo hup
    have y1 : 1 ≤ Y := by omega
    have y2 : Y ≤ 9999 := by omega
    have HS := hid (Go.Proofs.Any.sort_Search Tryd.search_lays 69 #[.pointer (some ⟨w.heap.size, 0, none⟩)] 9998 (tooB n) (w.alloc (.cells #[.int .i64 n] 3)) enter33 (by omega)
      (fun m os i hi => (closure_any n i w.heap.size _ hi (cell_grown (by simp) (cell_new_sl w _ _) m os)).mono (fun e w' ⟨h1, q, h2⟩ => ⟨h1, q, #[], by rw [h2, grow_empty]⟩))
      (fun a b hab _ h => too_mono n a b hab h))
    rw [hc] at HS
    have HY := hid hY
    have hbd := ahd_bd Y (by omega) (by omega)
    have hsu := ahd_succ Y
    have hl := lp_01 Y
    have HF := fun W => firstDay_any Y W (by omega) (by omega)
    clear hY hc
    have HT := hid ht
    clear ht
    go_enter Tryd.func57, Tryd.ntmps57
    go_wp2_with (go_at_call 65; refine (HI _).mono ?_; rintro e w' ⟨rfl, rfl⟩)
    refine (unhid HS).mono ?_
    rintro e w1 ⟨rfl, q, os, rfl⟩
    have hb : Below w.heap.size w (grow ((w.alloc (.cells #[.int .i64 n] 3)).drewN q) os) :=
      ((Below.refl _ w).alloc (Nat.le_refl _) _).trans (below_grown_sl w.heap.size _ q os (by simp))
    have hcell : (grow ((w.alloc (.cells #[.int .i64 n] 3)).drewN q) os).cell? ⟨w.heap.size, 0, none⟩ = some (.int .i64 n) := cell_grown (by simp) (cell_new_sl w _ _) q os
    have HT1 := hid ((unhid HT).below hb)
    have HB := hid hb
    clear HT hb HS
    generalize grow ((w.alloc (.cells #[.int .i64 n] 3)).drewN q) os = u at hcell HT1 HB ⊢
    go_wp2
    rw [← unhid HY]
    clear HY c1
    go_quiet ((go_at_call 70; exact Calls.quiet_of_same (HF _)))
    have HT2 : LTab (u.drewN nq) := (unhid HT1).below (drewB (Below.refl _ u) nq)
    have HB2 := hid (drewB (unhid HB) nq)
    clear HT1 HB hcell
    generalize u.drewN nq = x at HT2 HB2 ⊢
    go_wp2
    go_loop [7, 8] (fun k r => ∃ m : Int, 1 ≤ m ∧ m ≤ 12 ∧ k = .int .i64 m ∧ 0 ≤ n + 719162 - ahd Y - cum Y m ∧ r = .int .i64 (n + 719162 - ahd Y - cum Y m + 1)) (fun k _ => (12 - intOf k).toNat)
    case atStart => exact ⟨1, by omega, by omega, rfl, by rw [cum_one]; omega, by rw [cum_one]; congr 1; omega⟩
    case round =>
      obtain ⟨m, hm1, hm2, rfl, hr, rfl⟩ := hrel
      have cb := cum_bd Y m hm1 (by omega)
      have db := dim_bd Y m
      have cs := cum_succ Y m hm1 hm2
      have HL := length_any Y m _ HT2 (by omega) (by omega) hm1 hm2
      by_cases hc : dim Y m < n + 719162 - ahd Y - cum Y m + 1
      · have hm : m < 12 := by
          by_cases e : m = 12
          · subst e
            have h13 := cum_13 Y
            have : cum Y (12 + 1) = cum Y 13 := rfl
            omega
          · omega
        go_wp2_with (go_at_call 71; refine HL.mono ?_; rintro e w' ⟨rfl, rfl⟩)
        go_round
        case rel => exact ⟨m + 1, by omega, by omega, rfl, by rw [cs]; omega, by rw [cs]; congr 1; omega⟩
        case measure => simp [intOf]; omega
      · have hvv := (unhid hv) _ _ _ (vld_of n Y m y1 y2 hm1 hm2 hr (by omega)) (num_of n Y m)
        go_wp2_with (go_at_call 71; refine HL.mono ?_; rintro e w' ⟨rfl, rfl⟩)
        (try simp only [Exit.inBlock, Exit.then])
        refine bodyPost_ret (results_tmp4 rfl _ _ _) rfl ?_
        exact ⟨_, rfl, hvv, unhid HB2⟩

end Go.Proofs.YthpjogfclklefaaDoor
