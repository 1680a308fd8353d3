/-
  What slices.BinarySearch does in a list of numbers that rise, over this seat's program.
-/
import Derived.Test.YthpjogfclklefaaDoorBcp
set_option linter.unusedVariables false
namespace Go.Proofs.YthpjogfclklefaaDoor
open Go.RowKit Go.Proofs.Num Go.Proofs.Dct

set_option maxHeartbeats 1000000 in
theorem isNaN_any (a : Int) (w : World) : Calls Tryd.prog 60 #[.int .u32 a] w fun e w' => e = .returned (.bool false) ∧ w' = w := by
  go_enter Tryd.func60, Tryd.ntmps60
  go_wp2
  go_ret
  simp
set_option maxHeartbeats 1000000 in
theorem isNaNS_any (a : Int) (w : World) : Calls Tryd.prog 62 #[.int .u32 a] w fun e w' => e = .returned (.bool false) ∧ w' = w := by
  go_enter Tryd.func62, Tryd.ntmps62
  go_wp2
  go_ret
  simp
set_option maxHeartbeats 1000000 in
theorem less32_any (a b : Nat) (w : World) : Calls Tryd.prog 61 #[.int .u32 (a : Int), .int .u32 (b : Int)] w fun e w' => e = .returned (.bool (decide (a < b))) ∧ w' = w := by
  go_enter Tryd.func61, Tryd.ntmps61
  go_wp2_with (go_at_call 60; refine (isNaN_any _ _).mono ?_; rintro e w' ⟨rfl, rfl⟩)
  go_ret
  simp

theorem rise_upto {l : List Nat} {n m : Nat} (hr : l.Pairwise (· < ·)) (hm : m < l.length) (h : l[m] < n) : ∀ y ∈ l.take (m + 1), y < n := by
  intro y hy
  obtain ⟨k, hk, rfl⟩ := List.getElem_of_mem hy
  rw [List.getElem_take]
  rw [List.length_take] at hk
  by_cases hkm : k = m
  · subst hkm; exact h
  · have := List.pairwise_iff_getElem.1 hr k m (by omega) hm (by omega)
    omega
theorem rise_from {l : List Nat} {n m : Nat} (hr : l.Pairwise (· < ·)) (hm : m < l.length) (h : ¬ l[m] < n) : ∀ y ∈ l.drop m, n ≤ y := by
  intro y hy
  obtain ⟨k, hk, rfl⟩ := List.getElem_of_mem hy
  rw [List.getElem_drop]
  rw [List.length_drop] at hk
  by_cases hk0 : k = 0
  · subst hk0; simp only [Nat.add_zero]; omega
  · have := List.pairwise_iff_getElem.1 hr m (m + k) hm (by omega) (by omega)
    omega
theorem rise_in {l : List Nat} {n i : Nat} (hr : l.Pairwise (· < ·)) (hi : i < l.length) (ha : ∀ y ∈ l.take i, y < n) (hb : ∀ y ∈ l.drop i, n ≤ y) : decide (n ∈ l) = decide (l[i] = n) := by
  rw [decide_eq_decide]
  constructor
  · intro h
    obtain ⟨k, hk, he⟩ := List.getElem_of_mem h
    by_cases h1 : k < i
    · have := ha l[k] (List.mem_take_iff_getElem.2 ⟨k, by omega, rfl⟩)
      omega
    · by_cases h2 : k = i
      · subst h2; exact he
      · have h3 := List.pairwise_iff_getElem.1 hr i k hi hk (by omega)
        have h4 := hb l[i] (by rw [List.drop_eq_getElem_cons hi]; exact List.mem_cons_self)
        omega
  · intro h
    rw [← h]
    exact List.getElem_mem hi

set_option maxHeartbeats 2000000 in
set_option maxRecDepth 100000 in
theorem bsearch_any (v : Value) (l : List Nat) (n : Nat) (w : World) (h : Row32 w v l) (hn : n ≤ 4294967295) (hl : l.length ≤ 65536) (hr : l.Pairwise (· < ·)) :
    Calls Tryd.prog 47 #[v, .int .u32 (n : Int)] w fun e w' => (∃ i, e = .returned (.tuple #[i, .bool (decide (n ∈ l))])) ∧ w' = w := by
  have HR := hide h
  have HRI := hide hr
  obtain ⟨a, cap, hv, hl4, hfit, _⟩ := h
  subst hv
  have HFT := hide hfit
  obtain ⟨T, hT⟩ : ∃ T, T = l.length := ⟨_, rfl⟩
  rw [← hT] at HR hl4 hl ⊢
  have HTL := hide hT
  have HLS := hide (fun a b W => less32_any a b W)
  clear hT hfit hr
  go_enter Tryd.func47, Tryd.ntmps47
  go_wp2
  go_loopw [7, 8, 9] (fun x z _ wr => ∃ i j : Nat, x = .int .i64 (i : Int) ∧ z = .int .i64 (j : Int) ∧ i ≤ j ∧ j ≤ T ∧ Hid (∀ y ∈ l.take i, y < n) ∧ Hid (∀ y ∈ l.drop j, n ≤ y) ∧ wr = w) (fun x z _ _ => (intOf z).toNat - (intOf x).toNat)
  case atStart => exact ⟨0, T, rfl, rfl, Nat.zero_le _, Nat.le_refl _, hide (by simp), hide (by rw [List.drop_of_length_le (by have := unhide HTL; omega)]; simp), rfl⟩
  case round =>
    obtain ⟨i, j, rfl, rfl, hij, hj, HA, HB, rfl⟩ := hrel
    by_cases hlt : i < j
    · have hlt1 : (i : Int) < (j : Int) := by omega
      obtain ⟨m, hm⟩ : ∃ m, m = (i + j) / 2 := ⟨_, rfl⟩
      have hmd : ((i : Int) + (j : Int)) / 2 = (m : Int) := by omega
      have him : i ≤ m := by omega
      have hmj : m < j := by omega
      have hml : m < l.length := by have := unhide HTL; omega
      have hmT : (m : Int) < (T : Int) := by omega
      obtain ⟨b, off, cap', hv', hblt, hcell⟩ := RowG.at cells32_len (unhide HR) (j := m) hml
      injection hv' with e1 e2 e3
      subst e1
      have c0 := hcell 0 (by omega)
      simp only [cells32, List.getElem?_cons_zero, Nat.add_zero, Nat.mul_one] at c0
      have hx := unhide HFT l[m] (List.getElem_mem hml)
      have HUP : Hid (l[m] < n → ∀ y ∈ l.take (m + 1), y < n) := hide (rise_upto (unhide HRI) hml)
      have HDN : Hid (¬ l[m] < n → ∀ y ∈ l.drop m, n ≤ y) := hide (rise_from (unhide HRI) hml)
      clear e2 e3 hcell hm
      generalize l[m] = x at c0 hx HUP HDN
      have hms : IntKind.i64.wrap ((m : Int) + 1) = ((m + 1 : Nat) : Int) := by rw [IntKind.wrap_i64]; omega
      by_cases hxn : x < n
      · have HA2 := hide (unhide HUP hxn)
        have hdx : decide (x < n) = true := decide_eq_true hxn
        clear HUP HDN HA
        go_wp2_with (go_at_call 61; refine (unhide HLS _ _ _).mono ?_; rintro e w' ⟨rfl, rfl⟩)
        go_roundw
        case rel => exact ⟨m + 1, j, by first | rw [hms] | rfl | (congr 1), rfl, by omega, hj, HA2, HB, trivial⟩
        case measure => simp [intOf]; omega
      · have HB2 := hide (unhide HDN hxn)
        have hdx : decide (x < n) = false := decide_eq_false hxn
        clear HUP HDN HB
        go_wp2_with (go_at_call 61; refine (unhide HLS _ _ _).mono ?_; rintro e w' ⟨rfl, rfl⟩)
        go_roundw
        case rel => exact ⟨i, m, rfl, by first | rfl | (congr 1), him, by omega, HA, HB2, trivial⟩
        case measure => simp [intOf]; omega
    · have hlt1 : ¬ (i : Int) < (j : Int) := by omega
      have hie : i = j := by omega
      subst hie
      by_cases hiT : i < T
      · have hiT1 : (i : Int) < (T : Int) := by omega
        have hil : i < l.length := by have := unhide HTL; omega
        obtain ⟨b, off, cap', hv', hblt, hcell⟩ := RowG.at cells32_len (unhide HR) (j := i) hil
        injection hv' with e1 e2 e3
        subst e1
        have c0 := hcell 0 (by omega)
        simp only [cells32, List.getElem?_cons_zero, Nat.add_zero, Nat.mul_one] at c0
        have hx := unhide HFT l[i] (List.getElem_mem hil)
        have HIN : Hid (decide (n ∈ l) = decide (l[i] = n)) := hide (rise_in (unhide HRI) hil (unhide HA) (unhide HB))
        clear e2 e3 hcell
        generalize l[i] = x at c0 hx HIN
        by_cases hxn : x = n
        · have hb : ((x : Int) == (n : Int)) = true := by rw [hxn]; simp
          have HF : Hid (decide (n ∈ l) = true) := hide (by rw [unhide HIN, hxn]; simp)
          clear hxn HIN
          go_wp2_with fail
          refine bodyPost_ret (results_tmp2 rfl _ _ _) rfl ?_
          exact ⟨⟨_, by rw [unhide HF]; rfl⟩, rfl⟩
        · have hb : ((x : Int) == (n : Int)) = false := by simp; omega
          have HF : Hid (decide (n ∈ l) = false) := hide (by rw [unhide HIN]; simp [hxn])
          clear hxn HIN
          go_wp2_with (go_at_call 62; refine (isNaNS_any _ _).mono ?_; rintro e w' ⟨rfl, rfl⟩)
          refine bodyPost_ret (results_tmp2 rfl _ _ _) rfl ?_
          exact ⟨⟨_, by rw [unhide HF]; rfl⟩, rfl⟩
      · have hiT1 : ¬ (i : Int) < (T : Int) := by omega
        have HF : Hid (decide (n ∈ l) = false) := hide (decide_eq_false (fun h => by
          have h1 := unhide HA n (by rw [List.take_of_length_le (by have := unhide HTL; omega)]; exact h)
          omega))
        go_wp2_with fail
        refine bodyPost_ret (results_tmp2 rfl _ _ _) rfl ?_
        exact ⟨⟨_, by rw [unhide HF]; rfl⟩, rfl⟩
end Go.Proofs.YthpjogfclklefaaDoor
