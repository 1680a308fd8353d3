/-
  What the document's fine and Make of box do, over this seat's program.
-/
import Derived.Test.YthpjogfclklefaaDoorBck
set_option linter.unusedVariables false
set_option linter.unusedSimpArgs false
namespace Go.Proofs.YthpjogfclklefaaDoor
open Go.RowKit

set_option maxHeartbeats 1000000 in
theorem refFine_any (f : Nat) (d s z : Int) (raw : ByteArray) (w : World) (hr : raw.size ≤ 16777216) : Calls Tryd.prog 29 #[.int .u8 (f : Int), .agg #[.int .i64 d, .int .i64 s, .int .i64 z], .string raw] w fun e w' => e = .returned (.bool (decide (f ≤ 31) && (rightB d s z && decide (raw.size ≤ 65536)))) ∧ Below w.heap.size w w' := by
  have hw : ∃ (t : ByteArray) (k : Nat), (k = if rightB d s z = true then 0 else 2) ∧ ∀ W, Calls Tryd.prog 41 #[.agg #[.int .i64 d, .int .i64 s, .int .i64 z]] W fun e w' => e = .returned (.tuple #[.string t, .int .i64 (k : Int)]) ∧ Below W.heap.size W w' := by
    cases h : rightB d s z with
    | false => exact ⟨_, 2, rfl, fun W => refWriteT_no d s z W h⟩
    | true =>
      have h2 := h
      unfold rightB at h2
      rw [Bool.and_eq_true, decide_eq_true_eq] at h2
      obtain ⟨y, m, dd, hv, hn⟩ := day_exists h2.1
      obtain ⟨k, hk⟩ : ∃ k : Nat, s = (k : Int) := ⟨s.toNat, by omega⟩
      subst hk
      exact ⟨_, 0, rfl, fun W => refWriteT_yes y m dd k d z W hv hn (by omega) (by omega) (by omega)⟩
  obtain ⟨t, k, hk, hW⟩ := hw
  have HW := hide hW
  clear hW
  have HA := hide (show Below w.heap.size w (w.alloc (.cells #[.int .i64 d, .int .i64 s, .int .i64 z] 31)) from (Below.refl _ w).alloc (Nat.le_refl _) _)
  obtain ⟨r, hrr⟩ : ∃ r, rightB d s z = r := ⟨_, rfl⟩
  rw [hrr] at hk ⊢
  clear hrr
  obtain ⟨L, hL⟩ : ∃ L, raw.size = L := ⟨_, rfl⟩
  rw [hL] at hr ⊢
  by_cases hf : f ≤ 31
  · have df : decide ((f : Int) ≤ 31) = true := decide_eq_true (by omega)
    rw [decide_eq_true hf, Bool.true_and]
    clear hf
    cases r with
    | false =>
      rw [if_neg (by simp)] at hk
      subst hk
      go_enter Tryd.func29, Tryd.ntmps29
      go_wp2_with fail
      refine (unhide HW _).mono ?_
      rintro e w1 ⟨rfl, b1⟩
      have HB := hide (show Below w.heap.size w w1 from by first | exact belows' (unhide HA) b1 | exact b1)
      clear b1 HA
      go_wp2
      go_ret
      exact ⟨rfl, unhide HB⟩
    | true =>
      rw [if_pos rfl] at hk
      subst hk
      have hc : decide ((L : Int) ≤ 65536) = decide (L ≤ 65536) := by rw [decide_eq_decide]; omega
      rw [Bool.true_and]
      go_enter Tryd.func29, Tryd.ntmps29
      go_wp2_with fail
      refine (unhide HW _).mono ?_
      rintro e w1 ⟨rfl, b1⟩
      have HB := hide (show Below w.heap.size w w1 from by first | exact belows' (unhide HA) b1 | exact b1)
      clear b1 HA
      go_wp2
      go_ret
      exact ⟨rfl, unhide HB⟩
  · have df : decide ((f : Int) ≤ 31) = false := decide_eq_false (by omega)
    rw [decide_eq_false hf, Bool.false_and]
    clear hf
    cases r with
    | false =>
      rw [if_neg (by simp)] at hk
      subst hk
      go_enter Tryd.func29, Tryd.ntmps29
      go_wp2_with fail
      refine (unhide HW _).mono ?_
      rintro e w1 ⟨rfl, b1⟩
      have HB := hide (show Below w.heap.size w w1 from by first | exact belows' (unhide HA) b1 | exact b1)
      clear b1 HA
      go_wp2
      go_ret
      exact ⟨rfl, unhide HB⟩
    | true =>
      rw [if_pos rfl] at hk
      subst hk
      go_enter Tryd.func29, Tryd.ntmps29
      go_wp2_with fail
      refine (unhide HW _).mono ?_
      rintro e w1 ⟨rfl, b1⟩
      have HB := hide (show Below w.heap.size w w1 from by first | exact belows' (unhide HA) b1 | exact b1)
      clear b1 HA
      go_wp2
      go_ret
      exact ⟨rfl, unhide HB⟩
set_option maxHeartbeats 1000000 in
theorem refBMake_any (va : Nat) (w : World) : Calls Tryd.prog 9 #[.int .u32 (va : Int)] w fun e w' => e = .returned (.tuple #[bxV (makeB va) (.slice none 0 0), .int .i64 (if va = 0 then 1 else 0)]) ∧ Below w.heap.size w w' := by
  have hb := hide ((Below.refl _ w).alloc (Nat.le_refl _) (Obj.cells #[.int .u32 0, .int .u64 0, .int .u32 0, .int .u32 0, .slice none 0 0] 26))
  by_cases h : va = 0
  · have d : ((va : Int) == 0) = true := by simp; omega
    unfold makeB
    rw [if_pos h, if_pos h]
    clear h
    simp only [bxV, bxC]
    go_enter Tryd.func9, Tryd.ntmps9
    go_wp2
    refine bodyPost_ret (v := .tuple #[.agg #[.int .u32 0, .int .u64 0, .int .u32 0, .int .u32 0, .slice none 0 0], .int .i64 1]) ?_ rfl ⟨rfl, unhide hb⟩
    rw [results_cell_tmp rfl]
    go_simp
  · have d : ((va : Int) == 0) = false := by simp; omega
    unfold makeB
    rw [if_neg h, if_neg h]
    clear h
    simp only [bxV, bxC]
    go_enter Tryd.func9, Tryd.ntmps9
    go_wp2
    refine bodyPost_ret (v := .tuple #[.agg #[.int .u32 (va : Int), .int .u64 1, .int .u32 0, .int .u32 0, .slice none 0 0], .int .i64 0]) ?_ rfl ⟨rfl, (Below.refl _ w).alloc (Nat.le_refl _) _⟩
    rw [results_cell_tmp rfl]
    go_simp
end Go.Proofs.YthpjogfclklefaaDoor
