/-
  Mails of a box as they lie in memory; what box.areFlags and isTime, and the document's fine, do, over this seat's program.
-/
import Derived.Test.YthpjogfclklefaaDoorRwg
import Derived.Test.YthpjogfclklefaaDoorDwz
import Derived.Test.YthpjogfclklefaaDoorRwt
import Derived.BigQuiet
import Derived.Laws.BitsAll
set_option linter.unusedVariables false
set_option linter.unusedSimpArgs false
namespace Go.Proofs.YthpjogfclklefaaDoor
open Go.RowKit

/-- A mail of a box. -/
structure Msg where
  uid : Nat
  fl : Nat
  dy : Int
  sc : Int
  zn : Int
  raw : ByteArray
def msC (m : Msg) : List Value := [.int .u32 (m.uid : Int), .int .u8 (m.fl : Int), .int .i64 m.dy, .int .i64 m.sc, .int .i64 m.zn, .string m.raw]
theorem msC_len (m : Msg) : (msC m).length = 6 := rfl
def I64 (n : Int) : Prop := -9223372036854775808 ≤ n ∧ n ≤ 9223372036854775807
def FitM (m : Msg) : Prop := m.uid ≤ 4294967295 ∧ m.fl ≤ 255 ∧ I64 m.dy ∧ I64 m.sc ∧ I64 m.zn ∧ m.raw.size ≤ 16777216
abbrev RowM := RowG msC FitM

theorem and224 (f : Nat) (h : f ≤ 255) : decide (f &&& 224 = 0) = decide (f ≤ 31) := by
  have key : ∀ n : Fin 256, decide (n.val &&& 224 = 0) = decide (n.val ≤ 31) := by decide +kernel
  exact key ⟨f, by omega⟩
set_option maxHeartbeats 400000 in
theorem areFlags_any (f : Nat) (w : World) (hf : f ≤ 255) : Calls Tryd.prog 30 #[.int .u8 (f : Int)] w fun e w' => e = .returned (.bool (decide (f ≤ 31))) ∧ w' = w := by
  have hk : bits .andNot .u8 (f : Int) 31 = ((f &&& 224 : Nat) : Int) := by
    have := u8_andNot_nat f 31 (by omega) (by omega)
    simpa using this
  have hb : (((f &&& 224 : Nat) : Int) == 0) = decide (f ≤ 31) := by
    rw [← and224 f hf]
    by_cases h : f &&& 224 = 0
    · rw [h]; rfl
    · rw [decide_eq_false h, beq_eq_false_iff_ne]; omega
  go_enter Tryd.func30, Tryd.ntmps30
  go_wp2
  go_ret
  exact ⟨rfl, rfl⟩
set_option maxHeartbeats 1000000 in
theorem isTime_any (d s z : Int) (w : World) (ht : LTab w) : Calls Tryd.prog 31 #[.agg #[.int .i64 d, .int .i64 s, .int .i64 z]] w fun e w' => e = .returned (.bool (rightB d s z)) ∧ Below w.heap.size w w' := by
  have hw : ∃ (t : ByteArray) (k : Nat), (k = if rightB d s z = true then 0 else 2) ∧ ∀ W, LTab W → Calls Tryd.prog 42 #[.agg #[.int .i64 d, .int .i64 s, .int .i64 z]] W fun e w' => e = .returned (.tuple #[.string t, .int .i64 (k : Int)]) ∧ Below W.heap.size W w' := by
    cases h : rightB d s z with
    | false => exact ⟨_, 2, rfl, fun W _ => writeTime_no d s z W h⟩
    | true =>
      have h2 := h
      unfold rightB at h2
      rw [Bool.and_eq_true, decide_eq_true_eq] at h2
      obtain ⟨y, m, dd, hv, hn⟩ := day_exists h2.1
      obtain ⟨k, hk⟩ : ∃ k : Nat, s = (k : Int) := ⟨s.toNat, by omega⟩
      subst hk
      exact ⟨_, 0, rfl, fun W hW => writeTime_yes y m dd k d z W hW hv hn (by omega) (by omega) (by omega)⟩
  obtain ⟨t, k, hk, hW⟩ := hw
  have HW := hide hW
  have HT := hide ht
  clear hW ht
  have hA : Below w.heap.size w (w.alloc (.cells #[.int .i64 d, .int .i64 s, .int .i64 z] 31)) := (Below.refl _ w).alloc (Nat.le_refl _) _
  have HA := hide hA
  clear hA
  have hkb : ((k : Int) == 0) = rightB d s z := by
    cases h : rightB d s z with
    | false => rw [h, if_neg (by simp)] at hk; rw [hk]; rfl
    | true => rw [h, if_pos rfl] at hk; rw [hk]; rfl
  clear hk
  generalize rightB d s z = r at hkb ⊢
  go_enter Tryd.func31, Tryd.ntmps31
  go_wp2_with fail
  refine (unhide HW _ ((unhide HT).below (unhide HA))).mono ?_
  rintro e w1 ⟨rfl, b1⟩
  have HB := hide (belows' (unhide HA) b1)
  clear b1 HA
  go_wp2
  go_ret
  exact ⟨rfl, unhide HB⟩
end Go.Proofs.YthpjogfclklefaaDoor
