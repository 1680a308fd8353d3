/-
  The tables of package runes as they lie in memory, and what runes.alike, Named, Name, isCharset and letterOf do, over this seat's program.
-/
import Derived.Test.YtekhfbbnlojcoaaDoorBlc
import Derived.Test.YtekhfbbnlojcoaaDoorRns
import Derived.BigCall
import Derived.Deep.QuietTactic
import Derived.BigQuiet
import Derived.WalkSmall
set_option linter.unusedVariables false
namespace Go.Proofs.YtekhfbbnlojcoaaDoor
open Go.RowKit Go.Proofs.Rns

/-- The charsets' names. -/
def namesT : List (List UInt8 × Nat) := [([85, 83, 45, 65, 83, 67, 73, 73], 1), ([65, 83, 67, 73, 73], 1), ([85, 84, 70, 45, 56], 2), ([85, 84, 70, 56], 2), ([73, 83, 79, 45, 56, 56, 53, 57, 45, 49], 3), ([76, 65, 84, 73, 78, 49], 3), ([73, 83, 79, 45, 56, 56, 53, 57, 45, 49, 53], 4), ([76, 65, 84, 73, 78, 57], 4), ([87, 73, 78, 68, 79, 87, 83, 45, 49, 50, 53, 50], 5), ([67, 80, 49, 50, 53, 50], 5)]
/-- Their cells. -/
def namesC : List Value := namesT.flatMap fun p => [.string (bts p.1), .int .u8 (p.2 : Int)]

/-- The letters' tables lie in their variables. -/
structure RTab (w : World) : Prop where
  size : 5 ≤ w.heap.size
  windows : ∀ j, j < 32 → w.cell? ⟨1, j, none⟩ = some (.int .i32 (winT.getD j 0 : Int))
  latin9 : ∀ j, j < 31 → w.cell? ⟨2, j, none⟩ = some (.int .i32 (lat9T.getD j 0 : Int))
  utf8 : Lib.Utf8Tabs 3 4 w

theorem RTab.below {w w' : World} (h : RTab w) (hb : Below w.heap.size w w') : RTab w' := by
  have hz := hb.size
  have h5 := h.size
  refine ⟨by omega, fun j hj => ?_, fun j hj => ?_, Utf8Tabs_below h.utf8 hb⟩
  · rw [hb.cell (p := ⟨1, j, none⟩) (by show 1 < _; omega)]; exact h.windows j hj
  · rw [hb.cell (p := ⟨2, j, none⟩) (by show 2 < _; omega)]; exact h.latin9 j hj

theorem RTab.low {w w' : World} (h : RTab w) (hb : Below 5 w w') : RTab w' := by
  have hz := hb.size
  have h5 := h.size
  refine ⟨by omega, fun j hj => ?_, fun j hj => ?_, ⟨fun c hc => ?_, fun i hi => ⟨?_, ?_⟩⟩⟩
  · rw [hb.cell (p := ⟨1, j, none⟩) (by show 1 < _; omega)]; exact h.windows j hj
  · rw [hb.cell (p := ⟨2, j, none⟩) (by show 2 < _; omega)]; exact h.latin9 j hj
  · rw [hb.cell (p := ⟨3, c, none⟩) (by show 3 < _; omega)]; exact h.utf8.1 c hc
  · rw [hb.cell (p := ⟨4, 2 * i, none⟩) (by show 4 < _; omega)]; exact (h.utf8.2 i hi).1
  · rw [hb.cell (p := ⟨4, 2 * i + 1, none⟩) (by show 4 < _; omega)]; exact (h.utf8.2 i hi).2
theorem RTab.drewN {w : World} (h : RTab w) (n : Nat) : RTab (w.drewN n) := ⟨h.size, h.windows, h.latin9, h.utf8⟩

/-- A great letter for a small one. -/
def upB (c : UInt8) : UInt8 := if 97 ≤ c.toNat ∧ c.toNat ≤ 122 then UInt8.ofNat (c.toNat - 32) else c


theorem ret_b {a b : Bool} (h : a = b) : Ending.returned (.bool a) = .returned (.bool b) := by rw [h]

set_option maxHeartbeats 400000 in
theorem isCharset_any (c : Nat) (w : World) (hc : c < 256) :
    Calls Tryd.prog 53 #[.int .u8 c] w fun e w' => e = .returned (.bool (decide (1 ≤ c ∧ c ≤ 5))) ∧ w' = w := by
  by_cases h0 : 0 < c
  · have h0' : (0 : Int) < (c : Int) := by omega
    by_cases h6 : c < 6
    · have hf : decide (1 ≤ c ∧ c ≤ 5) = true := by simp; omega
      rw [hf]
      clear hf
      go_enter Tryd.func53, Tryd.ntmps53
      go_wp2
      go_ret
      exact ⟨ret_b (by simp; omega), rfl⟩
    · have hf : decide (1 ≤ c ∧ c ≤ 5) = false := by simp; omega
      rw [hf]
      clear hf
      go_enter Tryd.func53, Tryd.ntmps53
      go_wp2
      go_ret
      exact ⟨ret_b (by simp; omega), rfl⟩
  · have hf : decide (1 ≤ c ∧ c ≤ 5) = false := by simp; omega
    have h0' : ¬ (0 : Int) < (c : Int) := by omega
    rw [hf]
    clear hf
    go_enter Tryd.func53, Tryd.ntmps53
    go_wp2
    go_ret
    exact ⟨rfl, rfl⟩
end Go.Proofs.YtekhfbbnlojcoaaDoor
