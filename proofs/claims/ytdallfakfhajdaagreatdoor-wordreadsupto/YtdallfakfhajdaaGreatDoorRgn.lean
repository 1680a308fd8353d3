/-
  What the document's Name of layer 6 does, over this seat's program.
-/
import Derived.Test.YtdallfakfhajdaaGreatDoorRnm
set_option linter.unusedVariables false
namespace Go.Proofs.YtdallfakfhajdaaGreatDoor
open Go.RowKit Go.Proofs.Rns

set_option maxHeartbeats 1000000 in
set_option maxRecDepth 100000 in
/-- The document's Name. -/
theorem refName_any (c : Nat) (w : World) (hc : c < 256) :
    Calls Tryz.prog 74 #[.int .u8 c] w fun e w' => e = .returned (.tuple #[.string (bts (nameR c).1), .int .i64 (nameR c).2]) ∧ w' = w := by
  by_cases h1 : c = 1
  · have hb : ((c : Int) == 1) = true := by rw [h1]; rfl
    rw [show nameR c = ([85, 83, 45, 65, 83, 67, 73, 73], 0) by rw [h1]; decide +kernel]
    clear h1
    go_enter Tryz.func74, Tryz.ntmps74
    go_wp2
    go_ret2
    exact ⟨rfl, rfl⟩
  have b1x : ((c : Int) == 1) = false := by simp; omega
  by_cases h2 : c = 2
  · have hb : ((c : Int) == 2) = true := by rw [h2]; rfl
    rw [show nameR c = ([85, 84, 70, 45, 56], 0) by rw [h2]; decide +kernel]
    clear h1 h2
    go_enter Tryz.func74, Tryz.ntmps74
    go_wp2
    go_ret2
    exact ⟨rfl, rfl⟩
  have b2x : ((c : Int) == 2) = false := by simp; omega
  by_cases h3 : c = 3
  · have hb : ((c : Int) == 3) = true := by rw [h3]; rfl
    rw [show nameR c = ([73, 83, 79, 45, 56, 56, 53, 57, 45, 49], 0) by rw [h3]; decide +kernel]
    clear h1 h2 h3
    go_enter Tryz.func74, Tryz.ntmps74
    go_wp2
    go_ret2
    exact ⟨rfl, rfl⟩
  have b3x : ((c : Int) == 3) = false := by simp; omega
  by_cases h4 : c = 4
  · have hb : ((c : Int) == 4) = true := by rw [h4]; rfl
    rw [show nameR c = ([73, 83, 79, 45, 56, 56, 53, 57, 45, 49, 53], 0) by rw [h4]; decide +kernel]
    clear h1 h2 h3 h4
    go_enter Tryz.func74, Tryz.ntmps74
    go_wp2
    go_ret2
    exact ⟨rfl, rfl⟩
  have b4x : ((c : Int) == 4) = false := by simp; omega
  by_cases h5 : c = 5
  · have hb : ((c : Int) == 5) = true := by rw [h5]; rfl
    rw [show nameR c = ([87, 73, 78, 68, 79, 87, 83, 45, 49, 50, 53, 50], 0) by rw [h5]; decide +kernel]
    clear h1 h2 h3 h4 h5
    go_enter Tryz.func74, Tryz.ntmps74
    go_wp2
    go_ret2
    exact ⟨rfl, rfl⟩
  have b5x : ((c : Int) == 5) = false := by simp; omega
  rw [show nameR c = ([], 14) by simp only [nameR, nameF, namesT, if_neg (show ¬ 1 = c from fun e => h1 e.symm), if_neg (show ¬ 2 = c from fun e => h2 e.symm), if_neg (show ¬ 3 = c from fun e => h3 e.symm), if_neg (show ¬ 4 = c from fun e => h4 e.symm), if_neg (show ¬ 5 = c from fun e => h5 e.symm)]]
  clear h1 h2 h3 h4 h5
  go_enter Tryz.func74, Tryz.ntmps74
  go_wp2
  go_ret2
  exact ⟨rfl, rfl⟩
end Go.Proofs.YtdallfakfhajdaaGreatDoor
