/-
  Texts of dates, as lists of bytes, and what date.number, nameOf, monthOf and the moment's has and take do, over this seat's program.
-/
import Derived.Test.YthpjogfclklefaaDoorHlk
import Derived.Test.YthpjogfclklefaaDoorDse
set_option linter.unusedVariables false
namespace Go.Proofs.YthpjogfclklefaaDoor
open Go.RowKit Go.Proofs.Dcl

/-- A digit. -/
def digB (c : UInt8) : Bool := decide (48 ≤ c.toNat ∧ c.toNat ≤ 57)
/-- A number of digits alone, behind one. -/
def numA (acc : Nat) : List UInt8 → Option Nat
  | [] => some acc
  | c :: r => if digB c then numA (acc * 10 + (c.toNat - 48)) r else none
/-- A number of so many digits. -/
def numR (l : List UInt8) (least most : Nat) : Option Nat := if l.length < least ∨ most < l.length then none else numA 0 l
/-- The months' names. -/
def nmT : List (List UInt8) := [[74, 97, 110], [70, 101, 98], [77, 97, 114], [65, 112, 114], [77, 97, 121], [74, 117, 110], [74, 117, 108], [65, 117, 103], [83, 101, 112], [79, 99, 116], [78, 111, 118], [68, 101, 99]]
def nmL (k : Nat) : List UInt8 := nmT.getD k []
/-- The month of a name, from one on. -/
def monF (l : List UInt8) : Nat → Nat → Nat
  | 0, _ => 0
  | f + 1, k => if smL l = smL (nmL k) then k + 1 else monF l f (k + 1)
/-- The month of a name; 0: there is none. -/
def monR (l : List UInt8) : Nat := monF l 12 0
theorem monF_le (l : List UInt8) (f k : Nat) : monF l f k ≤ k + f := by
  induction f generalizing k with
  | zero => simp [monF]
  | succ f ih => unfold monF; split
                 · omega
                 · have := ih (k + 1); omega
theorem monR_le (l : List UInt8) : monR l ≤ 12 := by have := monF_le l 12 0; unfold monR; omega

/-- A pair, or nothing, as Go tells it. -/
def optV (o : Option Nat) : Value := match o with
  | some n => .tuple #[.int .i64 (n : Int), .bool true]
  | none => .tuple #[.int .i64 0, .bool false]

theorem numA_bound (l : List UInt8) (acc : Nat) (n : Nat) (h : numA acc l = some n) : n < (acc + 1) * 10 ^ l.length := by
  induction l generalizing acc with
  | nil => simp [numA] at h; subst h; simp
  | cons c r ih =>
    unfold numA at h
    split at h
    · rename_i hd
      have hd' : 48 ≤ c.toNat ∧ c.toNat ≤ 57 := by simpa [digB] using hd
      have := ih _ h
      simp only [List.length_cons, Nat.pow_succ]
      have h2 : (acc * 10 + (c.toNat - 48) + 1) * 10 ^ r.length ≤ ((acc + 1) * 10) * 10 ^ r.length := Nat.mul_le_mul_right _ (by omega)
      have h3 : ((acc + 1) * 10) * 10 ^ r.length = (acc + 1) * (10 ^ r.length * 10) := by rw [Nat.mul_assoc, Nat.mul_comm 10]
      omega
    · cases h

theorem ret_opt {o o' : Option Nat} (h : o = o') : Ending.returned (optV o) = .returned (optV o') := by rw [h]

theorem name_part (k : Nat) (h : k < 12) : ((bts [74, 97, 110, 70, 101, 98, 77, 97, 114, 65, 112, 114, 77, 97, 121, 74, 117, 110, 74, 117, 108, 65, 117, 103, 83, 101, 112, 79, 99, 116, 78, 111, 118, 68, 101, 99]).extract (k * 3) (k * 3 + 3)) = bts (nmL k) := by
  have : k = 0 ∨ k = 1 ∨ k = 2 ∨ k = 3 ∨ k = 4 ∨ k = 5 ∨ k = 6 ∨ k = 7 ∨ k = 8 ∨ k = 9 ∨ k = 10 ∨ k = 11 := by omega
  rcases this with rfl | rfl | rfl | rfl | rfl | rfl | rfl | rfl | rfl | rfl | rfl | rfl <;> (apply ext_list; rw [toList_part, toList_bts, toList_bts]; rfl)

set_option maxHeartbeats 1000000 in
theorem nameOf_any (k : Nat) (w : World) (h : k < 12) :
    Calls Tryd.prog 73 #[.int .i64 ((k : Int) + 1)] w fun e w' => e = .returned (.string (bts (nmL k))) ∧ w' = w := by
  have hp := name_part k h
  have hk : (k : Int) ≤ 11 := by omega
  have hsl : ∀ W : World, (Instr.slice 9 (.string (bts [74, 97, 110, 70, 101, 98, 77, 97, 114, 65, 112, 114, 77, 97, 121, 74, 117, 110, 74, 117, 108, 65, 117, 103, 83, 101, 112, 79, 99, 116, 78, 111, 118, 68, 101, 99])) (some (.int .i64 ((k : Int) * 3))) (some (.int .i64 (((k : Int) + 1) * 3))) none).run Tryd.prog W = .ok (.string (bts (nmL k))) W := by
    intro W
    have := slice_km (bts [74, 97, 110, 70, 101, 98, 77, 97, 114, 65, 112, 114, 77, 97, 121, 74, 117, 110, 74, 117, 108, 65, 117, 103, 83, 101, 112, 79, 99, 116, 78, 111, 118, 68, 101, 99]) (k * 3) 3 (by rw [size_bts]; simp; omega) W
    rw [hp] at this
    rwa [show ((k * 3 : Nat) : Int) = (k : Int) * 3 by omega, show (k : Int) * 3 + ((3 : Nat) : Int) = ((k : Int) + 1) * 3 by omega] at this
  simp only [bts, List.toArray] at hsl
  clear hp
  have HS := hide hsl
  go_enter Tryd.func73, Tryd.ntmps73
  go_wp2
  go_ret
  exact ⟨rfl, rfl⟩

end Go.Proofs.YthpjogfclklefaaDoor
