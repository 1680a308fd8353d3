/-
  What enc.isItself and enc.Quoted do, over this seat's program: bytes quoted-printable, and no older memory turns.
-/
import Derived.Test.YtedpimhhbajljaaDoorStr
import Derived.Test.YtedpimhhbajljaaDoorEnc
import Derived.BigCall
import Derived.Deep.Cut
import Derived.Laws.BitsAllLaws
set_option linter.unusedVariables false
namespace Go.Proofs.YtedpimhhbajljaaDoor
open Go.RowKit Go.Proofs.Enc

theorem ret_bool {a b : Bool} (h : a = b) : Ending.returned (.bool a) = .returned (.bool b) := by rw [h]
theorem bne10 (x : Nat) : ((x : Int) != 10) = (x != 10) := by
  rw [Bool.eq_iff_iff]; simp; omega

/-- The 16 digits. -/
def hexB : ByteArray := ⟨#[48, 49, 50, 51, 52, 53, 54, 55, 56, 57, 65, 66, 67, 68, 69, 70]⟩
theorem hexB_size : hexB.size = 16 := rfl
theorem hexB_fin : ∀ n : Fin 16, hexB.data.toList.getD n.val 0 = hx n.val := by decide +kernel
theorem hexB_at (m : Nat) (hm : m < 16) (i : Nat) (hi : i < hexB.size) (h : i = m) : ((hexB[i]'hi).toNat : Int) = ((hx m).toNat : Int) := by
  subst h
  rw [← getD_byte hexB i hi, hexB_fin ⟨i, hm⟩]

/-- What the frame of Quoted holds at its label, k bytes written. -/
def QuoJ (s : ByteArray) (w : World) (a' : Act) (w' : World) : Prop :=
  ∃ (k : Nat) (acc : List UInt8) (u5 u6 u7 u8 u9 u10 u11 u12 u13 u14 u15 u16 u17 u18 u19 u20 u21 u22 u23 u24 u25 u26 u27 u28 u29 u30 u31 u32 u33 u34 : Value), a' = { tmps := #[.string s, undef, .string ⟨#[]⟩, .pointer (some ⟨w.heap.size, 0, none⟩), .int .i64 k, u5, u6, u7, u8, u9, u10, u11, u12, u13, u14, u15, u16, u17, u18, u19, u20, u21, u22, u23, u24, u25, u26, u27, u28, u29, u30, u31, u32, u33, u34], defers := [] } ∧ k ≤ s.size ∧ acc.length ≤ 3 * k ∧ Hid (acc ++ quo (s.data.toList.drop k) = quo s.data.toList) ∧
    Lib.IsBuilderF 60 5 w.heap.size w.heap.size (Lib.byteCells acc) w' ∧ Below w.heap.size w w' ∧ w.heap.size + 1 ≤ w'.heap.size

end Go.Proofs.YtedpimhhbajljaaDoor
