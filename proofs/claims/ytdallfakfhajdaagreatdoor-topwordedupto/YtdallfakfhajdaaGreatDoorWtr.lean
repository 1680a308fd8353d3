/-
  What strings.Trim of blanks does, over this seat's program.
-/
import Derived.Test.YtdallfakfhajdaaGreatDoorHlk
import Derived.Shelf.Strings.SlTrimAscii
set_option linter.unusedVariables false
namespace Go.Proofs.YtdallfakfhajdaaGreatDoor
open Go.RowKit

def isBl (b : UInt8) : Bool := b == 32 || b == 9
/-- Nothing but blanks. -/
def blL (l : List UInt8) : Bool := l.all isBl
theorem dropWhile_nil {p : UInt8 → Bool} : ∀ l : List UInt8, (l.dropWhile p = [] ↔ l.all p = true)
  | [] => by simp
  | a :: r => by
    by_cases h : p a = true
    · rw [List.dropWhile_cons_of_pos h, dropWhile_nil r]; simp [h]
    · rw [List.dropWhile_cons_of_neg h]; simp [h]
theorem dropWhile_idem {p : UInt8 → Bool} : ∀ l : List UInt8, (l.dropWhile p).dropWhile p = l.dropWhile p
  | [] => rfl
  | a :: r => by
    by_cases h : p a = true
    · rw [List.dropWhile_cons_of_pos h, dropWhile_idem r]
    · rw [List.dropWhile_cons_of_neg h, List.dropWhile_cons_of_neg h]
theorem all_rev (p : UInt8 → Bool) (l : List UInt8) : l.reverse.all p = l.all p := List.all_reverse
theorem trimS_nil (l : List UInt8) : Lib.trimS l [32, 9] = [] ↔ blL l = true := by
  have e : (fun b : UInt8 => ([32, 9] : List UInt8).contains b) = isBl := by
    funext b
    show List.elem b [32, 9] = (b == 32 || b == 9)
    simp only [List.elem]
    cases (b == 32) <;> cases (b == 9) <;> rfl
  unfold Lib.trimS Lib.trimLeftS Lib.trimRightS
  simp only [e]
  unfold blL
  constructor
  · intro h
    have h2 := (dropWhile_nil _).1 h
    rw [all_rev] at h2
    have h3 := (dropWhile_nil _).2 h2
    rw [dropWhile_idem] at h3
    rw [← all_rev]
    exact (dropWhile_nil _).1 h3
  · intro h
    rw [← all_rev] at h
    rw [(dropWhile_nil _).2 h]
    rfl
theorem trim_blank (s : ByteArray) (w : World) (hs : s.size ≤ 16777216) :
    Calls Tryz.prog 59 #[.string s, .string ⟨#[32, 9]⟩] w fun e w' => (∃ t : ByteArray, e = .returned (.string t) ∧ (t = ⟨#[]⟩ ↔ blL s.data.toList = true)) ∧ Below w.heap.size w w' := by
  refine (Any.strings_Trim_laid Tryz.lays160 (by kernel_rfl) s ⟨#[32, 9]⟩ w (by omega) (by decide) (ascii_of_all (by decide))).mono ?_
  rintro e w' ⟨rfl, hb⟩
  refine ⟨⟨_, rfl, ?_⟩, hb⟩
  rw [show (⟨#[32, 9]⟩ : ByteArray).data.toList = [32, 9] from rfl, ← trimS_nil]
  constructor
  · intro h; simpa using h
  · intro h; rw [h]
end Go.Proofs.YtdallfakfhajdaaGreatDoor
