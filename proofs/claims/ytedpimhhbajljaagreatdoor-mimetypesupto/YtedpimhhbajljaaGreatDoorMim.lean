/-
  Tokens, types and parameters of a content type: plain mathematics.
-/
import Derived.Test.YtedpimhhbajljaaGreatDoorCts
set_option linter.unusedVariables false
namespace Go.Proofs.YtedpimhhbajljaaGreatDoor
open Go.RowKit

/-- The bytes that no token has. -/
def spL : List UInt8 := [40, 41, 60, 62, 64, 44, 59, 58, 92, 34, 47, 91, 93, 63, 61]
def tokB (c : UInt8) : Bool := decide (33 ≤ c.toNat ∧ c.toNat ≤ 126) && !spL.contains c
/-- How many bytes the token has that a text begins with. -/
def tokN : List UInt8 → Nat
  | [] => 0
  | c :: r => if tokB c = true then tokN r + 1 else 0
def isTokL (l : List UInt8) : Bool := !l.isEmpty && decide (tokN l = l.length)
def isTypL (l : List UInt8) : Bool := match cutAt 47 l with
  | none => false
  | some (a, b) => isTokL a && isTokL b

def blM (c : UInt8) : Bool := ([32, 9] : List UInt8).contains c
/-- What stands up to the second quotation mark, and what behind it. -/
def qdF : Bool → List UInt8 → List UInt8 → Option (List UInt8 × List UInt8)
  | _, _, [] => none
  | esc, acc, c :: r => if c = 34 ∧ esc = false then some (acc, r) else if c = 92 ∧ esc = false then qdF true acc r else qdF false (acc ++ [c]) r
def valM (l : List UInt8) : Option (List UInt8 × List UInt8) :=
  if l.head? = some 34 then qdF false [] l.tail else if tokN l = 0 then none else some (l.take (tokN l), l.drop (tokN l))
def parM (l : List UInt8) : Option ((List UInt8 × List UInt8) × List UInt8) :=
  if tokN (l.dropWhile blM) = 0 ∨ (((l.dropWhile blM).drop (tokN (l.dropWhile blM))).dropWhile blM).head? ≠ some 61 then none
  else match valM ((((l.dropWhile blM).drop (tokN (l.dropWhile blM))).dropWhile blM).tail.dropWhile blM) with
    | none => none
    | some (v, r) => some (((l.dropWhile blM).take (tokN (l.dropWhile blM)), v), r.dropWhile blM)
def parsF : Nat → List UInt8 → List (List UInt8 × List UInt8)
  | 0, _ => []
  | f + 1, l => if l.head? = some 59 then match parM l.tail with
      | none => []
      | some (p, r) => p :: parsF f r
    else []
theorem tokN_le : ∀ l, tokN l ≤ l.length
  | [] => Nat.le_refl _
  | c :: r => by
    unfold tokN
    split
    · have := tokN_le r; simp only [List.length_cons]; omega
    · simp
theorem tokN_at : ∀ (l : List UInt8) (k : Nat) (h : k < l.length), (∀ j (hj : j < l.length), j < k → tokB l[j] = true) → tokB l[k] = false → tokN l = k
  | [], k, h, _, _ => by simp at h
  | c :: r, 0, h, _, h2 => by unfold tokN; rw [if_neg (by simpa using h2)]
  | c :: r, k + 1, h, h1, h2 => by
    unfold tokN
    rw [if_pos (show tokB c = true from h1 0 (by simp) (by omega)), tokN_at r k (by simpa using h) (fun j hj hk => by have := h1 (j + 1) (by simpa using hj) (by omega); simpa using this) (by simpa using h2)]
theorem tokN_all : ∀ (l : List UInt8), (∀ j (hj : j < l.length), tokB l[j] = true) → tokN l = l.length
  | [], _ => rfl
  | c :: r, h => by
    unfold tokN
    rw [if_pos (show tokB c = true from h 0 (by simp)), tokN_all r (fun j hj => by have := h (j + 1) (by simpa using hj); simpa using this)]
    rfl
theorem index_sp (c : UInt8) : decide (Lib.indexByte spL c ≥ 0) = spL.contains c := by
  have h : ∀ n : Fin 256, decide (Lib.indexByte spL (UInt8.ofNat n.val) ≥ 0) = spL.contains (UInt8.ofNat n.val) := by decide +kernel
  have := h ⟨c.toNat, c.toNat_lt⟩
  simpa using this
theorem qdF_len : ∀ (l : List UInt8) (e : Bool) (acc : List UInt8) (v r : List UInt8), qdF e acc l = some (v, r) → v.length + r.length ≤ acc.length + l.length
  | [], e, acc, v, r, h => by simp [qdF] at h
  | c :: l, e, acc, v, r, h => by
    unfold qdF at h
    split at h
    · injection h with h; injection h with h1 h2; subst h1 h2; simp only [List.length_cons]; omega
    · split at h
      · have := qdF_len l _ _ _ _ h; simp only [List.length_cons]; omega
      · have := qdF_len l _ _ _ _ h; simp only [List.length_append, List.length_cons, List.length_nil] at this ⊢; omega
end Go.Proofs.YtedpimhhbajljaaGreatDoor
