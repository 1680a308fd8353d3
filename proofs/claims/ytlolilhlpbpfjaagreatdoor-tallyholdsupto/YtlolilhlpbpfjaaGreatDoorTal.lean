/-
  What is told of what was found: plain mathematics.
-/
import Derived.Test.YtlolilhlpbpfjaaGreatDoorNwp
import Derived.Test.YtlolilhlpbpfjaaGreatDoorNwq
import Derived.Test.YtlolilhlpbpfjaaGreatDoorNwi
import Derived.Test.YtlolilhlpbpfjaaGreatDoorNfm
import Derived.Test.YtlolilhlpbpfjaaGreatDoorPch
import Derived.Test.YtlolilhlpbpfjaaGreatDoorHsm
set_option linter.unusedVariables false
namespace Go.Proofs.YtlolilhlpbpfjaaGreatDoor
open Go.RowKit Go.Proofs.Nst

/-- A tally. -/
structure Tly where
  want : Nat
  many : Int
  least : Nat
  most : Nat
  all : List Sp
deriving DecidableEq
def tlC (t : Tly) (v : Value) : Array Value := #[.int .u8 (t.want : Int), .int .i64 t.many, .int .u32 (t.least : Int), .int .u32 (t.most : Int), v]
def tlV (t : Tly) (v : Value) : Value := .agg (tlC t v)
def FitT (t : Tly) : Prop := t.want ≤ 255 ∧ (-9223372036854775808 ≤ t.many ∧ t.many ≤ 9223372036854775807) ∧ t.least ≤ 4294967295 ∧ t.most ≤ 4294967295
def zT : Tly := ⟨0, 0, 0, 0, []⟩
/-- Something is wanted. -/
def bitW (w k : Nat) : Bool := decide (w &&& k ≠ 0)
def wanted (t : Tly) : Bool := (bitW t.want 1 || decide (t.least = 0)) && ((bitW t.want 2 || decide (t.most = 0)) && ((bitW t.want 4 || decide (t.all.length = 0)) && (bitW t.want 8 || decide (t.many = 0))))
/-- The tally of numbers. -/
def ofT (w : Nat) (ns : List Nat) (P : List Sp) : Tly := ⟨w, if bitW w 8 = true then (ns.length : Int) else 0, if bitW w 1 = true then ns.headD 0 else 0, if bitW w 2 = true then ns.getLastD 0 else 0, if bitW w 4 = true then P else []⟩
def ofR (w : Nat) (ns : List Nat) : Tly × Nat :=
  if 15 < w ∨ 0 ∈ ns then (zT, 1) else if chk ns ≠ 0 then (zT, chk ns) else if ns = [] then (⟨w, 0, 0, 0, []⟩, 0)
  else if bitW w 4 = true ∧ (packR ns).2 ≠ 0 then (zT, 15) else (ofT w ns (packR ns).1, 0)
/-- The numbers of plain spans, if there are not too many. -/
def numsF : List Nat → List Sp → Option (List Nat)
  | acc, [] => some acc
  | acc, s :: r => if s.1 = 0 ∨ s.2 < s.1 ∨ 65536 ≤ acc.length + (s.2 - s.1) then none else numsF (acc ++ List.range' s.1 (s.2 - s.1 + 1)) r
def ofAll (t : Tly) : Bool := match numsF [] t.all with
  | none => false
  | some ns => decide ((ofR t.want ns).2 = 0) && (decide (t.many = (ofR t.want ns).1.many) && (decide (t.least = (ofR t.want ns).1.least) && (decide (t.most = (ofR t.want ns).1.most) && decide (t.all = (ofR t.want ns).1.all))))
def leastE (t : Tly) : Nat := if bitW t.want 1 = true then t.least else 1
def mostE (t : Tly) : Nat := if bitW t.want 2 = true then t.most else 4294967295
def fewE (t : Tly) : Int := if t.least ≠ 0 ∧ t.most ≠ 0 ∧ leastE t ≠ mostE t then 2 else 1
def ofSome (t : Tly) : Bool := if leastE t = 0 ∨ mostE t < leastE t then false else if bitW t.want 8 = false then true else decide (fewE t ≤ t.many ∧ t.many ≤ 65536 ∧ t.many ≤ (mostE t : Int) - leastE t + 1)
def ofNone (t : Tly) : Bool := decide (t.many = 0 ∧ t.least = 0 ∧ t.most = 0)
def rightT (t : Tly) : Bool := if 15 < t.want ∨ wanted t = false then false else if bitW t.want 4 = true then ofAll t else ofNone t || ofSome t
/-- The words. -/
def wordsT : List (List UInt8 × Nat) := [([77, 73, 78], 1), ([77, 65, 88], 2), ([65, 76, 76], 4), ([67, 79, 85, 78, 84], 8)]
def wordsC : List Value := wordsT.flatMap fun p => [.string (bts p.1), .int .u8 (p.2 : Int)]
/-- What stands behind a word. -/
def textT (t : Tly) (k : Nat) : List UInt8 :=
  if k = 1 ∧ t.least ≠ 0 then Lib.decDigits t.least else if k = 2 ∧ t.most ≠ 0 then Lib.decDigits t.most
  else if k = 4 ∧ t.all.length ≠ 0 then (writeR t.all).1 else if k = 8 ∧ bitW t.want 8 = true then Lib.decDigits t.many.toNat else []
def stepT (t : Tly) (b : List UInt8) (p : List UInt8 × Nat) : List UInt8 := if textT t p.2 = [] then b else (if b = [] then [] else b ++ [32]) ++ (p.1 ++ 32 :: textT t p.2)
def bodyT (t : Tly) : List UInt8 := wordsT.foldl (stepT t) []
def writeT (t : Tly) : List UInt8 × Nat := if rightT t = true then (bodyT t, 0) else ([], 2)
/-- A number that is read, or none. -/
def nText (s : List UInt8) : Nat := match Lib.parseUintB 32 s with | .ok u => u | _ => 0
def readT (t : Tly) (k : Nat) (s : List UInt8) : Tly :=
  if k = 1 then { t with least := nText s } else if k = 2 then { t with most := nText s } else if k = 4 then { t with all := (parseP s).1 } else if k = 8 then { t with many := (nText s : Int) } else t
def stepP (x : Tly × List UInt8) (p : List UInt8 × Nat) : Tly × List UInt8 :=
  if Lib.hasPrefix x.2 (p.1 ++ [32]) = true then (readT x.1 p.2 (cutB 32 (x.2.drop (p.1.length + 1))).1, (cutB 32 (x.2.drop (p.1.length + 1))).2.1) else x
def parT (w : Nat) (s : List UInt8) : Tly := (wordsT.foldl stepP ((⟨w, 0, 0, 0, []⟩ : Tly), s)).1
def parseT (w : Nat) (s : List UInt8) : Tly × Nat := if 15 < w then (zT, 1) else if writeT (parT w s) = (s, 0) then (parT w s, 0) else (zT, 7)

theorem below_dr {B : Nat} {a w : World} (h : Below B a w) (n : Nat) : Below B a (w.drewN n) := ⟨h.os, h.tape, h.output, h.size, h.block⟩
theorem and240 (f : Nat) (h : f ≤ 255) : decide (f &&& 240 = 0) = decide (f ≤ 15) := by
  have key : ∀ n : Fin 256, decide (n.val &&& 240 = 0) = decide (n.val ≤ 15) := by decide +kernel
  exact key ⟨f, by omega⟩
/-- A byte's bits, asked for by name. -/
theorem over15 (w : Nat) (h : w ≤ 255) : (bits .andNot .u8 (w : Int) 15 == 0) = decide (w ≤ 15) := by
  have e := u8_andNot_nat w 15 (by omega) (by omega)
  have hk : bits .andNot .u8 (w : Int) 15 = ((w &&& 240 : Nat) : Int) := by simpa using e
  rw [hk, ← and240 w h]
  by_cases h : w &&& 240 = 0
  · rw [h]; rfl
  · rw [decide_eq_false h, beq_eq_false_iff_ne]; omega
theorem bit_eq (w k : Nat) (h : w ≤ 255) (hk : k ≤ 255) : (bits .and .u8 (w : Int) (k : Int) == 0) = !bitW w k := by
  have e := u8_and_nat w k (by omega) (by omega)
  rw [e]
  unfold bitW
  by_cases h : w &&& k = 0
  · rw [h]; rfl
  · rw [decide_eq_true h, Bool.not_true, beq_eq_false_iff_ne]; omega
theorem over15n (w : Nat) (h : w ≤ 255) : (bits .andNot .u8 (w : Int) 15 != 0) = decide (15 < w) := by
  rw [bne, over15 w h]
  by_cases h : w ≤ 15
  · rw [decide_eq_true h, decide_eq_false (by omega)]; rfl
  · rw [decide_eq_false h, decide_eq_true (by omega)]; rfl
theorem bit_ne (w k : Nat) (q : Int) (hq : q = (k : Int)) (h : w ≤ 255) (hk : k ≤ 255) : (bits .and .u8 (w : Int) q != 0) = bitW w k := by
  rw [hq, bne, bit_eq w k h hk, Bool.not_not]
theorem bit1_eq (w : Nat) (h : w ≤ 255) : (bits .and .u8 (w : Int) 1 == 0) = !bitW w 1 := bit_eq w 1 h (by decide)
theorem bit2_eq (w : Nat) (h : w ≤ 255) : (bits .and .u8 (w : Int) 2 == 0) = !bitW w 2 := bit_eq w 2 h (by decide)
theorem bit4_eq (w : Nat) (h : w ≤ 255) : (bits .and .u8 (w : Int) 4 == 0) = !bitW w 4 := bit_eq w 4 h (by decide)
theorem bit8_eq (w : Nat) (h : w ≤ 255) : (bits .and .u8 (w : Int) 8 == 0) = !bitW w 8 := bit_eq w 8 h (by decide)
end Go.Proofs.YtlolilhlpbpfjaaGreatDoor
