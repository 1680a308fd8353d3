/-
  A row that is made and filled from its beginning on, over this seat's program.
-/
import Derived.Test.YtfjjigcghhohkaaBlc
import Derived.Laws.OwnMore
import Derived.WalkMore
set_option linter.unusedVariables false
namespace Go.Proofs.Ytfjjigcghhohkaa
open Go.RowKit

/-- A row that is filled from its beginning on. -/
def fillB (done : List Value) (n : Nat) (z : Value) : Array Value := (done ++ List.replicate (n - done.length) z).toArray
theorem fillB_set {done : List Value} {n : Nat} {z u : Value} (h : done.length < n) : (fillB done n z).setIfInBounds done.length u = fillB (done ++ [u]) n z := by
  unfold fillB
  obtain ⟨m, hm⟩ : ∃ m, n - done.length = m + 1 := ⟨n - done.length - 1, by omega⟩
  apply Array.ext'
  simp only [Array.toList_setIfInBounds]
  rw [List.set_append, if_neg (by omega), Nat.sub_self, hm, List.replicate_succ, List.set_cons_zero]
  simp only [List.length_append, List.length_cons, List.length_nil]
  rw [show n - (done.length + (0 + 1)) = m by omega]
  simp
theorem fillB_all {done : List Value} {n : Nat} {z : Value} (h : done.length = n) : fillB done n z = done.toArray := by
  unfold fillB
  rw [h, Nat.sub_self]
  simp
theorem fillB_none (n : Nat) (z : Value) : fillB [] n z = (List.replicate n z).toArray := by simp [fillB]
theorem fillB_cell {done : List Value} {n : Nat} {z : Value} (h : done.length < n) : (fillB done n z)[done.length]? = some z := by
  unfold fillB
  obtain ⟨m, hm⟩ : ∃ m, n - done.length = m + 1 := ⟨n - done.length - 1, by omega⟩
  simp [hm, List.replicate_succ]
/-- make of as many as n. -/
theorem makeB_blk {P : Program} (w : World) (t e : TypeId) (i : TypeInfo) (z : Value) (ht : P.underlying t = some (.slice e)) (hi : P.info? e = some i) (hz : i.zero = some z) (hs : i.size = 1) (hc : z.cells = #[z])
    (n : Nat) (hb : i.bytes ≤ 64) (hn : n ≤ 4194304) :
    (Instr.makeSlice t (.int .i64 (n : Int)) (.int .i64 (n : Int))).run P w = .ok (.slice (some ⟨w.heap.size, 0, none⟩) n n) (w.alloc (.cells (fillB [] n z) e)) := by
  have hbb : (i.bytes : Int) * (n : Int) ≤ 281474976710656 := by
    have h : i.bytes * n ≤ 64 * 4194304 := Nat.mul_le_mul hb hn
    have h2 : ((i.bytes * n : Nat) : Int) ≤ ((64 * 4194304 : Nat) : Int) := Int.ofNat_le.mpr h
    rw [Int.natCast_mul] at h2
    omega
  have hr := run_makeSlice (P := P) w t e i z ht hi hz .i64 .i64 (n : Int) (n : Int) (by omega) (Int.le_refl _) (by simp [hs]; omega) hbb (by omega)
  simp only [Int.toNat_natCast] at hr
  rw [hr, hc, hs, Nat.mul_one]
  have : madeCells #[z] n = fillB [] n z := by
    apply Array.ext'
    rw [toList_madeCells_one, fillB_none]
  rw [this]

end Go.Proofs.Ytfjjigcghhohkaa
