/-
  Bytes at work: a slice of bytes made of a text, changed place by place, over this seat's program.
-/
import Derived.Test.YthpjogfclklefaaDoorBlc
import Derived.Laws.IdiomStrings
import Derived.Deep.Cut
set_option linter.unusedVariables false
namespace Go.Proofs.YthpjogfclklefaaDoor
open Go.RowKit

/-- The world has the bytes l in block b, from its first cell on, and none of them is frozen. -/
structure Bytes (w : World) (b : Nat) (l : List UInt8) : Prop where
  cell : ∀ j (h : j < l.length), w.cell? ⟨b, j, none⟩ = some (.int .u8 (l[j].toNat : Int))
  free : ∀ j, j < l.length → w.frozen? ⟨b, j, none⟩ = false

theorem bytes_new (w : World) (l : List UInt8) (cap : Nat) : Bytes (w.alloc (.cells (bytesRow (bts l) cap) 5 ((bytesRow (bts l) cap).size, (bytesRow (bts l) cap).size + 1))).drew w.heap.size l := by
  have hsz : l.length ≤ (bytesRow (bts l) cap).size := by
    simp [bytesRow, bts]
  refine ⟨fun j hj => ?_, fun j hj => ?_⟩
  · have := World.cell?_alloc_mark w.drew (bytesRow (bts l) cap) 5 ((bytesRow (bts l) cap).size, (bytesRow (bts l) cap).size + 1) j
    refine Eq.trans this ?_
    simp [bytesRow, bts, Array.getElem?_append, hj]
  · have hh : (w.alloc (.cells (bytesRow (bts l) cap) 5 ((bytesRow (bts l) cap).size, (bytesRow (bts l) cap).size + 1))).drew.heap[w.heap.size]? = some (.cells (bytesRow (bts l) cap) 5 ((bytesRow (bts l) cap).size, (bytesRow (bts l) cap).size + 1)) := by
      show (w.heap.push _)[w.heap.size]? = _
      simp
    unfold World.frozen?
    simp only [hh]
    simp
    omega

theorem Bytes.set {w : World} {b : Nat} {l : List UInt8} (h : Bytes w b l) (t : Nat) (ht : t < l.length) (z : UInt8) : Bytes (w.setCell ⟨b, t, none⟩ (.int .u8 (z.toNat : Int))) b (l.set t z) := by
  refine ⟨fun j hj => ?_, fun j hj => ?_⟩
  · have hj' : j < l.length := by simpa using hj
    by_cases e : j = t
    · subst e
      rw [World.cell?_setCell_same _ _ _ (h.cell j ht), List.getElem_set_self]
    · rw [World.cell?_setCell_other _ _ _ _ (by intro hh; have h3 := congrArg Addr.off hh; simp at h3; omega), h.cell j hj', List.getElem_set_ne (by omega)]
  · have hj' : j < l.length := by simpa using hj
    rw [World.frozen?_setCell]; exact h.free j hj'

/-- The first k changed, the rest as they were. -/
def greF (f : UInt8 → UInt8) (k : Nat) (l : List UInt8) : List UInt8 := (l.take k).map f ++ l.drop k
variable (f : UInt8 → UInt8)
theorem greF_len (k : Nat) (l : List UInt8) : (greF f k l).length = l.length := by simp [greF]; omega
theorem greF_at (k : Nat) (l : List UInt8) (h : k < l.length) : (greF f k l)[k]'(by rw [greF_len]; exact h) = l[k] := by
  unfold greF
  rw [List.getElem_append_right (by simp; omega)]
  simp [Nat.min_eq_left (Nat.le_of_lt h)]
theorem greF_next (k : Nat) (l : List UInt8) (h : k < l.length) : greF f (k + 1) l = (greF f k l).set k (f l[k]) := by
  unfold greF
  rw [List.set_append_right _ _ (by simp; omega)]
  simp only [List.length_map, List.length_take, Nat.min_eq_left (Nat.le_of_lt h), Nat.sub_self]
  rw [List.drop_eq_getElem_cons h, List.set_cons_zero, List.take_succ_eq_append_getElem h]
  simp only [List.map_append, List.map_cons, List.map_nil, List.append_assoc, List.cons_append, List.nil_append]
theorem greF_same (k : Nat) (l : List UInt8) (h : k < l.length) (hu : f l[k] = l[k]) : greF f (k + 1) l = greF f k l := by
  rw [greF_next f k l h, hu]
  conv => lhs; rw [← greF_at f k l h]
  rw [List.set_getElem_self]
theorem greF_all (l : List UInt8) (k : Nat) (h : l.length ≤ k) : greF f k l = l.map f := by simp [greF, List.take_of_length_le h, List.drop_eq_nil_of_le h]

end Go.Proofs.YthpjogfclklefaaDoor
