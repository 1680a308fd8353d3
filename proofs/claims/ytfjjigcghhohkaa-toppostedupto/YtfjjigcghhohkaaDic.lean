/-
  What dict.Range does, over this seat's program.
-/
import Derived.Test.YtfjjigcghhohkaaDib
set_option linter.unusedVariables false
namespace Go.Proofs.Ytfjjigcghhohkaa
open Go.RowKit Go.Proofs.Num Go.Proofs.Dct

def inB (f t : Nat) (e : EntL) : Bool := decide (f ≤ e.1) && decide (e.1 ≤ t)
/-- The entries of a range among the first k. -/
def upB (f t : Nat) (l : List EntL) (k : Nat) : List Ent := ((l.take k).filter (inB f t)).map entB
theorem upB_in {f t : Nat} {l : List EntL} {k : Nat} (h : k < l.length) (hi : inB f t l[k] = true) : upB f t l (k + 1) = upB f t l k ++ [entB l[k]] := by
  unfold upB
  rw [List.take_succ_eq_append_getElem h, List.filter_append, List.map_append]
  simp [hi]
theorem upB_out {f t : Nat} {l : List EntL} {k : Nat} (h : k < l.length) (hi : inB f t l[k] = false) : upB f t l (k + 1) = upB f t l k := by
  unfold upB
  rw [List.take_succ_eq_append_getElem h, List.filter_append, List.map_append]
  simp [hi]
theorem upB_len (f t : Nat) (l : List EntL) (k : Nat) : (upB f t l k).length ≤ k := by
  unfold upB
  rw [List.length_map]
  have h1 := List.length_filter_le (inB f t) (l.take k)
  rw [List.length_take] at h1
  omega
def DRange (s : ByteArray) (f t : Nat) (w' : World) (v : Value) (c : Nat) : Prop :=
  match readD s.data.toList with
  | .error e => v = .slice none 0 0 ∧ c = e
  | .ok (l, q) => RowE w' v ((l.filter (inB f t)).map entB) ∧ c = 0
theorem drange_err {s : ByteArray} {f t e : Nat} (h : readD s.data.toList = .error e) (w' : World) : DRange s f t w' (.slice none 0 0) e := by
  unfold DRange; rw [h]; exact ⟨rfl, rfl⟩
theorem drange_ok {s : ByteArray} {f t : Nat} {l : List EntL} {q : Nat} (h : readD s.data.toList = .ok (l, q)) {w' : World} {v : Value} (hr : RowE w' v ((l.filter (inB f t)).map entB)) : DRange s f t w' v 0 := by
  unfold DRange; rw [h]; exact ⟨hr, rfl⟩

end Go.Proofs.Ytfjjigcghhohkaa
