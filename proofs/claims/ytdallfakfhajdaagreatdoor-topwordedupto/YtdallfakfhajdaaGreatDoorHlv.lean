/-
  The walk of missivelaw08.lives, over this seat's program.
-/
import Derived.Test.YtdallfakfhajdaaGreatDoorHsf
set_option linter.unusedVariables false
namespace Go.Proofs.YtdallfakfhajdaaGreatDoor
open Go.RowKit Go.Proofs.Hed

/-- Fields of bytes. -/
def fld (p : List UInt8 × List UInt8) : Fld := (bts p.1, bts p.2)
theorem fld_lst (f : Fld) : fld (lst f) = f := by
  obtain ⟨a, b⟩ := f
  simp only [fld, lst, bts_toList]
theorem lst_fld (p : List UInt8 × List UInt8) : lst (fld p) = p := by
  obtain ⟨a, b⟩ := p
  simp only [fld, lst, toList_bts]
theorem flds_of {l : List Fld} {L : List (List UInt8 × List UInt8)} (h : l.map lst = L) : l = L.map fld := by
  rw [← h, List.map_map]
  conv => lhs; rw [← List.map_id l]
  apply List.map_congr_left
  intro f _
  exact (fld_lst f).symm
theorem map_fld (L : List (List UInt8 × List UInt8)) : (L.map fld).map lst = L := by
  rw [List.map_map]
  conv => rhs; rw [← List.map_id L]
  apply List.map_congr_left
  intro f _
  exact lst_fld f

/-- A literal's fields. -/
theorem rowF_lit (w : World) (l : List Fld) (cs : Array Value) (hcs : cs.toList = flatF l) (hl : l.length ≤ 4194304) (hf : ∀ f ∈ l, Fits f) : RowF (w.alloc (.cells cs 39)) (.slice (some ⟨w.heap.size, 0, none⟩) l.length l.length) l := by
  refine ⟨_, _, rfl, hl, hf, .inr ⟨w.heap.size, 0, rfl, by simp, fun j u hj => ?_⟩⟩
  rw [Nat.zero_add, World.cell?_alloc_at _ _ _ _ (by simp), ← Array.getElem?_toList, hcs]
  exact hj
theorem rowS_lit (w : World) (l : List ByteArray) (cs : Array Value) (hcs : cs.toList = l.map Value.string) (hl : l.length ≤ 9223372036854775807) (hn : ∀ s ∈ l, s.size ≤ 9223372036854775807) : RowS (w.alloc (.cells cs 9)) (.slice (some ⟨w.heap.size, 0, none⟩) l.length l.length) l := by
  refine ⟨_, _, rfl, hl, hn, .inr ⟨w.heap.size, 0, rfl, by simp, fun j hj => ?_⟩⟩
  rw [Nat.zero_add, World.cell?_alloc_at _ _ _ _ (by simp), ← Array.getElem?_toList, hcs, List.getElem?_map, List.getElem?_eq_getElem hj]
  rfl

def livesF : List (List UInt8 × List UInt8) := [([65], [98, 32, 99]), ([88], [121])]

end Go.Proofs.YtdallfakfhajdaaGreatDoor
