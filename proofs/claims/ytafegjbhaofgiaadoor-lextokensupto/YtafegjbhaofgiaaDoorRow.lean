/-
  A row of bytes that the call owns, and what it is as a text, over this seat's program.
-/
import Derived.Test.YtafegjbhaofgiaaDoorStr
import Derived.Laws.IdiomStrings
set_option linter.unusedVariables false
namespace Go.Proofs.YtafegjbhaofgiaaDoor
open Go.RowKit

/-- A row of bytes that the call owns, as a text. -/
theorem own_string {w : World} {B : Nat} {v : Value} {l : List UInt8} (h : w.ownsRow B 5 1 v l.length (Lib.byteCells l)) : (convert 56 9 v).run Tryd.prog w = .ok (.string (bts l)) w := by
  rcases h.2 with ⟨hv, h0⟩ | ⟨g, cap, cur, hv, hg, hh, hn, hm, hs, ht⟩
  · have hl : l = [] := List.eq_nil_of_length_eq_zero h0
    subst hl
    rw [hv, run_convert_bytes_string w _ _ 5 none 0 0 Tryd.underlying56 Tryd.underlying5 Tryd.underlying9]
    simp [Conv.bytesToString, bts, go_sem]
    rfl
  · rw [hv]
    refine run_convert_bytes_back (P := Tryd.prog) w 56 9 5 ⟨g, 0, none⟩ cap l Tryd.underlying56 Tryd.underlying5 Tryd.underlying9 fun j hj => ?_
    have h1 : (cur.toList.take (l.length * 1))[j]? = (Lib.byteCells l)[j]? := by rw [ht]
    have h2 : (Lib.byteCells l)[j]? = some (.int .u8 (l[j].toNat : Int)) := by simp [Lib.byteCells, List.getElem?_eq_getElem hj]
    rw [h2, List.getElem?_take, if_pos (by omega)] at h1
    have ha : Addr.add ⟨g, 0, none⟩ j = ⟨g, j, none⟩ := by
      unfold Addr.add
      by_cases h0 : j = 0
      · simp [h0]
      · simp [h0]
    rw [ha]
    simp only [World.cell?, hh]
    simpa using h1

/-- What is below a row that grew. -/
theorem own_grown {w wr w2 : World} {o : Obj} {B : Nat} {e : TypeId} {v : Value} {n : Nat} {xs : List Value} (hown : wr.ownsRow B e 1 v n xs) (hgrow : (wr.alloc o).grownBy w2 v.ownBlock) (hbw : Below B w wr) (hB : B ≤ wr.heap.size) : Below B w w2 :=
  (hbw.alloc hB _).grown hgrow (by simp; omega) (fun k hk => by
    rcases hown.2 with ⟨rfl, _⟩ | ⟨g, cap, cur, rfl, hg, _⟩
    · simp [Value.ownBlock] at hk
    · simp [Value.ownBlock] at hk; omega)
end Go.Proofs.YtafegjbhaofgiaaDoor
