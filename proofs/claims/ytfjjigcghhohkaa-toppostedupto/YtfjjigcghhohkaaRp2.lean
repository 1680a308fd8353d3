/-
  What the document's own Put, Size and Get do, over this seat's program: the same bytes, the same number, the same error.
-/
import Derived.Test.YtfjjigcghhohkaaSi2
import Derived.Laws.IdiomStrings
import Derived.Deep.RegionWith
import Derived.Deep.QuietTactic
import Derived.BigQuiet
import Derived.WalkSmall
set_option linter.unusedVariables false
namespace Go.Proofs.Ytfjjigcghhohkaa
open Go.RowKit Go.Proofs.Num

theorem add128 (m : Nat) : ((m % 128 : Nat) : Int) + 128 = ((UInt8.ofNat (m % 128 + 128)).toNat : Int) := by
  simp; omega

/-- The cells of a row of bytes that the call owns. -/
theorem own_cells {w : World} {B : Nat} {e : TypeId} {v : Value} {l : List UInt8} (h : w.ownsRow B e 1 v l.length (Lib.byteCells l)) (hp : 0 < l.length) :
    ∃ g cap, v = .slice (some ⟨g, 0, none⟩) l.length cap ∧ ∀ j (hj : j < l.length), w.cell? (Addr.add ⟨g, 0, none⟩ j) = some (.int .u8 (l[j].toNat : Int)) := by
  rcases h.2 with ⟨_, h0⟩ | ⟨g, cap, cur, hv, hg, hh, hn, hm, hs, ht⟩
  · omega
  · refine ⟨g, cap, hv, fun j hj => ?_⟩
    have h1 : (cur.toList.take (l.length * 1))[j]? = (Lib.byteCells l)[j]? := by rw [ht]
    have h2 : (Lib.byteCells l)[j]? = some (.int .u8 (l[j].toNat : Int)) := by simp [Lib.byteCells, List.getElem?_eq_getElem hj]
    rw [h2, List.getElem?_take, if_pos (by omega)] at h1
    have ha : Addr.add ⟨g, 0, none⟩ j = ⟨g, j, none⟩ := by
      unfold Addr.add
      by_cases h0 : j = 0
      · simp [h0]
      · simp [h0]
    rw [ha]
    simp only [World.cell?, hh]
    simpa using h1

theorem take_ok {s : List UInt8} {m k : Nat} (h : scanL s = (m, k, 0)) : s.take k = putL m := by
  obtain ⟨h1, h2, _⟩ := scanL_ok h
  rw [h1, h2, List.take_left']
  rfl
theorem take_no {s : List UInt8} {m k c : Nat} (h : scanL s = (0, 0, c)) (hc : c ≠ 0) (hm : m < 18446744073709551616) : s.take k ≠ putL m := by
  intro he
  have h1 : s = putL m ++ s.drop k := by rw [← he, List.take_append_drop]
  rw [h1, scanL_put m _ hm] at h
  simp at h
  omega

theorem addE (m c k : Nat) (hk : k ≤ 9) (hn : m < 2 ^ (7 * k)) (hc : c < 256) (h9 : k = 9 → c ≤ 1) :
    IntKind.u64.wrap ((m : Int) + IntKind.u64.wrap ((c : Int) % 128 * 2 ^ (7 * k))) = ((m + c % 128 * 2 ^ (7 * k) : Nat) : Int) := by
  have hu := joinE_u64 m c k hk hn hc h9
  rw [show ((c : Int) % 128 * 2 ^ (7 * k)) = ((c % 128 * 2 ^ (7 * k) : Nat) : Int) by simp, wrap_u64 _ (by omega), ← Int.natCast_add, wrap_u64 _ hu]

end Go.Proofs.Ytfjjigcghhohkaa
