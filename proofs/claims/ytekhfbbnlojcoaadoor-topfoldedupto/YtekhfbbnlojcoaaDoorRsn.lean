/-
  What missiveref06.Same and missiveref06.Is do, over this seat's program; and a row of letters that the call owns, as letters.
-/
import Derived.Test.YtekhfbbnlojcoaaDoorRwi
set_option linter.unusedVariables false
namespace Go.Proofs.YtekhfbbnlojcoaaDoor
open Go.RowKit Go.Proofs.Rns

theorem takeI_next {l r : List Int} {k : Nat} (hl : k < l.length) (hr : k < r.length) : l.take (k + 1) = r.take (k + 1) ↔ l.take k = r.take k ∧ l[k] = r[k] := by
  rw [List.take_succ_eq_append_getElem hl, List.take_succ_eq_append_getElem hr]
  constructor
  · intro h
    have := List.append_inj' h rfl
    exact ⟨this.1, by simpa using this.2⟩
  · rintro ⟨h1, h2⟩
    rw [h1, h2]

/-- A row of letters that the call owns, as letters. -/
theorem own_rowI {w : World} {B : Nat} {v : Value} {l : List Nat} (h : w.ownsRow B 21 1 v l.length (runeC l)) (hn : ∀ n ∈ l, isL (n : Int) = true) : RowI w v (ints l) := by
  have hlen : (ints l).length = l.length := by simp [ints]
  have hr : ∀ n ∈ ints l, -2147483648 ≤ n ∧ n ≤ 2147483647 := by
    intro n hm
    simp only [ints, List.mem_map] at hm
    obtain ⟨m, hm, rfl⟩ := hm
    have := hn m hm
    simp only [isL, decide_eq_true_eq] at this
    have e : Int.ofNat m = (m : Int) := rfl
    omega
  rcases h.2 with ⟨hv, h0⟩ | ⟨g, cap, cur, hv, hg, hh, hn', hm, hs, ht⟩
  · have : l = [] := List.eq_nil_of_length_eq_zero h0
    subst this
    exact ⟨none, 0, by rw [hv]; rfl, hr, Or.inl rfl⟩
  · refine ⟨some ⟨g, 0, none⟩, cap, by rw [hv, hlen], hr, Or.inr ⟨g, 0, rfl, (Array.getElem?_eq_some_iff.1 hh).1, fun j hj => ?_⟩⟩
    rw [hlen] at hj
    have h1 : (cur.toList.take (l.length * 1))[j]? = (runeC l)[j]? := by rw [ht]
    have h2 : (runeC l)[j]? = some (.int .i32 ((ints l)[j]'(by omega))) := by simp [runeC, ints, List.getElem?_eq_getElem hj]
    rw [h2, List.getElem?_take, if_pos (by omega)] at h1
    simp only [World.cell?, hh]
    simpa using h1

/-- A literal of letters. -/
theorem lit_rowI (w : World) (l : List Int) (cs : Array Value) (hcs : cs = (l.map fun n => Value.int .i32 n).toArray) (hr : ∀ n ∈ l, -2147483648 ≤ n ∧ n ≤ 2147483647) (m : Nat) (hm : m = l.length) : RowI (w.alloc (.cells cs 21)) (.slice (some ⟨w.heap.size, 0, none⟩) m m) l := by
  subst hm
  refine ⟨_, _, rfl, hr, Or.inr ⟨w.heap.size, 0, rfl, by simp, fun j hj => ?_⟩⟩
  have h : Blk (w.alloc (.cells cs 21)) w.heap.size 21 cs := Blk.new w _ _
  rw [Blk.cell h, hcs]
  simp [List.getElem?_eq_getElem hj]

theorem decL_is (c : Nat) (hc : c ≤ 5) (s : List UInt8) : ∀ n ∈ decL c s, isL (n : Int) = true := by
  unfold decL
  split
  · exact lettersL_is s
  · intro n hn
    simp only [List.mem_map] at hn
    obtain ⟨b, _, rfl⟩ := hn
    exact ofB_is hc b.toNat_lt
theorem decR_is (c : Nat) (s : List UInt8) : ∀ n ∈ (decR c s).1, isL (n : Int) = true := by
  unfold decR
  split
  · exact decL_is c (by omega) s
  · intro n hn; simp at hn
end Go.Proofs.YtekhfbbnlojcoaaDoor
