/-
  A builder at work beside a box of the call's own, over this seat's program.
-/
import Derived.Test.YtihgmpebpkjmkaaGreatDoorWrb
set_option linter.unusedVariables false
namespace Go.Proofs.YtihgmpebpkjmkaaGreatDoor
open Go.RowKit

set_option maxHeartbeats 2000000 in
set_option maxRecDepth 100000 in
theorem writeString_o (B b : Nat) (l : List UInt8) (s : ByteArray) (w : World) (h : Lib.IsBuilderF 60 5 B b (Lib.byteCells l) w) (hlen : l.length + s.size ≤ 140737488355328) (hBw : B ≤ w.heap.size) :
    Calls Tryz.prog 21 #[.pointer (some ⟨b, 0, none⟩), .string s] w fun e w' => e = .returned (.tuple #[.int .i64 s.size, .nilIface]) ∧ (Lib.IsBuilderF 60 5 B b (Lib.byteCells (l ++ s.data.toList)) w' ∧ Below B w w' ∧ Lib.OthersKept 5 (some b) w w') := by
  obtain ⟨i0, hi, hz0, hz1, hz2⟩ := info_parts bInfo
  have hll : (Lib.byteCells l).length = l.length := Lib.byteCells_length l
  go_enter Tryz.func21, Tryz.ntmps21
  go_wp2_with (go_at_call 43; refine (copyCheck_k B b (Lib.byteCells l) _ h).mono ?_)
  rintro e w1 ⟨rfl, h1, hb1, hk1⟩
  obtain ⟨hB, v, hbk, hown, hne⟩ := h1
  have c0 : w1.cell? ⟨b, 0, none⟩ = some (.pointer (some ⟨b, 0, none⟩)) := by rw [Lib.cell_of_heap hbk]; rfl
  have c1 : w1.cell? ⟨b, 1, none⟩ = some v := by rw [Lib.cell_of_heap hbk]; rfl
  go_wp2_with (at_builtin; refine Lib.wpList_append_own_stringF _ rfl _ _ 58 9 rfl B 5 i0 Tryz.underlying58 Tryz.underlying9 hi hz0 hz1 hz2 _ _ _ rfl hown s rfl ?c3 ?c4 ?c5 ?_)
  case c3 => unfold maxLen; omega
  case c4 => omega
  case c5 => have := hb1.size; omega
  intro v' w2 hown' hgrow _
  have hlt : b < w1.heap.size := by
    rcases Nat.lt_or_ge b w1.heap.size with h' | h'
    · exact h'
    · simp [Array.getElem?_eq_none h'] at hbk
  have hb2 : w2.heap[b]? = some (.cells #[.pointer (some ⟨b, 0, none⟩), v] 60 (0, 0)) := by
    rw [hgrow.block b hlt (fun e => hne e.symm)]
    exact hbk
  have d0 : w2.cell? ⟨b, 0, none⟩ = some (.pointer (some ⟨b, 0, none⟩)) := by rw [Lib.cell_of_heap hb2]; rfl
  have d1 : w2.cell? ⟨b, 1, none⟩ = some v := by rw [Lib.cell_of_heap hb2]; rfl
  have f1 : w2.frozen? ⟨b, 1, none⟩ = false := Lib.frozen_of_heap hb2 1
  obtain ⟨ao, n', cap, rfl⟩ : ∃ ao n' cap, v' = .slice ao n' cap := by
    rcases hown'.2 with ⟨hv, _⟩ | ⟨g, cap, cur, fz, hv, _⟩
    · exact ⟨_, _, _, hv⟩
    · exact ⟨_, _, _, hv⟩
  go_wp2
  go_ret2
  refine ⟨rfl, Or.inr ?_, ?_, (hk1.grown hgrow (Lib.ownsRowF_kind hown)).setCell ⟨b, 1, none⟩ rfl _⟩
  · have := Lib.BuilderAtF.put (T := 60) (e := 5) hB hb2 (bs' := Lib.byteCells l ++ Lib.strCells s) (by simpa [Lib.strCells_length, hll] using hown') (by decide)
    rw [strCells_eq, ← Lib.byteCells_append] at this
    exact this
  · exact (hb1.grown hgrow (by have := hb1.size; omega) (fun k hk => (hown.lt k hk).1)).setCell (p := ⟨b, 1, none⟩) hB _

/-- A builder at work beside a box. -/
structure WrX (u W : World) (k : Nat) (t : TypeId) (cs : Array Value) (l : List UInt8) : Prop where
  wr : Wr u W l
  box : Blk W k t cs
  ne : k ≠ u.heap.size

theorem Wr.lt {u W : World} {l : List UInt8} (h : Wr u W l) : u.heap.size < W.heap.size := by
  rcases h.isb with ⟨_, v, hbk, _⟩ | ⟨_, v, hbk, _⟩
  · exact (Array.getElem?_eq_some_iff.1 hbk).1
  · exact (Array.getElem?_eq_some_iff.1 hbk).1
theorem WrX.new {u W : World} {l : List UInt8} (h : Wr u W l) (t : TypeId) (cs : Array Value) : WrX u (W.alloc (.cells cs t)) W.heap.size t cs l :=
  ⟨h.below ((Below.refl _ W).alloc (Nat.le_refl _) _), Blk.new W t cs, by have := h.lt; omega⟩
theorem WrX.below {u W W' : World} {k : Nat} {t : TypeId} {cs : Array Value} {l : List UInt8} (h : WrX u W k t cs l) (hb : Below W.heap.size W W') : WrX u W' k t cs l :=
  ⟨h.wr.below hb, h.box.below hb, h.ne⟩
theorem xStr {u W : World} {k : Nat} {t : TypeId} {cs : Array Value} {l : List UInt8} (h : WrX u W k t cs l) (ht : t ≠ 5) (s : ByteArray) (hl : l.length + s.size ≤ 140737488355328) :
    Calls Tryz.prog 21 #[.pointer (some ⟨u.heap.size, 0, none⟩), .string s] W fun e w' => e = .returned (.tuple #[.int .i64 s.size, .nilIface]) ∧ WrX u w' k t cs (l ++ s.data.toList) := by
  refine (writeString_o u.heap.size u.heap.size l s W h.wr.isb hl h.wr.bel.size).mono ?_
  rintro e w' ⟨rfl, h1, h2, h3⟩
  exact ⟨rfl, ⟨h1, h.wr.bel.trans h2⟩, h3 k _ h.box (by simpa using h.ne) (fun c fz e => by simp at e; exact ht e.2.1), h.ne⟩
theorem yStr {u W : World} {l : List UInt8} (h : Wr u W l) (s : ByteArray) (hl : l.length + s.size ≤ 140737488355328) :
    Calls Tryz.prog 21 #[.pointer (some ⟨u.heap.size, 0, none⟩), .string s] W fun e w' => e = .returned (.tuple #[.int .i64 s.size, .nilIface]) ∧ Wr u w' (l ++ s.data.toList) := by
  refine (writeString_k u.heap.size u.heap.size l s W h.isb hl h.bel.size).mono ?_
  rintro e w' ⟨rfl, h1, h2⟩
  exact ⟨rfl, h1, h.bel.trans h2⟩
end Go.Proofs.YtihgmpebpkjmkaaGreatDoor
