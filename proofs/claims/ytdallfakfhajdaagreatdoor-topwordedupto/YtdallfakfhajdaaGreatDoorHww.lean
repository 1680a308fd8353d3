/-
  What head.writeField and head.Write do, over this seat's program.
-/
import Derived.Test.YtdallfakfhajdaaGreatDoorHwr
set_option linter.unusedVariables false
namespace Go.Proofs.YtdallfakfhajdaaGreatDoor
open Go.RowKit Go.Proofs.Hed

set_option maxHeartbeats 2000000 in
set_option maxRecDepth 100000 in
theorem writeString_o (B b : Nat) (l : List UInt8) (s : ByteArray) (w : World) (h : Lib.IsBuilderF 65 5 B b (Lib.byteCells l) w) (hlen : l.length + s.size ≤ 140737488355328) (hBw : B ≤ w.heap.size) :
    Calls Tryz.prog 57 #[.pointer (some ⟨b, 0, none⟩), .string s] w fun e w' => e = .returned (.tuple #[.int .i64 s.size, .nilIface]) ∧ (Lib.IsBuilderF 65 5 B b (Lib.byteCells (l ++ s.data.toList)) w' ∧ Below B w w' ∧ Lib.OthersKept 5 (some b) w w') := by
  obtain ⟨i0, hi, hz0, hz1, hz2⟩ := info_parts bInfo
  have hll : (Lib.byteCells l).length = l.length := Lib.byteCells_length l
  go_enter Tryz.func57, Tryz.ntmps57
  go_wp2_with (go_at_call 82; refine (copyCheck_k B b (Lib.byteCells l) _ h).mono ?_)
  rintro e w1 ⟨rfl, h1, hb1, hk1⟩
  obtain ⟨hB, v, hbk, hown, hne⟩ := h1
  have c0 : w1.cell? ⟨b, 0, none⟩ = some (.pointer (some ⟨b, 0, none⟩)) := by rw [Lib.cell_of_heap hbk]; rfl
  have c1 : w1.cell? ⟨b, 1, none⟩ = some v := by rw [Lib.cell_of_heap hbk]; rfl
  go_wp2_with (at_builtin; refine Lib.wpList_append_own_stringF _ rfl _ _ 36 9 rfl B 5 i0 Tryz.underlying36 Tryz.underlying9 hi hz0 hz1 hz2 _ _ _ rfl hown s rfl ?c3 ?c4 ?c5 ?_)
  case c3 => unfold maxLen; omega
  case c4 => omega
  case c5 => have := hb1.size; omega
  intro v' w2 hown' hgrow _
  have hlt : b < w1.heap.size := by
    rcases Nat.lt_or_ge b w1.heap.size with h' | h'
    · exact h'
    · simp [Array.getElem?_eq_none h'] at hbk
  have hb2 : w2.heap[b]? = some (.cells #[.pointer (some ⟨b, 0, none⟩), v] 65 (0, 0)) := by
    rw [hgrow.block b hlt (fun e => hne e.symm)]
    exact hbk
  have d0 : w2.cell? ⟨b, 0, none⟩ = some (.pointer (some ⟨b, 0, none⟩)) := by rw [Lib.cell_of_heap hb2]; rfl
  have d1 : w2.cell? ⟨b, 1, none⟩ = some v := by rw [Lib.cell_of_heap hb2]; rfl
  have f1 : w2.frozen? ⟨b, 1, none⟩ = false := Lib.frozen_of_heap hb2 1
  obtain ⟨ao, n', cap, rfl⟩ : ∃ ao n' cap, v' = .slice ao n' cap := by
    rcases hown'.2 with ⟨hv, _⟩ | ⟨g, cap, cur, fz, hv, _⟩
    · exact ⟨_, _, _, hv⟩
    · exact ⟨_, _, _, hv⟩
  go_wp2
  go_ret2
  refine ⟨rfl, Or.inr ?_, ?_, (hk1.grown hgrow (Lib.ownsRowF_kind hown)).setCell ⟨b, 1, none⟩ rfl _⟩
  · have := Lib.BuilderAtF.put (T := 65) (e := 5) hB hb2 (bs' := Lib.byteCells l ++ Lib.strCells s) (by simpa [Lib.strCells_length, hll] using hown') (by decide)
    rw [strCells_eq, ← Lib.byteCells_append] at this
    exact this
  · exact (hb1.grown hgrow (by have := hb1.size; omega) (fun k hk => (hown.lt k hk).1)).setCell (p := ⟨b, 1, none⟩) hB _

/-- A field's box beside a builder at work. -/
structure WrF (u W : World) (k : Nat) (x y : ByteArray) (l : List UInt8) : Prop where
  wr : Wr u W l
  box : Blk W k 39 #[.string x, .string y]
  ne : k ≠ u.heap.size

theorem keep_blk {u W W' : World} {k : Nat} {x y : ByteArray} (h : Blk W k 39 #[.string x, .string y]) (ne : k ≠ u.heap.size) (ho : Lib.OthersKept 5 (some u.heap.size) W W') : Blk W' k 39 #[.string x, .string y] :=
  ho k _ h (by simpa using ne) (fun c fz e => by simp at e)

theorem fByte {u W : World} {k : Nat} {x y : ByteArray} {l : List UInt8} (h : WrF u W k x y l) (c : UInt8) (z : Int) (hz : z = (c.toNat : Int)) (hl : l.length ≤ 1099511627776) :
    Calls Tryz.prog 39 #[.pointer (some ⟨u.heap.size, 0, none⟩), .int .u8 z] W fun e w' => e = .returned .nilIface ∧ WrF u w' k x y (l ++ [c]) := by
  refine (writeByte_k u.heap.size u.heap.size (Lib.byteCells l) z W h.wr.isb (by rw [Lib.byteCells_length]; omega) h.wr.bel.size).mono ?_
  rintro e w' ⟨rfl, h1, h2, h3⟩
  refine ⟨rfl, ⟨?_, h.wr.bel.trans h2⟩, keep_blk h.box h.ne h3, h.ne⟩
  rw [← byteCells_snoc l c z hz]
  exact Or.inr h1

theorem fStr {u W : World} {k : Nat} {x y : ByteArray} {l : List UInt8} (h : WrF u W k x y l) (s : ByteArray) (hl : l.length + s.size ≤ 1099511627776) :
    Calls Tryz.prog 57 #[.pointer (some ⟨u.heap.size, 0, none⟩), .string s] W fun e w' => e = .returned (.tuple #[.int .i64 s.size, .nilIface]) ∧ WrF u w' k x y (l ++ s.data.toList) := by
  refine (writeString_o u.heap.size u.heap.size l s W h.wr.isb (by omega) h.wr.bel.size).mono ?_
  rintro e w' ⟨rfl, h1, h2, h3⟩
  exact ⟨rfl, ⟨h1, h.wr.bel.trans h2⟩, keep_blk h.box h.ne h3, h.ne⟩

theorem WrF.c0 {u W : World} {k : Nat} {x y : ByteArray} {l : List UInt8} (h : WrF u W k x y l) : W.cell? ⟨k, 0, none⟩ = some (.string x) := (Blk.cell h.box 0).trans rfl
theorem WrF.c1 {u W : World} {k : Nat} {x y : ByteArray} {l : List UInt8} (h : WrF u W k x y l) : W.cell? ⟨k, 1, none⟩ = some (.string y) := (Blk.cell h.box 1).trans rfl

theorem Wr.lt {u W : World} {l : List UInt8} (h : Wr u W l) : u.heap.size < W.heap.size := by
  rcases h.isb with ⟨_, v, hbk, _⟩ | ⟨_, v, hbk, _⟩
  · exact (Array.getElem?_eq_some_iff.1 hbk).1
  · exact (Array.getElem?_eq_some_iff.1 hbk).1

set_option maxHeartbeats 1000000 in
theorem wField {u W : World} {l : List UInt8} (h : Wr u W l) (x y : ByteArray) (hx : x.size ≤ 16777216) (hy : y.size ≤ 16777216) (hl : l.length ≤ 549755813888) :
    Calls Tryz.prog 54 #[.pointer (some ⟨u.heap.size, 0, none⟩), .agg #[.string x, .string y]] W fun e w' => e = .returned (.tuple #[]) ∧ Wr u w' (l ++ fieldL [10] (x.data.toList, y.data.toList)) := by
  have hA : Below W.heap.size W (W.alloc (.cells #[.string x, .string y] 39)) := (Below.refl _ W).alloc (Nat.le_refl _) _
  have HW := hide (show WrF u (W.alloc (.cells #[.string x, .string y] 39)) W.heap.size x y l from ⟨h.below hA, Blk.new W _ _, by have := h.lt; omega⟩)
  have hsx := sizeL x
  have hsy := sizeL y
  have HSZ := hide (And.intro hsx hsy)
  clear hA h hsx hsy
  have c0 := (unhide HW).c0
  have hfin : fieldL [10] (x.data.toList, y.data.toList) = x.data.toList ++ [58] ++ (if y.data.toList = [] then [] else 32 :: y.data.toList) ++ [10] := rfl
  by_cases h0 : y.size = 0
  · have hnil : y.data.toList = [] := List.eq_nil_of_length_eq_zero (by rw [sizeL]; exact h0)
    have hemp : y.toList.isEmpty = true := by rw [empty_size]; exact decide_eq_true h0
    rw [hnil, if_pos rfl] at hfin
    rw [hnil]
    have HFIN := hide hfin
    have HNIL := hide hnil
    clear hfin hnil h0
    go_enter Tryz.func54, Tryz.ntmps54
    go_wp2_with fail
    generalize W.alloc (.cells #[.string x, .string y] 39) = W0 at HW c0 ⊢
    refine (fStr (unhide HW) x (by omega)).mono ?_
    rintro e W1 ⟨rfl, h⟩
    have HW1 := hide h
    clear h HW c0
    go_wp2_with fail
    refine (fByte (unhide HW1) 58 58 rfl (by rw [List.length_append, sizeL]; omega)).mono ?_
    rintro e W2 ⟨rfl, h⟩
    have c1 := h.c1
    have HW2 := hide h
    clear h HW1
    go_wp2_with fail
    refine (fStr (unhide HW2) y (by rw [List.length_append, List.length_append, sizeL]; simp; omega)).mono ?_
    rintro e W3 ⟨rfl, h⟩
    have HW3 := hide h
    clear h HW2 c1
    go_wp2_with fail
    refine (fByte (unhide HW3) 10 10 rfl (by rw [unhide HNIL]; simp only [List.length_append, sizeL, List.length_cons, List.length_nil]; omega)).mono ?_
    rintro e W4 ⟨rfl, h⟩
    have HW4 := hide h.wr
    clear h HW3
    go_wp2
    go_end0
    refine ⟨rfl, ?_⟩
    have := unhide HW4
    rw [unhide HFIN]
    rw [unhide HNIL] at this
    simpa using this
  · have hne : ¬ y.data.toList = [] := by
      intro e
      have := sizeL y
      rw [e] at this
      simp at this
      omega
    have hemp : y.toList.isEmpty = false := by rw [empty_size]; exact decide_eq_false h0
    rw [if_neg hne] at hfin
    have HFIN := hide hfin
    clear hfin hne h0
    go_enter Tryz.func54, Tryz.ntmps54
    go_wp2_with fail
    generalize W.alloc (.cells #[.string x, .string y] 39) = W0 at HW c0 ⊢
    refine (fStr (unhide HW) x (by omega)).mono ?_
    rintro e W1 ⟨rfl, h⟩
    have HW1 := hide h
    clear h HW c0
    go_wp2_with fail
    refine (fByte (unhide HW1) 58 58 rfl (by rw [List.length_append, sizeL]; omega)).mono ?_
    rintro e W2 ⟨rfl, h⟩
    have c1 := h.c1
    have HW2 := hide h
    clear h HW1
    go_wp2_with fail
    refine (fByte (unhide HW2) 32 32 rfl (by rw [List.length_append, List.length_append, sizeL]; simp; omega)).mono ?_
    rintro e W2 ⟨rfl, h⟩
    have HW2b := hide h
    have c1 := h.c1
    clear h HW2
    go_wp2_with fail
    refine (fStr (unhide HW2b) y (by simp only [List.length_append, sizeL, List.length_cons, List.length_nil]; omega)).mono ?_
    rintro e W3 ⟨rfl, h⟩
    have HW3 := hide h
    clear h HW2b c1
    go_wp2_with fail
    refine (fByte (unhide HW3) 10 10 rfl (by simp only [List.length_append, sizeL, List.length_cons, List.length_nil]; omega)).mono ?_
    rintro e W4 ⟨rfl, h⟩
    have HW4 := hide h.wr
    clear h HW3
    go_wp2
    go_end0
    refine ⟨rfl, ?_⟩
    have := unhide HW4
    rw [unhide HFIN]
    simpa using this

end Go.Proofs.YtdallfakfhajdaaGreatDoor
