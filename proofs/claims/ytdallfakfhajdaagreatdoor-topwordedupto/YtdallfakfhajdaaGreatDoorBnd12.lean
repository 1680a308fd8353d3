/-
  What strings.ContainsAny at line ends, head.isValue, writeField and Write do, over this seat's program.
-/
import Derived.Test.YtdallfakfhajdaaGreatDoorBnd11
import Derived.Test.YtdallfakfhajdaaGreatDoorWrb
import Derived.Test.YtdallfakfhajdaaGreatDoorBnd10
set_option linter.unusedVariables false
namespace Go.Proofs.YtdallfakfhajdaaGreatDoor
open Go.RowKit Go.Proofs.Hed

theorem indexAny_any (s C : ByteArray) (w : World) (h2 : C.size = 2) (ha : ∀ (j : Nat) (h : j < C.size), (C[j]'h).toNat < 128) (hs : s.size < 4294967281) :
    Calls Tryz.prog 109 #[.string s, .string C] w fun e w' => e = .returned (.int .i64 (Lib.indexAny s.data.toList C.data.toList)) ∧ Below w.heap.size w w' := by
  by_cases h8 : s.size ≤ 8
  · exact indexAny_short s C w h2 ha h8
  · refine (Any.strings_IndexAny_long Tryz.lays153 (zero_of_info (show (Tryz.prog.info? _).map (fun i => (i.zero, i.size)) = some (some (.agg (Array.replicate 256 (.bool false))), 256) by kernel_rfl)).1 (by kernel_rfl) s C w (by omega) (by omega) hs (by omega) (fun j b hb => by
      obtain ⟨hj, rfl⟩ := List.getElem?_eq_some_iff.1 hb
      exact ha j (by rwa [sizeL] at hj))).mono ?_
    rintro e w' ⟨rfl, rfl⟩
    exact ⟨rfl, ((Below.refl _ w).alloc (Nat.le_refl _) _).alloc (by simp) _⟩

theorem any_lf' : ∀ v : List UInt8, 0 ≤ Lib.indexAny v [13, 10] ↔ v.all (fun c => c != 10 && c != 13) = false
  | [] => by simp [Lib.indexAny]
  | c :: r => by
    have ih := any_lf' r
    have hg := Lib.indexAny_ge [13, 10] r
    by_cases h13 : c = 13
    · subst h13; simp [Lib.indexAny]
    · by_cases h10 : c = 10
      · subst h10; simp [Lib.indexAny]
      · have e : Lib.indexAny (c :: r) [13, 10] = if Lib.indexAny r [13, 10] == -1 then -1 else Lib.indexAny r [13, 10] + 1 := by
          simp [Lib.indexAny, h13, h10]
        have hb : (c :: r).all (fun c => c != 10 && c != 13) = r.all (fun c => c != 10 && c != 13) := by
          rw [List.all_cons]
          simp [h13, h10]
        rw [e, hb, ← ih]
        by_cases h : Lib.indexAny r [13, 10] = -1
        · rw [if_pos (by simpa using h), h]
        · rw [if_neg (by simpa using h)]
          omega
theorem any_lf (v : List UInt8) : decide (0 ≤ Lib.indexAny v [13, 10]) = !(v.all (fun c => c != 10 && c != 13)) := by
  have := any_lf' v
  cases h : v.all (fun c => c != 10 && c != 13)
  · rw [decide_eq_true (this.2 h)]; rfl
  · rw [decide_eq_false (fun hh => by rw [this.1 hh] at h; cases h)]; rfl

set_option maxHeartbeats 1000000 in
theorem containsAny_any (s : ByteArray) (w : World) (hs : s.size < 4294967281) :
    Calls Tryz.prog 95 #[.string s, .string ⟨#[13, 10]⟩] w fun e w' => e = .returned (.bool (!(s.data.toList.all (fun c => c != 10 && c != 13)))) ∧ Below w.heap.size w w' := by
  have HI := hide (indexAny_any s ⟨#[13, 10]⟩ w rfl (by decide) hs)
  rw [show (⟨#[13, 10]⟩ : ByteArray).data.toList = [13, 10] from rfl] at HI
  rw [← any_lf]
  generalize Lib.indexAny s.data.toList [13, 10] = i at HI ⊢
  go_enter Tryz.func95, Tryz.ntmps95
  go_wp2_with fail
  refine (unhide HI).mono ?_
  rintro e w1 ⟨rfl, hb⟩
  have HB := hide hb
  clear hb
  go_wp2
  go_ret
  exact ⟨rfl, unhide HB⟩

theorem last_byte (s : ByteArray) (h : 0 < s.size) : s.data.toList.getLast? = some (s[s.size - 1]'(by omega)) := by
  rw [List.getLast?_eq_getElem?, sizeL, List.getElem?_eq_getElem (by rw [sizeL]; omega)]
  rfl

theorem isVl_cons (c x : UInt8) (r : List UInt8) (hl : (c :: r).getLast? = some x) : isVl (c :: r) = ((c :: r).all (fun c => c != 10 && c != 13) && (!isB c && !isB x)) := by
  unfold isVl
  rw [hl, Bool.and_assoc]
theorem isVl_pos (s : ByteArray) (h : 0 < s.size) : isVl s.data.toList = (s.data.toList.all (fun c => c != 10 && c != 13) && (!isB (s[0]'h) && !isB (s[s.size - 1]'(by omega)))) := by
  have hl := last_byte s h
  obtain ⟨t, ht⟩ : ∃ t, s.data.toList = (s[0]'h) :: t := ⟨_, by have := drop_byte s 0 h; rwa [List.drop_zero] at this⟩
  rw [ht] at hl ⊢
  exact isVl_cons _ _ _ hl

set_option maxHeartbeats 1000000 in
theorem isValue_any (s : ByteArray) (w : World) (hs : s.size ≤ 16777216) :
    Calls Tryz.prog 52 #[.string s] w fun e w' => e = .returned (.bool (isVl s.data.toList)) ∧ Below w.heap.size w w' := by
  have HC := hide (containsAny_any s w (by omega))
  by_cases h0 : s.size = 0
  · have hnil : s.data.toList = [] := List.eq_nil_of_length_eq_zero (by rw [sizeL]; exact h0)
    have hemp : s.toList.isEmpty = true := by rw [empty_size]; exact decide_eq_true h0
    rw [hnil] at HC ⊢
    rw [show (!(([] : List UInt8).all (fun c => c != 10 && c != 13))) = false from rfl] at HC
    rw [show isVl [] = true from rfl]
    clear hnil h0
    go_enter Tryz.func52, Tryz.ntmps52
    go_wp2_with fail
    refine (unhide HC).mono ?_
    rintro e w1 ⟨rfl, hb⟩
    have HB := hide hb
    clear hb
    go_wp2
    go_ret
    exact ⟨rfl, unhide HB⟩
  have hpos : 0 < s.size := by omega
  have hemp : s.toList.isEmpty = false := by rw [empty_size]; exact decide_eq_false h0
  rw [isVl_pos s hpos]
  cases hall : s.data.toList.all (fun c => c != 10 && c != 13)
  · rw [hall] at HC
    simp only [Bool.false_and]
    clear hall
    go_enter Tryz.func52, Tryz.ntmps52
    go_wp2_with fail
    refine (unhide HC).mono ?_
    rintro e w1 ⟨rfl, hb⟩
    have HB := hide hb
    clear hb
    go_wp2
    go_ret
    exact ⟨rfl, unhide HB⟩
  rw [hall] at HC
  clear hall
  simp only [Bool.true_and]
  have HL := hide (fun W => isBlank_any (s[s.size - 1]'(by omega)) W)
  have HF := hide (fun W => isBlank_any (s[0]'hpos) W)
  have hp' : (0 : Int) < (s.size : Int) := by omega
  have hb' : (s.size : Int) ≤ 16777216 := by omega
  have hix : ((s.size : Int) - 1).toNat = s.size - 1 := by omega
  cases hf : isB (s[0]'hpos)
  · rw [hf] at HF
    simp only [Bool.not_false, Bool.true_and]
    generalize isB (s[s.size - 1]'(by omega)) = bl at HL ⊢
    go_enter Tryz.func52, Tryz.ntmps52
    go_wp2_with fail
    refine (unhide HC).mono ?_
    rintro e w1 ⟨rfl, hb⟩
    have HB := hide hb
    clear hb
    go_wp2_with fail
    refine (unhide HF _).mono ?_
    rintro e _ ⟨rfl, rfl⟩
    go_wp2_with fail
    refine (unhide HL _).mono ?_
    rintro e _ ⟨rfl, rfl⟩
    go_wp2
    go_ret
    exact ⟨rfl, unhide HB⟩
  · rw [hf] at HF
    simp only [Bool.not_true, Bool.false_and]
    go_enter Tryz.func52, Tryz.ntmps52
    go_wp2_with fail
    refine (unhide HC).mono ?_
    rintro e w1 ⟨rfl, hb⟩
    have HB := hide hb
    clear hb
    go_wp2_with fail
    refine (unhide HF _).mono ?_
    rintro e _ ⟨rfl, rfl⟩
    go_wp2
    go_ret
    exact ⟨rfl, unhide HB⟩

end Go.Proofs.YtdallfakfhajdaaGreatDoor

/-
  What head.writeField and head.Write do, over this seat's program.
-/
set_option linter.unusedVariables false
namespace Go.Proofs.YtdallfakfhajdaaGreatDoor
open Go.RowKit Go.Proofs.Hed

set_option maxHeartbeats 2000000 in
set_option maxRecDepth 100000 in
theorem writeString_o (B b : Nat) (l : List UInt8) (s : ByteArray) (w : World) (h : Lib.IsBuilderF 65 5 B b (Lib.byteCells l) w) (hlen : l.length + s.size ≤ 140737488355328) (hBw : B ≤ w.heap.size) :
    Calls Tryz.prog 57 #[.pointer (some ⟨b, 0, none⟩), .string s] w fun e w' => e = .returned (.tuple #[.int .i64 s.size, .nilIface]) ∧ (Lib.IsBuilderF 65 5 B b (Lib.byteCells (l ++ s.data.toList)) w' ∧ Below B w w' ∧ Lib.OthersKept 5 (some b) w w') := by
  obtain ⟨i0, hi, hz0, hz1, hz2⟩ := info_parts bInfo
  have hll : (Lib.byteCells l).length = l.length := Lib.byteCells_length l
  go_enter Tryz.func57, Tryz.ntmps57
  go_wp2_with (go_at_call 82; refine (copyCheck_k B b (Lib.byteCells l) _ h).mono ?_)
  rintro e w1 ⟨rfl, h1, hb1, hk1⟩
  obtain ⟨hB, v, hbk, hown, hne⟩ := h1
  have c0 : w1.cell? ⟨b, 0, none⟩ = some (.pointer (some ⟨b, 0, none⟩)) := by rw [Lib.cell_of_heap hbk]; rfl
  have c1 : w1.cell? ⟨b, 1, none⟩ = some v := by rw [Lib.cell_of_heap hbk]; rfl
  go_wp2_with (at_builtin; refine Lib.wpList_append_own_stringF _ rfl _ _ 36 9 rfl B 5 i0 Tryz.underlying36 Tryz.underlying9 hi hz0 hz1 hz2 _ _ _ rfl hown s rfl ?c3 ?c4 ?c5 ?_)
  case c3 => unfold maxLen; omega
  case c4 => omega
  case c5 => have := hb1.size; omega
  intro v' w2 hown' hgrow _
  have hlt : b < w1.heap.size := by
    rcases Nat.lt_or_ge b w1.heap.size with h' | h'
    · exact h'
    · simp [Array.getElem?_eq_none h'] at hbk
  have hb2 : w2.heap[b]? = some (.cells #[.pointer (some ⟨b, 0, none⟩), v] 65 (0, 0)) := by
    rw [hgrow.block b hlt (fun e => hne e.symm)]
    exact hbk
  have d0 : w2.cell? ⟨b, 0, none⟩ = some (.pointer (some ⟨b, 0, none⟩)) := by rw [Lib.cell_of_heap hb2]; rfl
  have d1 : w2.cell? ⟨b, 1, none⟩ = some v := by rw [Lib.cell_of_heap hb2]; rfl
  have f1 : w2.frozen? ⟨b, 1, none⟩ = false := Lib.frozen_of_heap hb2 1
  obtain ⟨ao, n', cap, rfl⟩ : ∃ ao n' cap, v' = .slice ao n' cap := by
    rcases hown'.2 with ⟨hv, _⟩ | ⟨g, cap, cur, fz, hv, _⟩
    · exact ⟨_, _, _, hv⟩
    · exact ⟨_, _, _, hv⟩
  go_wp2
  go_ret2
  refine ⟨rfl, Or.inr ?_, ?_, (hk1.grown hgrow (Lib.ownsRowF_kind hown)).setCell ⟨b, 1, none⟩ rfl _⟩
  · have := Lib.BuilderAtF.put (T := 65) (e := 5) hB hb2 (bs' := Lib.byteCells l ++ Lib.strCells s) (by simpa [Lib.strCells_length, hll] using hown') (by decide)
    rw [strCells_eq, ← Lib.byteCells_append] at this
    exact this
  · exact (hb1.grown hgrow (by have := hb1.size; omega) (fun k hk => (hown.lt k hk).1)).setCell (p := ⟨b, 1, none⟩) hB _

/-- A field's box beside a builder at work. -/
structure WrF (u W : World) (k : Nat) (x y : ByteArray) (l : List UInt8) : Prop where
  wr : Wr u W l
  box : Blk W k 39 #[.string x, .string y]
  ne : k ≠ u.heap.size

theorem keep_blk {u W W' : World} {k : Nat} {x y : ByteArray} (h : Blk W k 39 #[.string x, .string y]) (ne : k ≠ u.heap.size) (ho : Lib.OthersKept 5 (some u.heap.size) W W') : Blk W' k 39 #[.string x, .string y] :=
  ho k _ h (by simpa using ne) (fun c fz e => by simp at e)

theorem fByte {u W : World} {k : Nat} {x y : ByteArray} {l : List UInt8} (h : WrF u W k x y l) (c : UInt8) (z : Int) (hz : z = (c.toNat : Int)) (hl : l.length ≤ 1099511627776) :
    Calls Tryz.prog 39 #[.pointer (some ⟨u.heap.size, 0, none⟩), .int .u8 z] W fun e w' => e = .returned .nilIface ∧ WrF u w' k x y (l ++ [c]) := by
  refine (writeByte_k u.heap.size u.heap.size (Lib.byteCells l) z W h.wr.isb (by rw [Lib.byteCells_length]; omega) h.wr.bel.size).mono ?_
  rintro e w' ⟨rfl, h1, h2, h3⟩
  refine ⟨rfl, ⟨?_, h.wr.bel.trans h2⟩, keep_blk h.box h.ne h3, h.ne⟩
  rw [← byteCells_snoc l c z hz]
  exact Or.inr h1

theorem fStr {u W : World} {k : Nat} {x y : ByteArray} {l : List UInt8} (h : WrF u W k x y l) (s : ByteArray) (hl : l.length + s.size ≤ 1099511627776) :
    Calls Tryz.prog 57 #[.pointer (some ⟨u.heap.size, 0, none⟩), .string s] W fun e w' => e = .returned (.tuple #[.int .i64 s.size, .nilIface]) ∧ WrF u w' k x y (l ++ s.data.toList) := by
  refine (writeString_o u.heap.size u.heap.size l s W h.wr.isb (by omega) h.wr.bel.size).mono ?_
  rintro e w' ⟨rfl, h1, h2, h3⟩
  exact ⟨rfl, ⟨h1, h.wr.bel.trans h2⟩, keep_blk h.box h.ne h3, h.ne⟩

theorem WrF.c0 {u W : World} {k : Nat} {x y : ByteArray} {l : List UInt8} (h : WrF u W k x y l) : W.cell? ⟨k, 0, none⟩ = some (.string x) := (Blk.cell h.box 0).trans rfl
theorem WrF.c1 {u W : World} {k : Nat} {x y : ByteArray} {l : List UInt8} (h : WrF u W k x y l) : W.cell? ⟨k, 1, none⟩ = some (.string y) := (Blk.cell h.box 1).trans rfl

theorem Wr.lt {u W : World} {l : List UInt8} (h : Wr u W l) : u.heap.size < W.heap.size := by
  rcases h.isb with ⟨_, v, hbk, _⟩ | ⟨_, v, hbk, _⟩
  · exact (Array.getElem?_eq_some_iff.1 hbk).1
  · exact (Array.getElem?_eq_some_iff.1 hbk).1

set_option maxHeartbeats 1000000 in
theorem wField {u W : World} {l : List UInt8} (h : Wr u W l) (x y : ByteArray) (hx : x.size ≤ 16777216) (hy : y.size ≤ 16777216) (hl : l.length ≤ 549755813888) :
    Calls Tryz.prog 54 #[.pointer (some ⟨u.heap.size, 0, none⟩), .agg #[.string x, .string y]] W fun e w' => e = .returned (.tuple #[]) ∧ Wr u w' (l ++ fieldL [10] (x.data.toList, y.data.toList)) := by
  have hA : Below W.heap.size W (W.alloc (.cells #[.string x, .string y] 39)) := (Below.refl _ W).alloc (Nat.le_refl _) _
  have HW := hide (show WrF u (W.alloc (.cells #[.string x, .string y] 39)) W.heap.size x y l from ⟨h.below hA, Blk.new W _ _, by have := h.lt; omega⟩)
  have hsx := sizeL x
  have hsy := sizeL y
  have HSZ := hide (And.intro hsx hsy)
  clear hA h hsx hsy
  have c0 := (unhide HW).c0
  have hfin : fieldL [10] (x.data.toList, y.data.toList) = x.data.toList ++ [58] ++ (if y.data.toList = [] then [] else 32 :: y.data.toList) ++ [10] := rfl
  by_cases h0 : y.size = 0
  · have hnil : y.data.toList = [] := List.eq_nil_of_length_eq_zero (by rw [sizeL]; exact h0)
    have hemp : y.toList.isEmpty = true := by rw [empty_size]; exact decide_eq_true h0
    rw [hnil, if_pos rfl] at hfin
    rw [hnil]
    have HFIN := hide hfin
    have HNIL := hide hnil
    clear hfin hnil h0
    go_enter Tryz.func54, Tryz.ntmps54
    go_wp2_with fail
    generalize W.alloc (.cells #[.string x, .string y] 39) = W0 at HW c0 ⊢
    refine (fStr (unhide HW) x (by omega)).mono ?_
    rintro e W1 ⟨rfl, h⟩
    have HW1 := hide h
    clear h HW c0
    go_wp2_with fail
    refine (fByte (unhide HW1) 58 58 rfl (by rw [List.length_append, sizeL]; omega)).mono ?_
    rintro e W2 ⟨rfl, h⟩
    have c1 := h.c1
    have HW2 := hide h
    clear h HW1
    go_wp2_with fail
    refine (fStr (unhide HW2) y (by rw [List.length_append, List.length_append, sizeL]; simp; omega)).mono ?_
    rintro e W3 ⟨rfl, h⟩
    have HW3 := hide h
    clear h HW2 c1
    go_wp2_with fail
    refine (fByte (unhide HW3) 10 10 rfl (by rw [unhide HNIL]; simp only [List.length_append, sizeL, List.length_cons, List.length_nil]; omega)).mono ?_
    rintro e W4 ⟨rfl, h⟩
    have HW4 := hide h.wr
    clear h HW3
    go_wp2
    go_end0
    refine ⟨rfl, ?_⟩
    have := unhide HW4
    rw [unhide HFIN]
    rw [unhide HNIL] at this
    simpa using this
  · have hne : ¬ y.data.toList = [] := by
      intro e
      have := sizeL y
      rw [e] at this
      simp at this
      omega
    have hemp : y.toList.isEmpty = false := by rw [empty_size]; exact decide_eq_false h0
    rw [if_neg hne] at hfin
    have HFIN := hide hfin
    clear hfin hne h0
    go_enter Tryz.func54, Tryz.ntmps54
    go_wp2_with fail
    generalize W.alloc (.cells #[.string x, .string y] 39) = W0 at HW c0 ⊢
    refine (fStr (unhide HW) x (by omega)).mono ?_
    rintro e W1 ⟨rfl, h⟩
    have HW1 := hide h
    clear h HW c0
    go_wp2_with fail
    refine (fByte (unhide HW1) 58 58 rfl (by rw [List.length_append, sizeL]; omega)).mono ?_
    rintro e W2 ⟨rfl, h⟩
    have c1 := h.c1
    have HW2 := hide h
    clear h HW1
    go_wp2_with fail
    refine (fByte (unhide HW2) 32 32 rfl (by rw [List.length_append, List.length_append, sizeL]; simp; omega)).mono ?_
    rintro e W2 ⟨rfl, h⟩
    have HW2b := hide h
    have c1 := h.c1
    clear h HW2
    go_wp2_with fail
    refine (fStr (unhide HW2b) y (by simp only [List.length_append, sizeL, List.length_cons, List.length_nil]; omega)).mono ?_
    rintro e W3 ⟨rfl, h⟩
    have HW3 := hide h
    clear h HW2b c1
    go_wp2_with fail
    refine (fByte (unhide HW3) 10 10 rfl (by simp only [List.length_append, sizeL, List.length_cons, List.length_nil]; omega)).mono ?_
    rintro e W4 ⟨rfl, h⟩
    have HW4 := hide h.wr
    clear h HW3
    go_wp2
    go_end0
    refine ⟨rfl, ?_⟩
    have := unhide HW4
    rw [unhide HFIN]
    simpa using this

end Go.Proofs.YtdallfakfhajdaaGreatDoor

/-
  What head.Write does, over this seat's program.
-/
set_option linter.unusedVariables false
namespace Go.Proofs.YtdallfakfhajdaaGreatDoor
open Go.RowKit Go.Proofs.Hed

/-- How many bytes some fields' lines have at most. -/
def sumF : List Fld → Nat
  | [] => 0
  | f :: r => f.1.size + f.2.size + 3 + sumF r
theorem sumF_append (a b : List Fld) : sumF (a ++ b) = sumF a + sumF b := by
  induction a with
  | nil => simp [sumF]
  | cons f r ih => simp only [List.cons_append, sumF, ih]; omega
theorem sumF_le (l : List Fld) (h : ∀ f ∈ l, Fits f) : sumF l ≤ l.length * 33554435 := by
  induction l with
  | nil => simp [sumF]
  | cons f r ih =>
    have h1 := h f (by simp)
    have h2 := ih (fun g hg => h g (by simp [hg]))
    have := h1.1
    have := h1.2
    simp only [sumF, List.length_cons]
    omega
theorem field_len (f : Fld) : (fieldL [10] (lst f)).length ≤ f.1.size + f.2.size + 3 := by
  have h1 := sizeL f.1
  have h2 := sizeL f.2
  unfold fieldL lst
  simp only [List.length_append, List.length_cons, List.length_nil]
  split
  · simp; omega
  · simp; omega
theorem flat_len (l : List Fld) : ((l.map lst).map (fieldL [10])).flatten.length ≤ sumF l := by
  induction l with
  | nil => simp [sumF]
  | cons f r ih =>
    have := field_len f
    simp only [List.map_cons, List.flatten_cons, List.length_append, sumF]
    omega
theorem take_next (l : List Fld) (k : Nat) (h : k < l.length) : l.take (k + 1) = l.take k ++ [l[k]] := List.take_succ_eq_append_getElem h

set_option maxHeartbeats 4000000 in
set_option maxRecDepth 100000 in
/-- head.Write writes the header's text, or tells what is wrong. -/
theorem hwrite_any (v : Value) (l : List Fld) (w : World) (h : RowF w v l) :
    Calls Tryz.prog 22 #[v] w fun e w' => e = .returned (.tuple #[.string (bts (writeR (l.map lst)).1), .int .i64 (writeR (l.map lst)).2]) ∧ Below w.heap.size w w' := by
  obtain ⟨a, cap, rfl, hl, hfit, hc⟩ := h
  have HC := hide hc
  have HF := hide hfit
  clear hc hfit
  go_enter Tryz.func22, Tryz.ntmps22
  go_wp2
  go_loopw [4, 12] (fun s z wr => ∃ k : Nat, z = .int .i64 k ∧ k ≤ l.length ∧ s = .int .i64 ((1 + sumF (l.take k) : Nat) : Int) ∧ Hid ((l.take k).all (fun f => okF (lst f)) = true) ∧ Hid (Below w.heap.size w wr)) (fun _ z _ => l.length - (intOf z).toNat)
  case atStart => exact ⟨0, rfl, Nat.zero_le _, by simp [sumF], hide (by simp), hide (Below.refl _ _)⟩
  case round =>
    obtain ⟨k, rfl, hk, rfl, HA, HB⟩ := hrel
    have hsb := sumF_le (l.take k) (fun f hf => unhide HF f (List.mem_of_mem_take hf))
    have htl : (l.take k).length = k := by rw [List.length_take]; omega
    rw [htl] at hsb
    have HSB := hide (And.intro hsb hl)
    by_cases hlt : k < l.length
    · have hlt1 : (k : Int) < (l.length : Int) := by omega
      have hx : ∃ b off, a = some ⟨b, off, none⟩ ∧ b < w.heap.size ∧ wr.cell? ⟨b, off + k * 2, none⟩ = some (.string l[k].1) ∧ wr.cell? ⟨b, off + k * 2 + 1, none⟩ = some (.string l[k].2) := by
        rcases unhide HC with h | ⟨b, off, ha, hb, hcj⟩
        · subst h; simp at hlt
        · obtain ⟨c0, c1⟩ := row_cells hcj hlt
          exact ⟨b, off, ha, hb, ((unhide HB).cell (p := ⟨b, off + k * 2, none⟩) hb).trans c0, ((unhide HB).cell (p := ⟨b, off + k * 2 + 1, none⟩) hb).trans c1⟩
      obtain ⟨b, off, rfl, hb, c0, c1⟩ := hx
      have hzr := (unhide HB).size
      have hf := unhide HF l[k] (List.getElem_mem hlt)
      have HNM := hide (fun W => isName_any l[k].1 W (by have := hf.1; omega))
      have HVL := hide (fun W => isValue_any l[k].2 W hf.2)
      have HBA := hide ((unhide HB).alloc hzr (.cells #[.string l[k].1, .string l[k].2] 39))
      have hall : (l.take (k + 1)).all (fun f => okF (lst f)) = okF (lst l[k]) := by
        rw [take_next l k hlt, List.all_append, unhide HA]
        simp
      have hok : okF (lst l[k]) = (isNm l[k].1.data.toList && isVl l[k].2.data.toList) := rfl
      have hsum : 1 + sumF (l.take (k + 1)) = 1 + sumF (l.take k) + (l[k].1.size + l[k].2.size + 3) := by
        rw [take_next l k hlt, sumF_append]
        simp only [sumF]
        omega
      have hbad : okF (lst l[k]) = false → writeR (l.map lst) = ([], 2) := by
        intro hb
        unfold writeR
        rw [if_neg]
        intro hh
        rw [List.all_eq_true] at hh
        have := hh (lst l[k]) (List.mem_map_of_mem (List.getElem_mem hlt))
        rw [hb] at this
        cases this
      have HBAD := hide hbad
      have HALL := hide hall
      have HSUM := hide hsum
      have HOK := hide hok
      have hf1 := hf.1
      have hf2 := hf.2
      generalize hX : l[k].1 = x at c0 HNM HBA HOK HSUM hf1
      generalize hY : l[k].2 = y at c1 HVL HBA HOK HSUM hf2
      clear hbad hall hsum hok hf hsb htl hX hY HA HB hzr
      have hsz : (sumF (l.take k) : Int) ≤ 150000000000000 := by have := (unhide HSB).1; have := (unhide HSB).2; omega
      generalize sumF (l.take k) = S at HSUM hsz HSB
      have hszp : ((1 + S : Nat) : Int) ≤ 150000000000001 := by omega
      generalize hQ : ((1 + S : Nat) : Int) = Q at hszp
      have HQ := hide hQ
      have hq0 : 0 ≤ Q := by omega
      clear hQ hsz
      cases hn : isNm x.data.toList
      · rw [hn] at HNM HOK
        have HW2 : Hid (writeR (l.map lst) = ([], 2)) := hide (unhide HBAD (unhide HOK))
        clear hn HVL HALL HSUM HBAD HOK
        go_wp2_with fail
        refine (unhide HNM _).mono ?_
        rintro e _ ⟨rfl, rfl⟩
        go_wp2
        go_ret2
        exact ⟨by rw [unhide HW2]; rfl, unhide HBA⟩
      · rw [hn] at HNM HOK
        cases hv : isVl y.data.toList
        · rw [hv] at HVL HOK
          have HW2 : Hid (writeR (l.map lst) = ([], 2)) := hide (unhide HBAD (unhide HOK))
          clear hn hv HALL HSUM HBAD HOK
          go_wp2_with fail
          refine (unhide HNM _).mono ?_
          rintro e _ ⟨rfl, rfl⟩
          go_wp2_with fail
          refine (unhide HVL _).mono ?_
          rintro e w3 ⟨rfl, hb3⟩
          have HB3 := hide ((unhide HBA).trans (hb3.mono (unhide HBA).size))
          clear hb3
          go_wp2
          go_ret2
          exact ⟨by rw [unhide HW2]; rfl, unhide HB3⟩
        · rw [hv] at HVL HOK
          have HA1 : Hid ((l.take (k + 1)).all (fun f => okF (lst f)) = true) := hide (by rw [unhide HALL, unhide HOK]; rfl)
          have HBX := hide (Blk.new wr 39 #[.string x, .string y])
          clear hn hv HALL HBAD HOK
          go_wp2_with fail
          refine (unhide HNM _).mono ?_
          rintro e _ ⟨rfl, rfl⟩
          go_wp2_with fail
          refine (unhide HVL _).mono ?_
          rintro e w3 ⟨rfl, hb3⟩
          have HB3 := hide ((unhide HBA).trans (hb3.mono (unhide HBA).size))
          have hbx := (unhide HBX).below hb3
          have k0 : w3.cell? ⟨wr.heap.size, 0, none⟩ = some (.string x) := (Blk.cell hbx 0).trans rfl
          have k1 : w3.cell? ⟨wr.heap.size, 1, none⟩ = some (.string y) := (Blk.cell hbx 1).trans rfl
          have hf1' : (x.size : Int) ≤ 16777216 := by omega
          have hf2' : (y.size : Int) ≤ 16777216 := by omega
          clear hb3 hbx HBX
          go_wp2
          exact ⟨⟨k + 1, by go_num, by omega, by rw [unhide HSUM]; have := unhide HQ; congr 1; omega, HA1, HB3⟩, by simp [intOf]; omega⟩
    · have hlt1 : ¬ (k : Int) < (l.length : Int) := by omega
      obtain rfl : k = l.length := by omega
      rw [List.take_length] at HA HSB
      rw [List.take_length]
      have hokall : (l.map lst).all okF = true := by rw [List.all_map]; exact unhide HA
      have hsz : (sumF l : Int) ≤ 150000000000000 := by have := (unhide HSB).1; have := (unhide HSB).2; omega
      by_cases hm : l.length ≤ 1024
      · have hwr : writeR (l.map lst) = (textL [10] (l.map lst), 0) := by
          unfold writeR
          rw [if_pos hokall, if_pos (by rw [List.length_map]; exact hm)]
        have hm' : ¬ (1024 : Int) < (l.length : Int) := by omega
        have HWR := hide hwr
        obtain ⟨u0, hu0⟩ : ∃ u0, u0 = wr := ⟨_, rfl⟩
        subst hu0
        have HGR := hide (grow_new (1 + sumF l) u0 (by omega))
        have hsl : sumF l ≤ 34359741440 := by have := (unhide HSB).1; omega
        have HSL := hide hsl
        clear hwr hokall hsz HSB htl hsb
        go_wp2_with fail
        refine (unhide HGR).mono ?_
        rintro e w2 ⟨rfl, g1, g2, _⟩
        have HWB : Hid (Wr u0 w2 []) := hide ⟨g1, g2⟩
        clear g1 g2 HGR
        go_wp2
        go_loopw [44] (fun z wx => ∃ j : Nat, z = .int .i64 j ∧ j ≤ l.length ∧ Hid (Wr u0 wx (((l.take j).map lst).map (fieldL [10])).flatten)) (fun z _ => l.length - (intOf z).toNat)
        case atStart => exact ⟨0, rfl, Nat.zero_le _, HWB⟩
        case round =>
          obtain ⟨j, rfl, hj, HW⟩ := hrel
          by_cases hlt : j < l.length
          · have hlt2 : (j : Int) < (l.length : Int) := by omega
            have hx : ∃ b off, a = some ⟨b, off, none⟩ ∧ b < w.heap.size ∧ wr.cell? ⟨b, off + j * 2, none⟩ = some (.string l[j].1) ∧ wr.cell? ⟨b, off + j * 2 + 1, none⟩ = some (.string l[j].2) := by
              rcases unhide HC with h | ⟨b, off, ha, hb, hcj⟩
              · subst h; simp at hlt
              · obtain ⟨c0, c1⟩ := row_cells hcj hlt
                have hbb : Below w.heap.size w wr := (unhide HB).trans ((unhide HW).bel.mono (unhide HB).size)
                exact ⟨b, off, ha, hb, (hbb.cell (p := ⟨b, off + j * 2, none⟩) hb).trans c0, (hbb.cell (p := ⟨b, off + j * 2 + 1, none⟩) hb).trans c1⟩
            obtain ⟨b, off, rfl, hb, c0, c1⟩ := hx
            have hf := unhide HF l[j] (List.getElem_mem hlt)
            have hA : Below wr.heap.size wr (wr.alloc (.cells #[.string l[j].1, .string l[j].2] 39)) := (Below.refl _ _).alloc (Nat.le_refl _) _
            have hlen : ((((l.take j).map lst).map (fieldL [10])).flatten).length ≤ 549755813888 := by
              have h1 := flat_len (l.take j)
              have h2 := sumF_append (l.take j) (l.drop j)
              rw [List.take_append_drop] at h2
              have := unhide HSL
              omega
            have HFD := hide (wField ((unhide HW).below hA) l[j].1 l[j].2 hf.1 hf.2 hlen)
            have hnx : (((l.take (j + 1)).map lst).map (fieldL [10])).flatten = (((l.take j).map lst).map (fieldL [10])).flatten ++ fieldL [10] (l[j].1.data.toList, l[j].2.data.toList) := by
              rw [take_next l j hlt, List.map_append, List.map_append, List.flatten_append]
              simp only [List.map_cons, List.map_nil, List.flatten_cons, List.flatten_nil, List.append_nil]
              rfl
            rw [← hnx] at HFD
            have HBX := hide (Blk.new wr 39 #[.string l[j].1, .string l[j].2])
            generalize l[j].1 = x at c0 HFD HBX
            generalize l[j].2 = y at c1 HFD HBX
            clear hA hlen hf hnx HW
            have d0 : (wr.alloc (.cells #[.string x, .string y] 39)).cell? ⟨wr.heap.size, 0, none⟩ = some (.string x) := (Blk.cell (unhide HBX) 0).trans rfl
            have d1 : (wr.alloc (.cells #[.string x, .string y] 39)).cell? ⟨wr.heap.size, 1, none⟩ = some (.string y) := (Blk.cell (unhide HBX) 1).trans rfl
            go_wp2_with fail
            refine (unhide HFD).mono ?_
            rintro e w3 ⟨rfl, h3⟩
            have HW3 := hide h3
            clear h3 HFD HBX
            go_wp2
            exact ⟨⟨j + 1, by go_num, by omega, HW3⟩, by simp [intOf]; omega⟩
          · have hlt2 : ¬ (j : Int) < (l.length : Int) := by omega
            obtain rfl : j = l.length := by omega
            rw [List.take_length] at HW
            have hlen : ((((l.map lst).map (fieldL [10])).flatten).length ≤ 549755813888) := by
              have h1 := flat_len l
              have := unhide HSL
              omega
            have HBY := hide (wByte (unhide HW) 10 10 rfl (by omega))
            rw [show ((l.map lst).map (fieldL [10])).flatten ++ [10] = textL [10] (l.map lst) from rfl] at HBY
            clear HW hlen
            go_wp2_with fail
            refine (unhide HBY).mono ?_
            rintro e w3 ⟨rfl, h3⟩
            have HS := hide (Tryz.Builder_String_any_f _ _ _ w3 h3.isb h3.bel.size)
            have HB3 := hide ((unhide HB).trans (h3.bel.mono (unhide HB).size))
            have HZ := hide h3.bel.size
            clear h3 HBY
            go_wp2_with fail
            refine (unhide HS).mono ?_
            rintro e w4 ⟨rfl, _, hb4⟩
            have HB4 := hide ((unhide HB3).trans (hb4.mono (unhide HB).size))
            clear hb4 HS
            go_wp2
            go_ret2
            exact ⟨by rw [unhide HWR]; rfl, unhide HB4⟩
      · have hwr : writeR (l.map lst) = ([], 15) := by
          unfold writeR
          rw [if_pos hokall, if_neg (by rw [List.length_map]; exact hm)]
        have hm' : (1024 : Int) < (l.length : Int) := by omega
        have HWR := hide hwr
        clear hwr hokall HSB
        go_wp2
        go_ret2
        exact ⟨by rw [unhide HWR]; rfl, unhide HB⟩

end Go.Proofs.YtdallfakfhajdaaGreatDoor
