/-
  What missivelaw27.lives tells, over this seat's program.
-/
import Derived.Test.YtlolilhlpbpfjaaGreatDoorBnd2
set_option linter.unusedVariables false
set_option linter.unusedSimpArgs false
namespace Go.Proofs.YtlolilhlpbpfjaaGreatDoor
open Go.RowKit Go.Proofs.Nst

theorem rowG_litT {α : Type} {c : α → List Value} {Fit : α → Prop} (w : World) (t : TypeId) (l : List α) (cs : Array Value) (hcs : flatG c l = cs.toList) (hl : l.length ≤ 9223372036854775807) (hf : ∀ x ∈ l, Fit x) (n : Nat) (hn : n = l.length) :
    RowG c Fit (w.alloc (.cells cs t)) (.slice (some ⟨w.heap.size, 0, none⟩) n n) l := by
  subst hn
  refine ⟨_, _, rfl, hl, hf, Or.inr ⟨w.heap.size, 0, rfl, by simp, fun j u hj => ?_⟩⟩
  rw [Nat.zero_add, Blk.cell (Blk.new w t cs)]
  rw [hcs] at hj
  simpa using hj
def t0 : Tly := ⟨15, 4, 2, 9, [(2, 4), (9, 9)]⟩
def t9 : Tly := ⟨15, 0, 0, 0, []⟩
def x0 : ByteArray := ⟨#[77, 73, 78, 32, 50, 32, 77, 65, 88, 32, 57, 32, 65, 76, 76, 32, 50, 58, 52, 44, 57, 32, 67, 79, 85, 78, 84, 32, 52]⟩
def x9 : ByteArray := ⟨#[67, 79, 85, 78, 84, 32, 48]⟩
def xc : ByteArray := ⟨#[67, 111, 117, 110, 116]⟩
def xm : ByteArray := ⟨#[77, 73, 78, 32, 50]⟩
theorem of_l : ofR 15 [2, 3, 4, 9] = (t0, 0) := by decide +kernel
theorem write_l : writeT t0 = (x0.data.toList, 0) := by decide +kernel
theorem parse_l : parseT 15 x0.data.toList = (t0, 0) := by decide +kernel
theorem of_e : ofR 15 [] = (t9, 0) := by decide +kernel
theorem write_e : writeT t9 = (x9.data.toList, 0) := by decide +kernel
theorem word_c : wordR xc.data.toList = (8, 0) := by decide +kernel
theorem parse_m : parseT 15 xm.data.toList = (zT, 7) := by decide +kernel
theorem of_z : ofR 1 [0] = (zT, 1) := by decide +kernel
theorem right_l : rightT t0 = true := by decide +kernel
/-- The tables that a tally leans on. -/
structure TabY (w : World) : Prop where
  err : ErrN w
  pow : PowT w
  wtab : WTab w
theorem TabY.below {w w' : World} (h : TabY w) (hb : Below w.heap.size w w') : TabY w' := ⟨h.err.below hb, h.pow.below hb, h.wtab.below hb⟩
theorem fit0 : FitT t0 := ⟨by decide, ⟨by decide, by decide⟩, by decide, by decide⟩
theorem fit9 : FitT t9 := ⟨by decide, ⟨by decide, by decide⟩, by decide, by decide⟩
theorem of_lw (W : World) : Calls Tryz.prog 5 #[.int .u8 15, .slice (some ⟨W.heap.size, 0, none⟩) 4 4] (W.alloc (.cells #[.int .u32 2, .int .u32 3, .int .u32 4, .int .u32 9] 25)) fun e w' => ∃ a c, e = .returned (.tuple #[.agg #[.int .u8 15, .int .i64 4, .int .u32 2, .int .u32 9, .slice a 2 c], .int .i64 0]) ∧ RowSp w' (.slice a 2 c) t0.all ∧ Below W.heap.size W w' := by
  refine (of_any 15 _ [2, 3, 4, 9] _ (rowG_litT W 25 [2, 3, 4, 9] #[.int .u32 2, .int .u32 3, .int .u32 4, .int .u32 9] rfl (by decide) (by decide) 4 rfl) (by decide) (by decide)).mono ?_
  rw [of_l]
  rintro e w' ⟨v', rfl, hr, hb⟩
  obtain ⟨a, c, rfl, _⟩ := id hr
  exact ⟨a, c, rfl, hr, belows' ((Below.refl _ W).alloc (Nat.le_refl _) _) hb⟩
theorem of_ew (W : World) : Calls Tryz.prog 5 #[.int .u8 15, .slice none 0 0] W fun e w' => ∃ a c, e = .returned (.tuple #[.agg #[.int .u8 15, .int .i64 0, .int .u32 0, .int .u32 0, .slice a 0 c], .int .i64 0]) ∧ RowSp w' (.slice a 0 c) t9.all ∧ Below W.heap.size W w' := by
  refine (of_any 15 _ [] _ (RowG.nil _ _ _) (by decide) (by decide)).mono ?_
  rw [of_e]
  rintro e w' ⟨v', rfl, hr, hb⟩
  obtain ⟨a, c, rfl, _⟩ := id hr
  exact ⟨a, c, rfl, hr, hb⟩
theorem of_zw (W : World) : Calls Tryz.prog 5 #[.int .u8 1, .slice (some ⟨W.heap.size, 0, none⟩) 1 1] (W.alloc (.cells #[.int .u32 0] 25)) fun e w' => ∃ a c, e = .returned (.tuple #[.agg #[.int .u8 0, .int .i64 0, .int .u32 0, .int .u32 0, .slice a 0 c], .int .i64 1]) ∧ Below W.heap.size W w' := by
  refine (of_any 1 _ [0] _ (rowG_litT W 25 [0] #[.int .u32 0] rfl (by decide) (by decide) 1 rfl) (by decide) (by decide)).mono ?_
  rw [of_z]
  rintro e w' ⟨v', rfl, hr, hb⟩
  obtain ⟨a, c, rfl, _⟩ := id hr
  exact ⟨a, c, rfl, belows' ((Below.refl _ W).alloc (Nat.le_refl _) _) hb⟩
theorem write_lw (a : Option Addr) (c : Nat) (W : World) (ht : TabY W) (h : RowSp W (.slice a 2 c) t0.all) : Calls Tryz.prog 7 #[.agg #[.int .u8 15, .int .i64 4, .int .u32 2, .int .u32 9, .slice a 2 c]] W fun e w' => e = .returned (.tuple #[.string ⟨#[77, 73, 78, 32, 50, 32, 77, 65, 88, 32, 57, 32, 65, 76, 76, 32, 50, 58, 52, 44, 57, 32, 67, 79, 85, 78, 84, 32, 52]⟩, .int .i64 0]) ∧ Below W.heap.size W w' := by
  have := twrite_any t0 (.slice a 2 c) W fit0 h (by decide) ht.pow ht.wtab
  rw [write_l] at this
  exact this
theorem write_ew (a : Option Addr) (c : Nat) (W : World) (ht : TabY W) (h : RowSp W (.slice a 0 c) t9.all) : Calls Tryz.prog 7 #[.agg #[.int .u8 15, .int .i64 0, .int .u32 0, .int .u32 0, .slice a 0 c]] W fun e w' => e = .returned (.tuple #[.string ⟨#[67, 79, 85, 78, 84, 32, 48]⟩, .int .i64 0]) ∧ Below W.heap.size W w' := by
  have := twrite_any t9 (.slice a 0 c) W fit9 h (by decide) ht.pow ht.wtab
  rw [write_e] at this
  exact this
theorem parse_lw (W : World) (ht : TabY W) : Calls Tryz.prog 8 #[.int .u8 15, .string ⟨#[77, 73, 78, 32, 50, 32, 77, 65, 88, 32, 57, 32, 65, 76, 76, 32, 50, 58, 52, 44, 57, 32, 67, 79, 85, 78, 84, 32, 52]⟩] W fun e w' => ∃ a c, e = .returned (.tuple #[.agg #[.int .u8 15, .int .i64 4, .int .u32 2, .int .u32 9, .slice a 2 c], .int .i64 0]) ∧ RowSp w' (.slice a 2 c) t0.all ∧ Below W.heap.size W w' := by
  refine (tparse_any 15 x0 W (by decide) (by decide) ht.err ht.pow ht.wtab).mono ?_
  rw [parse_l]
  rintro e w' ⟨v', rfl, hr, hb⟩
  obtain ⟨a, c, rfl, _⟩ := id hr
  exact ⟨a, c, rfl, hr, hb⟩
theorem parse_mw (W : World) (ht : TabY W) : Calls Tryz.prog 8 #[.int .u8 15, .string ⟨#[77, 73, 78, 32, 50]⟩] W fun e w' => ∃ a c, e = .returned (.tuple #[.agg #[.int .u8 0, .int .i64 0, .int .u32 0, .int .u32 0, .slice a 0 c], .int .i64 7]) ∧ Below W.heap.size W w' := by
  refine (tparse_any 15 xm W (by decide) (by decide) ht.err ht.pow ht.wtab).mono ?_
  rw [parse_m]
  rintro e w' ⟨v', rfl, hr, hb⟩
  obtain ⟨a, c, rfl, _⟩ := id hr
  exact ⟨a, c, rfl, hb⟩
theorem word_cw (W : World) (ht : TabY W) : Calls Tryz.prog 9 #[.string ⟨#[67, 111, 117, 110, 116]⟩] W fun e w' => e = .returned (.tuple #[.int .u8 8, .int .i64 0]) ∧ Below W.heap.size W w' := by
  have := word_any xc W ht.wtab (by decide)
  rw [word_c] at this
  exact this
theorem check_lw (a : Option Addr) (c : Nat) (W : World) (h : RowSp W (.slice a 2 c) t0.all) : Calls Tryz.prog 11 #[.agg #[.int .u8 15, .int .i64 4, .int .u32 2, .int .u32 9, .slice a 2 c]] W fun e w' => e = .returned (.int .i64 0) ∧ Below W.heap.size W w' := by
  have := tcheck_any t0 (.slice a 2 c) W fit0 h (by decide)
  rw [right_l] at this
  exact this
theorem same_lw (a b : Option Addr) (c d : Nat) (W : World) (h : RowSp W (.slice a 2 c) t0.all) (h' : RowSp W (.slice b 2 d) t0.all) : Calls Tryz.prog 10 #[.agg #[.int .u8 15, .int .i64 4, .int .u32 2, .int .u32 9, .slice a 2 c], .agg #[.int .u8 15, .int .i64 4, .int .u32 2, .int .u32 9, .slice b 2 d]] W fun e w' => e = .returned (.bool true) ∧ Below W.heap.size W w' := by
  have := sameT_any t0 t0 (.slice a 2 c) (.slice b 2 d) W h h'
  rw [decide_eq_true rfl] at this
  exact this

set_option maxHeartbeats 8000000 in
set_option maxRecDepth 100000 in
theorem livesT_any (w : World) (ht : TabY w) : Calls Tryz.prog 4 #[] w fun e w' => e = .returned (.bool true) ∧ Below w.heap.size w w' := by
  have HT := hide ht
  clear ht
  go_enter Tryz.func4, Tryz.ntmps4
  go_wp2_with fail
  refine (of_lw w).mono ?_
  rintro e w1 ⟨a1, c1, rfl, r1, b1⟩
  have p1 := Below.alloc (Below.refl _ w1) (Nat.le_refl _) (.cells #[.int .u8 15, .int .i64 4, .int .u32 2, .int .u32 9, .slice a1 2 c1] 28)
  have HR1 := hide (RowSp.below r1 p1)
  have HB1 := hide (belows' b1 p1)
  have HK1 := hide (Blk.new w1 28 #[.int .u8 15, .int .i64 4, .int .u32 2, .int .u32 9, .slice a1 2 c1])
  clear r1 b1 p1
  go_upto_region 2 with (fail)
  generalize w1.alloc (.cells #[.int .u8 15, .int .i64 4, .int .u32 2, .int .u32 9, .slice a1 2 c1] 28) = v1 at HR1 HB1 HK1 ⊢
  generalize w1.heap.size = k1 at HK1 ⊢
  have m0 := (unhide HK1).cell 0
  have m1 := (unhide HK1).cell 1
  have m2 := (unhide HK1).cell 2
  have m3 := (unhide HK1).cell 3
  have m4 := (unhide HK1).cell 4
  simp only [List.getElem?_toArray, List.getElem?_cons_succ, List.getElem?_cons_zero] at m0 m1 m2 m3 m4
  go_wp2_with fail
  refine (write_lw a1 c1 v1 ((unhide HT).below (unhide HB1)) (unhide HR1)).mono ?_
  rintro e w2 ⟨rfl, b2⟩
  have HB2 := hide (belows' (unhide HB1) b2)
  have HR2 := hide (RowSp.below (unhide HR1) b2)
  have HK2 := hide ((unhide HK1).below b2)
  clear b2 HB1 HR1 HK1 m0 m1 m2 m3 m4
  go_wp2_with fail
  refine (parse_lw w2 ((unhide HT).below (unhide HB2))).mono ?_
  rintro e w3 ⟨a5, c5, rfl, r5, b3⟩
  have p3 := Below.alloc (Below.refl _ w3) (Nat.le_refl _) (.cells #[.int .u8 15, .int .i64 4, .int .u32 2, .int .u32 9, .slice a5 2 c5] 28)
  have HB3 := hide (belows' (belows' (unhide HB2) b3) p3)
  have HR3 := hide (RowSp.below (RowSp.below (unhide HR2) b3) p3)
  have HK3 := hide (((unhide HK2).below b3).below p3)
  have HR5 := hide (RowSp.below r5 p3)
  have HK5 := hide (Blk.new w3 28 #[.int .u8 15, .int .i64 4, .int .u32 2, .int .u32 9, .slice a5 2 c5])
  clear b3 p3 r5 HB2 HR2 HK2
  go_upto_region 4 with (fail)
  generalize w3.alloc (.cells #[.int .u8 15, .int .i64 4, .int .u32 2, .int .u32 9, .slice a5 2 c5] 28) = v3 at HB3 HR3 HK3 HR5 HK5 ⊢
  generalize w3.heap.size = k5 at HK5 ⊢
  go_wp2_with fail
  refine (of_ew v3).mono ?_
  rintro e w4 ⟨a7, c7, rfl, r7, b4⟩
  have p4 := Below.alloc (Below.refl _ w4) (Nat.le_refl _) (.cells #[.int .u8 15, .int .i64 0, .int .u32 0, .int .u32 0, .slice a7 0 c7] 28)
  have HB4 := hide (belows' (belows' (unhide HB3) b4) p4)
  have HR4 := hide (RowSp.below (RowSp.below (unhide HR3) b4) p4)
  have HK4 := hide (((unhide HK3).below b4).below p4)
  have HR54 := hide (RowSp.below (RowSp.below (unhide HR5) b4) p4)
  have HK54 := hide (((unhide HK5).below b4).below p4)
  have HR7 := hide (RowSp.below r7 p4)
  have HK7 := hide (Blk.new w4 28 #[.int .u8 15, .int .i64 0, .int .u32 0, .int .u32 0, .slice a7 0 c7])
  clear b4 p4 r7 HB3 HR3 HK3 HR5 HK5
  go_upto_region 5 with (fail)
  generalize w4.alloc (.cells #[.int .u8 15, .int .i64 0, .int .u32 0, .int .u32 0, .slice a7 0 c7] 28) = v4 at HB4 HR4 HK4 HR54 HK54 HR7 HK7 ⊢
  generalize w4.heap.size = k7 at HK7 ⊢
  have m0 := (unhide HK7).cell 0
  have m1 := (unhide HK7).cell 1
  have m2 := (unhide HK7).cell 2
  have m3 := (unhide HK7).cell 3
  have m4 := (unhide HK7).cell 4
  simp only [List.getElem?_toArray, List.getElem?_cons_succ, List.getElem?_cons_zero] at m0 m1 m2 m3 m4
  go_wp2_with fail
  refine (write_ew a7 c7 v4 ((unhide HT).below (unhide HB4)) (unhide HR7)).mono ?_
  rintro e w5 ⟨rfl, b5⟩
  have HB5 := hide (belows' (unhide HB4) b5)
  have HR5 := hide (RowSp.below (unhide HR4) b5)
  have HK5 := hide ((unhide HK4).below b5)
  have HR55 := hide (RowSp.below (unhide HR54) b5)
  have HK55 := hide ((unhide HK54).below b5)
  clear b5 HB4 HR4 HK4 HR54 HK54 HR7 HK7 m0 m1 m2 m3 m4
  go_wp2_with fail
  refine (word_cw w5 ((unhide HT).below (unhide HB5))).mono ?_
  rintro e w6 ⟨rfl, b6⟩
  have HB6 := hide (belows' (unhide HB5) b6)
  have HR6 := hide (RowSp.below (unhide HR5) b6)
  have HK6 := hide ((unhide HK5).below b6)
  have HR56 := hide (RowSp.below (unhide HR55) b6)
  have HK56 := hide ((unhide HK55).below b6)
  clear b6 HB5 HR5 HK5 HR55 HK55
  go_wp2_with fail
  refine (parse_mw w6 ((unhide HT).below (unhide HB6))).mono ?_
  rintro e w7 ⟨a8, c8, rfl, b7⟩
  have p7 := Below.alloc (Below.refl _ w7) (Nat.le_refl _) (.cells #[.int .u8 0, .int .i64 0, .int .u32 0, .int .u32 0, .slice a8 0 c8] 28)
  have HB7 := hide (belows' (belows' (unhide HB6) b7) p7)
  have HR7 := hide (RowSp.below (RowSp.below (unhide HR6) b7) p7)
  have HK7 := hide (((unhide HK6).below b7).below p7)
  have HR57 := hide (RowSp.below (RowSp.below (unhide HR56) b7) p7)
  have HK57 := hide (((unhide HK56).below b7).below p7)
  clear b7 p7 HB6 HR6 HK6 HR56 HK56
  go_upto_region 8 with (fail)
  generalize w7.alloc (.cells #[.int .u8 0, .int .i64 0, .int .u32 0, .int .u32 0, .slice a8 0 c8] 28) = v7 at HB7 HR7 HK7 HR57 HK57 ⊢
  go_wp2_with fail
  refine (of_zw v7).mono ?_
  rintro e w8 ⟨a9, c9, rfl, b8⟩
  have p8 := Below.alloc (Below.refl _ w8) (Nat.le_refl _) (.cells #[.int .u8 0, .int .i64 0, .int .u32 0, .int .u32 0, .slice a9 0 c9] 28)
  have HB8 := hide (belows' (belows' (unhide HB7) b8) p8)
  have HR8 := hide (RowSp.below (RowSp.below (unhide HR7) b8) p8)
  have HK8 := hide (((unhide HK7).below b8).below p8)
  have HR58 := hide (RowSp.below (RowSp.below (unhide HR57) b8) p8)
  have HK58 := hide (((unhide HK57).below b8).below p8)
  clear b8 p8 HB7 HR7 HK7 HR57 HK57
  go_upto_region 9 with (fail)
  generalize w8.alloc (.cells #[.int .u8 0, .int .i64 0, .int .u32 0, .int .u32 0, .slice a9 0 c9] 28) = v8 at HB8 HR8 HK8 HR58 HK58 ⊢
  have m0 := (unhide HK8).cell 0
  have m1 := (unhide HK8).cell 1
  have m2 := (unhide HK8).cell 2
  have m3 := (unhide HK8).cell 3
  have m4 := (unhide HK8).cell 4
  simp only [List.getElem?_toArray, List.getElem?_cons_succ, List.getElem?_cons_zero] at m0 m1 m2 m3 m4
  have n0 := (unhide HK58).cell 0
  have n1 := (unhide HK58).cell 1
  have n2 := (unhide HK58).cell 2
  have n3 := (unhide HK58).cell 3
  have n4 := (unhide HK58).cell 4
  simp only [List.getElem?_toArray, List.getElem?_cons_succ, List.getElem?_cons_zero] at n0 n1 n2 n3 n4
  go_wp2_with fail
  refine (same_lw a1 a5 c1 c5 v8 (unhide HR8) (unhide HR58)).mono ?_
  rintro e w9 ⟨rfl, b9⟩
  have HB9 := hide (belows' (unhide HB8) b9)
  have HR9 := hide (RowSp.below (unhide HR8) b9)
  have HK9 := hide ((unhide HK8).below b9)
  clear b9 HB8 HR8 HK8 HR58 HK58 m0 m1 m2 m3 m4 n0 n1 n2 n3 n4
  have m0 := (unhide HK9).cell 0
  have m1 := (unhide HK9).cell 1
  have m2 := (unhide HK9).cell 2
  have m3 := (unhide HK9).cell 3
  have m4 := (unhide HK9).cell 4
  simp only [List.getElem?_toArray, List.getElem?_cons_succ, List.getElem?_cons_zero] at m0 m1 m2 m3 m4
  go_wp2_with fail
  refine (check_lw a1 c1 w9 (unhide HR9)).mono ?_
  rintro e w10 ⟨rfl, b10⟩
  have HB10 := hide (belows' (unhide HB9) b10)
  clear b10 HB9 HR9 HK9 m0 m1 m2 m3 m4
  go_wp2
  go_ret
  exact ⟨rfl, unhide HB10⟩
end Go.Proofs.YtlolilhlpbpfjaaGreatDoor
