/-
  What missivelaw04.lives does, over this seat's program.
-/
import Derived.Test.YtmfkhbofmaonkaaDlz
set_option linter.unusedVariables false
set_option linter.unusedSimpArgs false
namespace Go.Proofs.Ytmfkhbofmaonkaa
open Go.RowKit Go.Proofs.Dsk


set_option maxHeartbeats 8000000 in
set_option maxRecDepth 100000 in
theorem lives_any (w : World) : Calls Try.prog 16 #[] w fun e w' => e = .returned (.bool true) ∧ Below w.heap.size w w' := by
  go_enter Try.func16, Try.ntmps16
  go_wp2_with fail
  have HC : ∀ X : World, Calls Try.prog 14 #[.int .i64 10] X fun e w' => ∃ v', e = .returned (.tuple #[.agg #[.int .i64 10, v', .int .i64 (-1), .int .i64 (-1), .bool false], .int .i64 0]) ∧ RowF w' v' L1.files ∧ Below X.heap.size X w' := fun X => by
    have h := make_any 10 X (by omega) (by omega)
    rw [l1_is] at h
    exact h.mono (fun e w' ⟨v', h1, h2, _, h3⟩ => ⟨v', h1, h2, h3⟩)
  refine (HC _).mono ?_
  clear HC
  rintro e w1 ⟨v1, rfl, r1, b1⟩
  obtain ⟨a1, cap1, rfl⟩ := r1.form (n := 0) rfl
  have B1 := hide b1
  have x1 : Below w1.heap.size w1 (w1.alloc (Obj.cells #[.int .i64 10, (.slice a1 0 cap1), .int .i64 (-1), .int .i64 (-1), .bool false] 24)) := (Below.refl _ _).alloc (Nat.le_refl _) _
  have R := hide (r1.below x1)
  have BX := hide (belows (unhide B1) x1)
  have K := hide (Blk.new w1 24 #[.int .i64 10, (.slice a1 0 cap1), .int .i64 (-1), .int .i64 (-1), .bool false])
  have hbw := (unhide B1).size
  clear r1 b1 x1 B1
  have HC : ∀ X : World, RowF X (.slice a1 0 cap1) L1.files → Calls Try.prog 6 #[.agg #[.int .i64 10, (.slice a1 0 cap1), .int .i64 (-1), .int .i64 (-1), .bool false], .string ⟨#[97]⟩] X fun e w' => ∃ v', e = .returned (.tuple #[.agg #[.int .i64 10, v', .int .i64 (-1), .int .i64 (-1), .bool false], .int .i64 0]) ∧ RowF w' v' L2.files ∧ Below X.heap.size X w' := fun X hX => by
    have h := create_any L1 (.slice a1 0 cap1) ⟨#[97]⟩ X fit1 hX (by decide)
    rw [l2_is] at h
    exact h.mono (fun e w' ⟨v', h1, h2, _, h3⟩ => ⟨v', h1, h2, h3⟩)
  have HH := hide HC
  clear HC
  go_wp2_with fail
  refine (unhide HH _ (unhide R)).mono ?_
  clear HH
  rintro e w2 ⟨v2, rfl, r2, b2⟩
  obtain ⟨a2, cap2, rfl⟩ := r2.form (n := 1) rfl
  have bX := b2
  have k := (unhide K).below bX
  have BY := hide (belows (unhide BX) bX)
  have e0 := k.cell 0
  have e1 := k.cell 1
  have e2 := k.cell 2
  have e3 := k.cell 3
  have e4 := k.cell 4
  have f0 := k.frozen 0
  have f1 := k.frozen 1
  have f2 := k.frozen 2
  have f3 := k.frozen 3
  have f4 := k.frozen 4
  simp only [List.getElem?_toArray, List.getElem?_cons_succ, List.getElem?_cons_zero] at e0 e1 e2 e3 e4
  have R2 := hide (rowF5 r2 k (by intro i x; match i with | 0 | 1 | 2 | 3 | 4 => simp | i + 5 => simp))
  have BX2 := hide (below5 (s := w1.heap.size) (unhide BY) (by omega) (.int .i64 10) (.slice a2 1 cap2) (.int .i64 (-1)) (.int .i64 (-1)) (.bool false))
  have K2 : Hid (Blk (((((w2.setCell ⟨w1.heap.size, 0, none⟩ (.int .i64 10)).setCell ⟨w1.heap.size, 1, none⟩ (.slice a2 1 cap2)).setCell ⟨w1.heap.size, 2, none⟩ (.int .i64 (-1))).setCell ⟨w1.heap.size, 3, none⟩ (.int .i64 (-1))).setCell ⟨w1.heap.size, 4, none⟩ (.bool false)) w1.heap.size 24 #[.int .i64 10, (.slice a2 1 cap2), .int .i64 (-1), .int .i64 (-1), .bool false]) := hide (((((k.set 0 (.int .i64 10)).set 1 (.slice a2 1 cap2)).set 2 (.int .i64 (-1))).set 3 (.int .i64 (-1))).set 4 (.bool false))
  have R3 := hide (unhide R2 (.int .i64 10) (.slice a2 1 cap2) (.int .i64 (-1)) (.int .i64 (-1)) (.bool false))
  clear R BX K k BY R2 bX r2 b2
  have R := R3
  have BX := BX2
  have K := K2
  clear R3 BX2 K2
  have HC : ∀ X : World, RowF X (.slice a2 1 cap2) L2.files → ∀ s, RowS X (.slice (some ⟨s, 0, none⟩) 2 2) [⟨#[97]⟩, ⟨#[98]⟩] → Calls Try.prog 21 #[.agg #[.int .i64 10, (.slice a2 1 cap2), .int .i64 (-1), .int .i64 (-1), .bool false], .string ⟨#[97]⟩, .slice (some ⟨s, 0, none⟩) 2 2] X fun e w' => ∃ v', e = .returned (.tuple #[.agg #[.int .i64 10, v', .int .i64 (-1), .int .i64 (-1), .bool false], .int .i64 0]) ∧ RowF w' v' L3.files ∧ Below X.heap.size X w' := fun X hX s hs => by
    have h := append_any L2 (.slice a2 1 cap2) ⟨#[97]⟩ (some ⟨s, 0, none⟩) 2 2 [⟨#[97]⟩, ⟨#[98]⟩] X fit2 hX hs
    rw [l3_is] at h
    exact h.mono (fun e w' ⟨v', h1, h2, _, h3⟩ => ⟨v', h1, h2, h3⟩)
  have HH := hide HC
  clear HC
  have bal : Below (((((w2.setCell ⟨w1.heap.size, 0, none⟩ (.int .i64 10)).setCell ⟨w1.heap.size, 1, none⟩ (.slice a2 1 cap2)).setCell ⟨w1.heap.size, 2, none⟩ (.int .i64 (-1))).setCell ⟨w1.heap.size, 3, none⟩ (.int .i64 (-1))).setCell ⟨w1.heap.size, 4, none⟩ (.bool false)).heap.size (((((w2.setCell ⟨w1.heap.size, 0, none⟩ (.int .i64 10)).setCell ⟨w1.heap.size, 1, none⟩ (.slice a2 1 cap2)).setCell ⟨w1.heap.size, 2, none⟩ (.int .i64 (-1))).setCell ⟨w1.heap.size, 3, none⟩ (.int .i64 (-1))).setCell ⟨w1.heap.size, 4, none⟩ (.bool false)) ((((((w2.setCell ⟨w1.heap.size, 0, none⟩ (.int .i64 10)).setCell ⟨w1.heap.size, 1, none⟩ (.slice a2 1 cap2)).setCell ⟨w1.heap.size, 2, none⟩ (.int .i64 (-1))).setCell ⟨w1.heap.size, 3, none⟩ (.int .i64 (-1))).setCell ⟨w1.heap.size, 4, none⟩ (.bool false)).alloc (Obj.cells #[.string ⟨#[97]⟩, .string ⟨#[98]⟩] 9)) := (Below.refl _ _).alloc (Nat.le_refl _) _
  have RY := hide ((unhide R).below bal)
  have SY : Hid (RowS ((((((w2.setCell ⟨w1.heap.size, 0, none⟩ (.int .i64 10)).setCell ⟨w1.heap.size, 1, none⟩ (.slice a2 1 cap2)).setCell ⟨w1.heap.size, 2, none⟩ (.int .i64 (-1))).setCell ⟨w1.heap.size, 3, none⟩ (.int .i64 (-1))).setCell ⟨w1.heap.size, 4, none⟩ (.bool false)).alloc (Obj.cells #[.string ⟨#[97]⟩, .string ⟨#[98]⟩] 9)) (.slice (some ⟨w2.heap.size, 0, none⟩) 2 2) [⟨#[97]⟩, ⟨#[98]⟩]) := hide (rowS_new (((((w2.setCell ⟨w1.heap.size, 0, none⟩ (.int .i64 10)).setCell ⟨w1.heap.size, 1, none⟩ (.slice a2 1 cap2)).setCell ⟨w1.heap.size, 2, none⟩ (.int .i64 (-1))).setCell ⟨w1.heap.size, 3, none⟩ (.int .i64 (-1))).setCell ⟨w1.heap.size, 4, none⟩ (.bool false)) w2.heap.size (by simp) [⟨#[97]⟩, ⟨#[98]⟩] 2 rfl (by decide) (by decide))
  have BAL := hide bal
  clear bal
  go_wp2_with fail
  refine (unhide HH _ (unhide RY) _ (unhide SY)).mono ?_
  clear RY SY
  clear HH
  rintro e w3 ⟨v3, rfl, r3, b3⟩
  obtain ⟨a3, cap3, rfl⟩ := r3.form (n := 1) rfl
  have bX := belows (unhide BAL) b3
  clear BAL
  have k := (unhide K).below bX
  have BY := hide (belows (unhide BX) bX)
  have e0 := k.cell 0
  have e1 := k.cell 1
  have e2 := k.cell 2
  have e3 := k.cell 3
  have e4 := k.cell 4
  have f0 := k.frozen 0
  have f1 := k.frozen 1
  have f2 := k.frozen 2
  have f3 := k.frozen 3
  have f4 := k.frozen 4
  simp only [List.getElem?_toArray, List.getElem?_cons_succ, List.getElem?_cons_zero] at e0 e1 e2 e3 e4
  have R2 := hide (rowF5 r3 k (by intro i x; match i with | 0 | 1 | 2 | 3 | 4 => simp | i + 5 => simp))
  have BX2 := hide (below5 (s := w1.heap.size) (unhide BY) (by omega) (.int .i64 10) (.slice a3 1 cap3) (.int .i64 (-1)) (.int .i64 (-1)) (.bool false))
  have K2 : Hid (Blk (((((w3.setCell ⟨w1.heap.size, 0, none⟩ (.int .i64 10)).setCell ⟨w1.heap.size, 1, none⟩ (.slice a3 1 cap3)).setCell ⟨w1.heap.size, 2, none⟩ (.int .i64 (-1))).setCell ⟨w1.heap.size, 3, none⟩ (.int .i64 (-1))).setCell ⟨w1.heap.size, 4, none⟩ (.bool false)) w1.heap.size 24 #[.int .i64 10, (.slice a3 1 cap3), .int .i64 (-1), .int .i64 (-1), .bool false]) := hide (((((k.set 0 (.int .i64 10)).set 1 (.slice a3 1 cap3)).set 2 (.int .i64 (-1))).set 3 (.int .i64 (-1))).set 4 (.bool false))
  have R3 := hide (unhide R2 (.int .i64 10) (.slice a3 1 cap3) (.int .i64 (-1)) (.int .i64 (-1)) (.bool false))
  clear R BX K k BY R2 bX r3 b3
  have R := R3
  have BX := BX2
  have K := K2
  clear R3 BX2 K2
  have HC : ∀ X : World, RowF X (.slice a3 1 cap3) L3.files → Calls Try.prog 23 #[.agg #[.int .i64 10, (.slice a3 1 cap3), .int .i64 (-1), .int .i64 (-1), .bool false], .string ⟨#[97]⟩] X fun e w' => ∃ v', e = .returned (.tuple #[.agg #[.int .i64 10, v', .int .i64 (-1), .int .i64 (-1), .bool false], .int .i64 0]) ∧ RowF w' v' L4.files ∧ Below X.heap.size X w' := fun X hX => by
    have h := sync_any L3 (.slice a3 1 cap3) ⟨#[97]⟩ X fit3 hX
    rw [l4_is] at h
    exact h.mono (fun e w' ⟨v', h1, h2, _, h3⟩ => ⟨v', h1, h2, h3⟩)
  have HH := hide HC
  clear HC
  go_wp2_with fail
  refine (unhide HH _ (unhide R)).mono ?_
  clear HH
  rintro e w4 ⟨v4, rfl, r4, b4⟩
  obtain ⟨a4, cap4, rfl⟩ := r4.form (n := 1) rfl
  have bX := b4
  have k := (unhide K).below bX
  have BY := hide (belows (unhide BX) bX)
  have e0 := k.cell 0
  have e1 := k.cell 1
  have e2 := k.cell 2
  have e3 := k.cell 3
  have e4 := k.cell 4
  have f0 := k.frozen 0
  have f1 := k.frozen 1
  have f2 := k.frozen 2
  have f3 := k.frozen 3
  have f4 := k.frozen 4
  simp only [List.getElem?_toArray, List.getElem?_cons_succ, List.getElem?_cons_zero] at e0 e1 e2 e3 e4
  have R2 := hide (rowF5 r4 k (by intro i x; match i with | 0 | 1 | 2 | 3 | 4 => simp | i + 5 => simp))
  have BX2 := hide (below5 (s := w1.heap.size) (unhide BY) (by omega) (.int .i64 10) (.slice a4 1 cap4) (.int .i64 (-1)) (.int .i64 (-1)) (.bool false))
  have K2 : Hid (Blk (((((w4.setCell ⟨w1.heap.size, 0, none⟩ (.int .i64 10)).setCell ⟨w1.heap.size, 1, none⟩ (.slice a4 1 cap4)).setCell ⟨w1.heap.size, 2, none⟩ (.int .i64 (-1))).setCell ⟨w1.heap.size, 3, none⟩ (.int .i64 (-1))).setCell ⟨w1.heap.size, 4, none⟩ (.bool false)) w1.heap.size 24 #[.int .i64 10, (.slice a4 1 cap4), .int .i64 (-1), .int .i64 (-1), .bool false]) := hide (((((k.set 0 (.int .i64 10)).set 1 (.slice a4 1 cap4)).set 2 (.int .i64 (-1))).set 3 (.int .i64 (-1))).set 4 (.bool false))
  have R3 := hide (unhide R2 (.int .i64 10) (.slice a4 1 cap4) (.int .i64 (-1)) (.int .i64 (-1)) (.bool false))
  clear R BX K k BY R2 bX r4 b4
  have R := R3
  have BX := BX2
  have K := K2
  clear R3 BX2 K2
  have HC : ∀ X : World, RowF X (.slice a4 1 cap4) L4.files → ∀ s, RowS X (.slice (some ⟨s, 0, none⟩) 1 1) [⟨#[99, 100]⟩] → Calls Try.prog 21 #[.agg #[.int .i64 10, (.slice a4 1 cap4), .int .i64 (-1), .int .i64 (-1), .bool false], .string ⟨#[97]⟩, .slice (some ⟨s, 0, none⟩) 1 1] X fun e w' => ∃ v', e = .returned (.tuple #[.agg #[.int .i64 10, v', .int .i64 (-1), .int .i64 (-1), .bool false], .int .i64 0]) ∧ RowF w' v' L5.files ∧ Below X.heap.size X w' := fun X hX s hs => by
    have h := append_any L4 (.slice a4 1 cap4) ⟨#[97]⟩ (some ⟨s, 0, none⟩) 1 1 [⟨#[99, 100]⟩] X fit4 hX hs
    rw [l5_is] at h
    exact h.mono (fun e w' ⟨v', h1, h2, _, h3⟩ => ⟨v', h1, h2, h3⟩)
  have HH := hide HC
  clear HC
  have bal : Below (((((w4.setCell ⟨w1.heap.size, 0, none⟩ (.int .i64 10)).setCell ⟨w1.heap.size, 1, none⟩ (.slice a4 1 cap4)).setCell ⟨w1.heap.size, 2, none⟩ (.int .i64 (-1))).setCell ⟨w1.heap.size, 3, none⟩ (.int .i64 (-1))).setCell ⟨w1.heap.size, 4, none⟩ (.bool false)).heap.size (((((w4.setCell ⟨w1.heap.size, 0, none⟩ (.int .i64 10)).setCell ⟨w1.heap.size, 1, none⟩ (.slice a4 1 cap4)).setCell ⟨w1.heap.size, 2, none⟩ (.int .i64 (-1))).setCell ⟨w1.heap.size, 3, none⟩ (.int .i64 (-1))).setCell ⟨w1.heap.size, 4, none⟩ (.bool false)) ((((((w4.setCell ⟨w1.heap.size, 0, none⟩ (.int .i64 10)).setCell ⟨w1.heap.size, 1, none⟩ (.slice a4 1 cap4)).setCell ⟨w1.heap.size, 2, none⟩ (.int .i64 (-1))).setCell ⟨w1.heap.size, 3, none⟩ (.int .i64 (-1))).setCell ⟨w1.heap.size, 4, none⟩ (.bool false)).alloc (Obj.cells #[.string ⟨#[99, 100]⟩] 9)) := (Below.refl _ _).alloc (Nat.le_refl _) _
  have RY := hide ((unhide R).below bal)
  have SY : Hid (RowS ((((((w4.setCell ⟨w1.heap.size, 0, none⟩ (.int .i64 10)).setCell ⟨w1.heap.size, 1, none⟩ (.slice a4 1 cap4)).setCell ⟨w1.heap.size, 2, none⟩ (.int .i64 (-1))).setCell ⟨w1.heap.size, 3, none⟩ (.int .i64 (-1))).setCell ⟨w1.heap.size, 4, none⟩ (.bool false)).alloc (Obj.cells #[.string ⟨#[99, 100]⟩] 9)) (.slice (some ⟨w4.heap.size, 0, none⟩) 1 1) [⟨#[99, 100]⟩]) := hide (rowS_new (((((w4.setCell ⟨w1.heap.size, 0, none⟩ (.int .i64 10)).setCell ⟨w1.heap.size, 1, none⟩ (.slice a4 1 cap4)).setCell ⟨w1.heap.size, 2, none⟩ (.int .i64 (-1))).setCell ⟨w1.heap.size, 3, none⟩ (.int .i64 (-1))).setCell ⟨w1.heap.size, 4, none⟩ (.bool false)) w4.heap.size (by simp) [⟨#[99, 100]⟩] 1 rfl (by decide) (by decide))
  have BAL := hide bal
  clear bal
  go_wp2_with fail
  refine (unhide HH _ (unhide RY) _ (unhide SY)).mono ?_
  clear RY SY
  clear HH
  rintro e w5 ⟨v5, rfl, r5, b5⟩
  obtain ⟨a5, cap5, rfl⟩ := r5.form (n := 1) rfl
  have bX := belows (unhide BAL) b5
  clear BAL
  have k := (unhide K).below bX
  have BY := hide (belows (unhide BX) bX)
  have e0 := k.cell 0
  have e1 := k.cell 1
  have e2 := k.cell 2
  have e3 := k.cell 3
  have e4 := k.cell 4
  have f0 := k.frozen 0
  have f1 := k.frozen 1
  have f2 := k.frozen 2
  have f3 := k.frozen 3
  have f4 := k.frozen 4
  simp only [List.getElem?_toArray, List.getElem?_cons_succ, List.getElem?_cons_zero] at e0 e1 e2 e3 e4
  have R2 := hide (rowF5 r5 k (by intro i x; match i with | 0 | 1 | 2 | 3 | 4 => simp | i + 5 => simp))
  have BX2 := hide (below5 (s := w1.heap.size) (unhide BY) (by omega) (.int .i64 10) (.slice a5 1 cap5) (.int .i64 (-1)) (.int .i64 (-1)) (.bool false))
  have K2 : Hid (Blk (((((w5.setCell ⟨w1.heap.size, 0, none⟩ (.int .i64 10)).setCell ⟨w1.heap.size, 1, none⟩ (.slice a5 1 cap5)).setCell ⟨w1.heap.size, 2, none⟩ (.int .i64 (-1))).setCell ⟨w1.heap.size, 3, none⟩ (.int .i64 (-1))).setCell ⟨w1.heap.size, 4, none⟩ (.bool false)) w1.heap.size 24 #[.int .i64 10, (.slice a5 1 cap5), .int .i64 (-1), .int .i64 (-1), .bool false]) := hide (((((k.set 0 (.int .i64 10)).set 1 (.slice a5 1 cap5)).set 2 (.int .i64 (-1))).set 3 (.int .i64 (-1))).set 4 (.bool false))
  have R3 := hide (unhide R2 (.int .i64 10) (.slice a5 1 cap5) (.int .i64 (-1)) (.int .i64 (-1)) (.bool false))
  clear R BX K k BY R2 bX r5 b5
  have R := R3
  have BX := BX2
  have K := K2
  clear R3 BX2 K2
  have HC : ∀ X : World, RowF X (.slice a5 1 cap5) L5.files → ∀ s, RowI X (.slice (some ⟨s, 0, none⟩) 1 1) [1] → Calls Try.prog 29 #[.agg #[.int .i64 10, (.slice a5 1 cap5), .int .i64 (-1), .int .i64 (-1), .bool false], .slice (some ⟨s, 0, none⟩) 1 1] X fun e w' => ∃ v', e = .returned (.tuple #[.agg #[.int .i64 10, v', .int .i64 (-1), .int .i64 (-1), .bool false], .int .i64 0]) ∧ RowF w' v' L6.files ∧ Below X.heap.size X w' := fun X hX s hs => by
    have h := crash_any L5 (.slice a5 1 cap5) _ [1] X fit5 hX hs
    rw [l6_is] at h
    exact h.mono (fun e w' ⟨v', h1, h2, _, h3⟩ => ⟨v', h1, h2, h3⟩)
  have HH := hide HC
  clear HC
  have bal : Below (((((w5.setCell ⟨w1.heap.size, 0, none⟩ (.int .i64 10)).setCell ⟨w1.heap.size, 1, none⟩ (.slice a5 1 cap5)).setCell ⟨w1.heap.size, 2, none⟩ (.int .i64 (-1))).setCell ⟨w1.heap.size, 3, none⟩ (.int .i64 (-1))).setCell ⟨w1.heap.size, 4, none⟩ (.bool false)).heap.size (((((w5.setCell ⟨w1.heap.size, 0, none⟩ (.int .i64 10)).setCell ⟨w1.heap.size, 1, none⟩ (.slice a5 1 cap5)).setCell ⟨w1.heap.size, 2, none⟩ (.int .i64 (-1))).setCell ⟨w1.heap.size, 3, none⟩ (.int .i64 (-1))).setCell ⟨w1.heap.size, 4, none⟩ (.bool false)) ((((((w5.setCell ⟨w1.heap.size, 0, none⟩ (.int .i64 10)).setCell ⟨w1.heap.size, 1, none⟩ (.slice a5 1 cap5)).setCell ⟨w1.heap.size, 2, none⟩ (.int .i64 (-1))).setCell ⟨w1.heap.size, 3, none⟩ (.int .i64 (-1))).setCell ⟨w1.heap.size, 4, none⟩ (.bool false)).alloc (Obj.cells #[.int .i64 1] 3)) := (Below.refl _ _).alloc (Nat.le_refl _) _
  have RY := hide ((unhide R).below bal)
  have SY : Hid (RowI ((((((w5.setCell ⟨w1.heap.size, 0, none⟩ (.int .i64 10)).setCell ⟨w1.heap.size, 1, none⟩ (.slice a5 1 cap5)).setCell ⟨w1.heap.size, 2, none⟩ (.int .i64 (-1))).setCell ⟨w1.heap.size, 3, none⟩ (.int .i64 (-1))).setCell ⟨w1.heap.size, 4, none⟩ (.bool false)).alloc (Obj.cells #[.int .i64 1] 3)) (.slice (some ⟨w5.heap.size, 0, none⟩) 1 1) [1]) := hide (rowI_new (((((w5.setCell ⟨w1.heap.size, 0, none⟩ (.int .i64 10)).setCell ⟨w1.heap.size, 1, none⟩ (.slice a5 1 cap5)).setCell ⟨w1.heap.size, 2, none⟩ (.int .i64 (-1))).setCell ⟨w1.heap.size, 3, none⟩ (.int .i64 (-1))).setCell ⟨w1.heap.size, 4, none⟩ (.bool false)) w5.heap.size (by simp))
  have BAL := hide bal
  clear bal
  go_wp2_with fail
  refine (unhide HH _ (unhide RY) _ (unhide SY)).mono ?_
  clear RY SY HH
  rintro e w6 ⟨v6, rfl, r6, b6⟩
  obtain ⟨a6, cap6, rfl⟩ := r6.form (n := 1) rfl
  have bX := belows (unhide BAL) b6
  have BN := hide (belows (unhide BX) bX)
  clear BX BAL bX b6 R K
  have BX := BN
  clear BN e0 e1 e2 e3 e4 f0 f1 f2 f3 f4
  have bal : Below w6.heap.size w6 (w6.alloc (Obj.cells #[.int .i64 10, (.slice a6 1 cap6), .int .i64 (-1), .int .i64 (-1), .bool false] 24)) := (Below.refl _ _).alloc (Nat.le_refl _) _
  have BN := hide (belows (unhide BX) bal)
  clear BX
  have BX := BN
  clear BN
  have Kc := hide (Blk.new w6 24 #[.int .i64 10, (.slice a6 1 cap6), .int .i64 (-1), .int .i64 (-1), .bool false])
  have Rc := hide (r6.below bal)
  clear bal r6
  have HC : ∀ X : World, RowF X (.slice a6 1 cap6) L6.files → Calls Try.prog 27 #[.agg #[.int .i64 10, (.slice a6 1 cap6), .int .i64 (-1), .int .i64 (-1), .bool false], .string ⟨#[97]⟩] X fun e w' => e = .returned (.tuple #[.string ⟨#[97, 98, 99]⟩, .int .i64 0]) ∧ Below X.heap.size X w' := fun X hX => by
    have h := read_any L6 (.slice a6 1 cap6) ⟨#[97]⟩ X fit6 hX
    rw [l7_is] at h
    exact h
  have HH := hide HC
  clear HC
  go_wp2_with fail
  refine (unhide HH _ (unhide Rc)).mono ?_
  clear HH
  rintro e w7 ⟨rfl, bX⟩
  have KN := hide ((unhide Kc).below bX)
  have RN := hide ((unhide Rc).below bX)
  clear Kc Rc
  have Kc := KN
  have Rc := RN
  clear KN RN
  have BN := hide (belows (unhide BX) bX)
  clear BX
  have BX := BN
  clear BN
  clear bX
  have HC : ∀ X : World, RowF X (.slice a6 1 cap6) L6.files → Calls Try.prog 8 #[.agg #[.int .i64 10, (.slice a6 1 cap6), .int .i64 (-1), .int .i64 (-1), .bool false], .string ⟨#[97]⟩, .string ⟨#[98]⟩] X fun e w' => ∃ v', e = .returned (.tuple #[.agg #[.int .i64 10, v', .int .i64 (-1), .int .i64 (-1), .bool false], .int .i64 0]) ∧ RowF w' v' L8.files ∧ Below X.heap.size X w' := fun X hX => by
    have h := rename_any L6 (.slice a6 1 cap6) ⟨#[97]⟩ ⟨#[98]⟩ X fit6 hX (by decide)
    rw [l8_is] at h
    exact h.mono (fun e w' ⟨v', h1, h2, _, h3⟩ => ⟨v', h1, h2, h3⟩)
  have HH := hide HC
  clear HC
  have c0 := (unhide Kc).cell 0
  have c1 := (unhide Kc).cell 1
  have c2 := (unhide Kc).cell 2
  have c3 := (unhide Kc).cell 3
  have c4 := (unhide Kc).cell 4
  simp only [List.getElem?_toArray, List.getElem?_cons_succ, List.getElem?_cons_zero] at c0 c1 c2 c3 c4
  go_wp2_with fail
  clear c0 c1 c2 c3 c4
  refine (unhide HH _ (unhide Rc)).mono ?_
  clear HH
  rintro e w8 ⟨v8, rfl, r8, b8⟩
  obtain ⟨a8, cap8, rfl⟩ := r8.form (n := 1) rfl
  have KN := hide ((unhide Kc).below b8)
  have RN := hide ((unhide Rc).below b8)
  clear Kc Rc
  have Kc := KN
  have Rc := RN
  clear KN RN
  have BN := hide (belows (unhide BX) b8)
  clear BX
  have BX := BN
  clear BN
  clear b8
  have bal : Below w8.heap.size w8 (w8.alloc (Obj.cells #[.int .i64 10, (.slice a8 1 cap8), .int .i64 (-1), .int .i64 (-1), .bool false] 24)) := (Below.refl _ _).alloc (Nat.le_refl _) _
  have KN := hide ((unhide Kc).below bal)
  have RN := hide ((unhide Rc).below bal)
  clear Kc Rc
  have Kc := KN
  have Rc := RN
  clear KN RN
  have BN := hide (belows (unhide BX) bal)
  clear BX
  have BX := BN
  clear BN
  have Ke := hide (Blk.new w8 24 #[.int .i64 10, (.slice a8 1 cap8), .int .i64 (-1), .int .i64 (-1), .bool false])
  have Re := hide (r8.below bal)
  clear bal r8
  have HC : ∀ X : World, RowF X (.slice a8 1 cap8) L8.files → Calls Try.prog 12 #[.agg #[.int .i64 10, (.slice a8 1 cap8), .int .i64 (-1), .int .i64 (-1), .bool false]] X fun e w' => ∃ v', e = .returned (.tuple #[v', .int .i64 0]) ∧ RowS w' v' [⟨#[98]⟩] ∧ Below X.heap.size X w' := fun X hX => by
    have h := list_any L8 (.slice a8 1 cap8) X fit8 hX
    rw [l9_is] at h
    exact h
  have HH := hide HC
  clear HC
  go_wp2_with fail
  refine (unhide HH _ (unhide Re)).mono ?_
  clear HH
  rintro e w9 ⟨v9, rfl, r9, bX⟩
  obtain ⟨la, lc, rfl⟩ := r9.form (n := 1) rfl
  have KN := hide ((unhide Kc).below bX)
  have RN := hide ((unhide Rc).below bX)
  clear Kc Rc
  have Kc := KN
  have Rc := RN
  clear KN RN
  have KN := hide ((unhide Ke).below bX)
  have RN := hide ((unhide Re).below bX)
  clear Ke Re
  have Ke := KN
  have Re := RN
  clear KN RN
  have BN := hide (belows (unhide BX) bX)
  clear BX
  have BX := BN
  clear BN
  have LR := hide r9
  clear bX r9
  have HC : ∀ X : World, RowF X (.slice a8 1 cap8) L8.files → Calls Try.prog 25 #[.agg #[.int .i64 10, (.slice a8 1 cap8), .int .i64 (-1), .int .i64 (-1), .bool false], .string ⟨#[98]⟩, .int .i64 1] X fun e w' => ∃ v', e = .returned (.tuple #[.agg #[.int .i64 10, v', .int .i64 (-1), .int .i64 (-1), .bool false], .int .i64 0]) ∧ RowF w' v' L10.files ∧ Below X.heap.size X w' := fun X hX => by
    have h := cut_any L8 (.slice a8 1 cap8) ⟨#[98]⟩ 1 X fit8 hX (by omega) (by omega)
    rw [l10_is] at h
    exact h.mono (fun e w' ⟨v', h1, h2, _, h3⟩ => ⟨v', h1, h2, h3⟩)
  have HH := hide HC
  clear HC
  have c0 := (unhide Ke).cell 0
  have c1 := (unhide Ke).cell 1
  have c2 := (unhide Ke).cell 2
  have c3 := (unhide Ke).cell 3
  have c4 := (unhide Ke).cell 4
  simp only [List.getElem?_toArray, List.getElem?_cons_succ, List.getElem?_cons_zero] at c0 c1 c2 c3 c4
  go_wp2_with fail
  clear c0 c1 c2 c3 c4
  refine (unhide HH _ (unhide Re)).mono ?_
  clear HH
  rintro e w10 ⟨v10, rfl, r10, b10⟩
  obtain ⟨a10, cap10, rfl⟩ := r10.form (n := 1) rfl
  have KN := hide ((unhide Kc).below b10)
  have RN := hide ((unhide Rc).below b10)
  clear Kc Rc
  have Kc := KN
  have Rc := RN
  clear KN RN
  have KN := hide ((unhide Ke).below b10)
  have RN := hide ((unhide Re).below b10)
  clear Ke Re
  have Ke := KN
  have Re := RN
  clear KN RN
  have LN := hide ((unhide LR).below b10)
  clear LR
  have LR := LN
  clear LN
  have BN := hide (belows (unhide BX) b10)
  clear BX
  have BX := BN
  clear BN
  clear b10
  have bal : Below w10.heap.size w10 (w10.alloc (Obj.cells #[.int .i64 10, (.slice a10 1 cap10), .int .i64 (-1), .int .i64 (-1), .bool false] 24)) := (Below.refl _ _).alloc (Nat.le_refl _) _
  have KN := hide ((unhide Kc).below bal)
  have RN := hide ((unhide Rc).below bal)
  clear Kc Rc
  have Kc := KN
  have Rc := RN
  clear KN RN
  have KN := hide ((unhide Ke).below bal)
  have RN := hide ((unhide Re).below bal)
  clear Ke Re
  have Ke := KN
  have Re := RN
  clear KN RN
  have LN := hide ((unhide LR).below bal)
  clear LR
  have LR := LN
  clear LN
  have BN := hide (belows (unhide BX) bal)
  clear BX
  have BX := BN
  clear BN
  have Kf := hide (Blk.new w10 24 #[.int .i64 10, (.slice a10 1 cap10), .int .i64 (-1), .int .i64 (-1), .bool false])
  have Rf := hide (r10.below bal)
  clear bal r10
  have HC : ∀ X : World, RowF X (.slice a10 1 cap10) L10.files → Calls Try.prog 10 #[.agg #[.int .i64 10, (.slice a10 1 cap10), .int .i64 (-1), .int .i64 (-1), .bool false], .string ⟨#[98]⟩] X fun e w' => ∃ v', e = .returned (.tuple #[.agg #[.int .i64 10, v', .int .i64 (-1), .int .i64 (-1), .bool false], .int .i64 0]) ∧ RowF w' v' L11.files ∧ Below X.heap.size X w' := fun X hX => by
    have h := delete_any L10 (.slice a10 1 cap10) ⟨#[98]⟩ X fit10 hX
    rw [l11_is] at h
    exact h.mono (fun e w' ⟨v', h1, h2, _, h3⟩ => ⟨v', h1, h2, h3⟩)
  have HH := hide HC
  clear HC
  go_wp2_with fail
  refine (unhide HH _ (unhide Rf)).mono ?_
  clear HH
  rintro e w11 ⟨v11, rfl, r11, b11⟩
  obtain ⟨a11, cap11, rfl⟩ := r11.form (n := 0) rfl
  have KN := hide ((unhide Kc).below b11)
  have RN := hide ((unhide Rc).below b11)
  clear Kc Rc
  have Kc := KN
  have Rc := RN
  clear KN RN
  have KN := hide ((unhide Ke).below b11)
  have RN := hide ((unhide Re).below b11)
  clear Ke Re
  have Ke := KN
  have Re := RN
  clear KN RN
  have KN := hide ((unhide Kf).below b11)
  have RN := hide ((unhide Rf).below b11)
  clear Kf Rf
  have Kf := KN
  have Rf := RN
  clear KN RN
  have LN := hide ((unhide LR).below b11)
  clear LR
  have LR := LN
  clear LN
  have BN := hide (belows (unhide BX) b11)
  clear BX
  have BX := BN
  clear BN
  clear b11
  have bal : Below w11.heap.size w11 (w11.alloc (Obj.cells #[.int .i64 10, (.slice a11 0 cap11), .int .i64 (-1), .int .i64 (-1), .bool false] 24)) := (Below.refl _ _).alloc (Nat.le_refl _) _
  have KN := hide ((unhide Kc).below bal)
  have RN := hide ((unhide Rc).below bal)
  clear Kc Rc
  have Kc := KN
  have Rc := RN
  clear KN RN
  have KN := hide ((unhide Ke).below bal)
  have RN := hide ((unhide Re).below bal)
  clear Ke Re
  have Ke := KN
  have Re := RN
  clear KN RN
  have KN := hide ((unhide Kf).below bal)
  have RN := hide ((unhide Rf).below bal)
  clear Kf Rf
  have Kf := KN
  have Rf := RN
  clear KN RN
  have LN := hide ((unhide LR).below bal)
  clear LR
  have LR := LN
  clear LN
  have BN := hide (belows (unhide BX) bal)
  clear BX
  have BX := BN
  clear BN
  have Kg := hide (Blk.new w11 24 #[.int .i64 10, (.slice a11 0 cap11), .int .i64 (-1), .int .i64 (-1), .bool false])
  have Rg := hide (r11.below bal)
  clear bal r11
  have HC : ∀ X : World, RowF X (.slice a11 0 cap11) L11.files → Calls Try.prog 27 #[.agg #[.int .i64 10, (.slice a11 0 cap11), .int .i64 (-1), .int .i64 (-1), .bool false], .string ⟨#[98]⟩] X fun e w' => e = .returned (.tuple #[.string ⟨#[]⟩, .int .i64 3]) ∧ Below X.heap.size X w' := fun X hX => by
    have h := read_any L11 (.slice a11 0 cap11) ⟨#[98]⟩ X fit11 hX
    rw [l12_is] at h
    exact h
  have HH := hide HC
  clear HC
  go_wp2_with fail
  refine (unhide HH _ (unhide Rg)).mono ?_
  clear HH
  rintro e w12 ⟨rfl, bX⟩
  have KN := hide ((unhide Kc).below bX)
  have RN := hide ((unhide Rc).below bX)
  clear Kc Rc
  have Kc := KN
  have Rc := RN
  clear KN RN
  have KN := hide ((unhide Ke).below bX)
  have RN := hide ((unhide Re).below bX)
  clear Ke Re
  have Ke := KN
  have Re := RN
  clear KN RN
  have KN := hide ((unhide Kf).below bX)
  have RN := hide ((unhide Rf).below bX)
  clear Kf Rf
  have Kf := KN
  have Rf := RN
  clear KN RN
  have KN := hide ((unhide Kg).below bX)
  have RN := hide ((unhide Rg).below bX)
  clear Kg Rg
  have Kg := KN
  have Rg := RN
  clear KN RN
  have LN := hide ((unhide LR).below bX)
  clear LR
  have LR := LN
  clear LN
  have BN := hide (belows (unhide BX) bX)
  clear BX
  have BX := BN
  clear BN
  clear bX
  have HC : ∀ X : World, RowF X (.slice a8 1 cap8) L8.files → ∀ s, RowS X (.slice (some ⟨s, 0, none⟩) 1 1) [⟨#[49, 50, 51, 52, 53, 54, 55, 56]⟩] → Calls Try.prog 21 #[.agg #[.int .i64 10, (.slice a8 1 cap8), .int .i64 (-1), .int .i64 (-1), .bool false], .string ⟨#[98]⟩, .slice (some ⟨s, 0, none⟩) 1 1] X fun e w' => ∃ v', e = .returned (.tuple #[.agg #[.int .i64 10, v', .int .i64 (-1), .int .i64 (-1), .bool false], .int .i64 8]) ∧ RowF w' v' L8.files ∧ Below X.heap.size X w' := fun X hX s hs => by
    have h := append_any L8 (.slice a8 1 cap8) ⟨#[98]⟩ (some ⟨s, 0, none⟩) 1 1 [⟨#[49, 50, 51, 52, 53, 54, 55, 56]⟩] X fit8 hX hs
    rw [l13_is] at h
    exact h.mono (fun e w' ⟨v', h1, h2, _, h3⟩ => ⟨v', h1, h2, h3⟩)
  have HH := hide HC
  clear HC
  have c0 := (unhide Ke).cell 0
  have c1 := (unhide Ke).cell 1
  have c2 := (unhide Ke).cell 2
  have c3 := (unhide Ke).cell 3
  have c4 := (unhide Ke).cell 4
  simp only [List.getElem?_toArray, List.getElem?_cons_succ, List.getElem?_cons_zero] at c0 c1 c2 c3 c4
  have bal : Below w12.heap.size w12 (w12.alloc (Obj.cells #[.string ⟨#[49, 50, 51, 52, 53, 54, 55, 56]⟩] 9)) := (Below.refl _ _).alloc (Nat.le_refl _) _
  have RY := hide ((unhide Re).below bal)
  have SY : Hid (RowS (w12.alloc (Obj.cells #[.string ⟨#[49, 50, 51, 52, 53, 54, 55, 56]⟩] 9)) (.slice (some ⟨w12.heap.size, 0, none⟩) 1 1) [⟨#[49, 50, 51, 52, 53, 54, 55, 56]⟩]) := hide (rowS_new w12 w12.heap.size rfl [⟨#[49, 50, 51, 52, 53, 54, 55, 56]⟩] 1 rfl (by decide) (by decide))
  have BAL := hide bal
  clear bal
  go_wp2_with fail
  clear c0 c1 c2 c3 c4
  refine (unhide HH _ (unhide RY) _ (unhide SY)).mono ?_
  clear RY SY HH
  rintro e w13 ⟨v13, rfl, r13, b13⟩
  obtain ⟨a13, cap13, rfl⟩ := r13.form (n := 1) rfl
  have bX := belows (unhide BAL) b13
  have KN := hide ((unhide Kc).below bX)
  have RN := hide ((unhide Rc).below bX)
  clear Kc Rc
  have Kc := KN
  have Rc := RN
  clear KN RN
  have KN := hide ((unhide Ke).below bX)
  have RN := hide ((unhide Re).below bX)
  clear Ke Re
  have Ke := KN
  have Re := RN
  clear KN RN
  have KN := hide ((unhide Kf).below bX)
  have RN := hide ((unhide Rf).below bX)
  clear Kf Rf
  have Kf := KN
  have Rf := RN
  clear KN RN
  have KN := hide ((unhide Kg).below bX)
  have RN := hide ((unhide Rg).below bX)
  clear Kg Rg
  have Kg := KN
  have Rg := RN
  clear KN RN
  have LN := hide ((unhide LR).below bX)
  clear LR
  have LR := LN
  clear LN
  have BN := hide (belows (unhide BX) bX)
  clear BX
  have BX := BN
  clear BN
  clear bX BAL b13
  have bal : Below w13.heap.size w13 (w13.alloc (Obj.cells #[.int .i64 10, (.slice a13 1 cap13), .int .i64 (-1), .int .i64 (-1), .bool false] 24)) := (Below.refl _ _).alloc (Nat.le_refl _) _
  have KN := hide ((unhide Kc).below bal)
  have RN := hide ((unhide Rc).below bal)
  clear Kc Rc
  have Kc := KN
  have Rc := RN
  clear KN RN
  have KN := hide ((unhide Ke).below bal)
  have RN := hide ((unhide Re).below bal)
  clear Ke Re
  have Ke := KN
  have Re := RN
  clear KN RN
  have KN := hide ((unhide Kf).below bal)
  have RN := hide ((unhide Rf).below bal)
  clear Kf Rf
  have Kf := KN
  have Rf := RN
  clear KN RN
  have KN := hide ((unhide Kg).below bal)
  have RN := hide ((unhide Rg).below bal)
  clear Kg Rg
  have Kg := KN
  have Rg := RN
  clear KN RN
  have LN := hide ((unhide LR).below bal)
  clear LR
  have LR := LN
  clear LN
  have BN := hide (belows (unhide BX) bal)
  clear BX
  have BX := BN
  clear BN
  have Kh := hide (Blk.new w13 24 #[.int .i64 10, (.slice a13 1 cap13), .int .i64 (-1), .int .i64 (-1), .bool false])
  have Rh := hide (r13.below bal)
  clear bal r13
  have bal : Below (w13.alloc (Obj.cells #[.int .i64 10, (.slice a13 1 cap13), .int .i64 (-1), .int .i64 (-1), .bool false] 24)).heap.size (w13.alloc (Obj.cells #[.int .i64 10, (.slice a13 1 cap13), .int .i64 (-1), .int .i64 (-1), .bool false] 24)) ((w13.alloc (Obj.cells #[.int .i64 10, (.slice a13 1 cap13), .int .i64 (-1), .int .i64 (-1), .bool false] 24)).alloc (Obj.cells #[.string ⟨#[98]⟩] 9)) := (Below.refl _ _).alloc (Nat.le_refl _) _
  have SY : Hid (RowS ((w13.alloc (Obj.cells #[.int .i64 10, (.slice a13 1 cap13), .int .i64 (-1), .int .i64 (-1), .bool false] 24)).alloc (Obj.cells #[.string ⟨#[98]⟩] 9)) (.slice (some ⟨w13.heap.size + 1, 0, none⟩) 1 1) [⟨#[98]⟩]) := hide (rowS_new (w13.alloc (Obj.cells #[.int .i64 10, (.slice a13 1 cap13), .int .i64 (-1), .int .i64 (-1), .bool false] 24)) (w13.heap.size + 1) (by simp) [⟨#[98]⟩] 1 rfl (by decide) (by decide))
  have KN := hide ((unhide Kc).below bal)
  have RN := hide ((unhide Rc).below bal)
  clear Kc Rc
  have Kc := KN
  have Rc := RN
  clear KN RN
  have KN := hide ((unhide Ke).below bal)
  have RN := hide ((unhide Re).below bal)
  clear Ke Re
  have Ke := KN
  have Re := RN
  clear KN RN
  have KN := hide ((unhide Kf).below bal)
  have RN := hide ((unhide Rf).below bal)
  clear Kf Rf
  have Kf := KN
  have Rf := RN
  clear KN RN
  have KN := hide ((unhide Kg).below bal)
  have RN := hide ((unhide Rg).below bal)
  clear Kg Rg
  have Kg := KN
  have Rg := RN
  clear KN RN
  have KN := hide ((unhide Kh).below bal)
  have RN := hide ((unhide Rh).below bal)
  clear Kh Rh
  have Kh := KN
  have Rh := RN
  clear KN RN
  have LN := hide ((unhide LR).below bal)
  clear LR
  have LR := LN
  clear LN
  have BN := hide (belows (unhide BX) bal)
  clear BX
  have BX := BN
  clear BN
  have HSM := hide (sameS_any _ _ _ _ _ (unhide LR) (unhide SY))
  have hdt : decide (([⟨#[98]⟩] : List ByteArray) = [⟨#[98]⟩]) = true := by decide
  rw [hdt] at HSM
  have HCK : Hid (∀ X : World, RowF X (.slice a10 1 cap10) L10.files → Calls Try.prog 19 #[.agg #[.int .i64 10, (.slice a10 1 cap10), .int .i64 (-1), .int .i64 (-1), .bool false]] X fun e w' => e = .returned (.int .i64 0) ∧ Below X.heap.size X w') := hide (fun X hX => by
    have h := check_any L10 (.slice a10 1 cap10) X fit10.1 hX
    rw [l14_is] at h
    exact h)
  clear bal SY hdt
  go_upto_region 14 with (fail)
  apply wp_region_lit
  change wpList _ (List.toArray (_ :: _ :: _ :: _ :: _ :: _ :: _ :: _ :: _ :: _ :: _ :: _ :: _ :: _ :: _ :: _ :: _ :: _ :: _ :: _ :: _ :: _ :: _ :: _ :: _ :: _ :: _ :: _ :: _ :: _ :: _ :: _ :: _ :: _ :: _ :: _ :: _ :: _ :: _ :: _ :: _ :: _ :: _ :: _ :: _ :: _ :: _ :: _ :: _ :: _ :: _ :: _ :: _ :: _ :: _ :: _ :: _ :: _ :: _ :: _ :: _ :: _ :: _ :: _ :: _ :: _ :: _ :: _ :: _ :: _ :: _ :: _ :: _ :: _ :: _ :: _ :: _ :: _ :: _ :: [])) _ (_ :: _ :: _ :: _ :: _ :: _ :: _ :: _ :: _ :: _ :: _ :: _ :: _ :: _ :: _ :: _ :: _ :: _ :: _ :: _ :: _ :: _ :: _ :: _ :: _ :: _ :: _ :: _ :: _ :: _ :: _ :: _ :: _ :: _ :: _ :: _ :: _ :: _ :: _ :: _ :: _ :: _ :: _ :: _ :: _ :: _ :: _ :: _ :: _ :: _ :: _ :: _ :: _ :: _ :: _ :: _ :: _ :: _ :: _ :: _ :: _ :: _ :: _ :: _ :: _ :: _ :: _ :: _ :: _ :: _ :: _ :: _ :: _ :: _ :: _ :: _ :: _ :: _ :: _ :: []) _ _
  go_wp2_with fail
  refine (unhide HSM).mono ?_
  rintro e w14 ⟨rfl, bX⟩
  have KN := hide ((unhide Kc).below bX)
  have RN := hide ((unhide Rc).below bX)
  clear Kc Rc
  have Kc := KN
  have Rc := RN
  clear KN RN
  have KN := hide ((unhide Ke).below bX)
  have RN := hide ((unhide Re).below bX)
  clear Ke Re
  have Ke := KN
  have Re := RN
  clear KN RN
  have KN := hide ((unhide Kf).below bX)
  have RN := hide ((unhide Rf).below bX)
  clear Kf Rf
  have Kf := KN
  have Rf := RN
  clear KN RN
  have KN := hide ((unhide Kg).below bX)
  have RN := hide ((unhide Rg).below bX)
  clear Kg Rg
  have Kg := KN
  have Rg := RN
  clear KN RN
  have KN := hide ((unhide Kh).below bX)
  have RN := hide ((unhide Rh).below bX)
  clear Kh Rh
  have Kh := KN
  have Rh := RN
  clear KN RN
  have LN := hide ((unhide LR).below bX)
  clear LR
  have LR := LN
  clear LN
  have BN := hide (belows (unhide BX) bX)
  clear BX
  have BX := BN
  clear BN
  clear bX HSM
  have c0 := (unhide Kf).cell 0
  have c1 := (unhide Kf).cell 1
  have c2 := (unhide Kf).cell 2
  have c3 := (unhide Kf).cell 3
  have c4 := (unhide Kf).cell 4
  simp only [List.getElem?_toArray, List.getElem?_cons_succ, List.getElem?_cons_zero] at c0 c1 c2 c3 c4
  obtain ⟨fb, fo, hfa, y1⟩ : ∃ fb fo, a10 = some ⟨fb, fo, none⟩ ∧ w14.cell? ⟨fb, fo + 1, none⟩ = some (.string ⟨#[97]⟩) := by
    obtain ⟨a, cap, hv, _, _, hc⟩ := unhide Rf
    rcases hc with h0 | ⟨b, off, rfl, _, hcl⟩
    · simp [L10] at h0
    · injection hv with e1
      exact ⟨b, off, e1, hcl 1 _ rfl⟩
  subst hfa
  go_wp2_with fail
  refine (unhide HCK _ (unhide Rf)).mono ?_
  rintro e w15 ⟨rfl, bX⟩
  have BZ := hide (belows (unhide BX) bX)
  clear bX
  go_wp2
  go_ret
  exact ⟨rfl, unhide BZ⟩
end Go.Proofs.Ytmfkhbofmaonkaa
