/-
  What missivelaw19.lives does, over this seat's program: it answers true.
-/
import Derived.Test.YthpjogfclklefaaDoorBnd2
import Derived.BigQuiet
import Derived.Test.YthpjogfclklefaaDoorRxv
import Derived.Test.YthpjogfclklefaaDoorRxi
import Derived.Laws.StructEq
import Derived.Deep.Cut
set_option linter.unusedVariables false
set_option linter.unusedSimpArgs false
namespace Go.Proofs.YthpjogfclklefaaDoor
open Go.RowKit

theorem blk_two {w : World} {P Q t u : Nat} {cs ds : Array Value} (h : Blk w P t cs) (h' : Blk w Q u ds) (hne : t ≠ u) : P ≠ Q := by
  intro e
  subst e
  unfold Blk at *
  rw [h] at h'
  injection h' with h'
  injection h' with _ h2 _
  exact hne h2
theorem OutM.below {w w' : World} {v : Value} {l : List Msg} (h : OutM w v l) (hb : Below w.heap.size w w') : OutM w' v l := ⟨own_below h.1 hb, h.2⟩
theorem OutT.below {w w' : World} {v : Value} {l : List Nat} (h : OutT w v l) (hb : Below w.heap.size w w') : OutT w' v l := ⟨own_below h.1 hb, h.2⟩

set_option maxHeartbeats 8000000 in
set_option maxRecDepth 100000 in
theorem livesB_any (w : World) (ht : LTab w) : Calls Tryd.prog 10 #[] w fun e w' => e = .returned (.bool true) ∧ Below w.heap.size w w' := by
  have HT := hide (fun X (hX : Below w.heap.size w X) => ht.below hX)
  clear ht
  go_enter Tryd.func10, Tryd.ntmps10
  go_wp2_with fail
  refine (liveM9 _).mono ?_
  rintro e x0 ⟨rfl, b0⟩
  go_upto_region 2 with (fail)
  have hA : Below x0.heap.size x0 (x0.alloc (.cells #[.int .u32 9, .int .u64 1, .int .u32 0, .int .u32 0, .slice none 0 0] 26)) := (Below.refl _ x0).alloc (Nat.le_refl _) _
  have K := hide (Blk.new x0 26 #[.int .u32 9, .int .u64 1, .int .u32 0, .int .u32 0, .slice none 0 0])
  have BW := hide (belows' b0 hA)
  have hwB : w.heap.size ≤ x0.heap.size := b0.size
  generalize hV : x0.alloc (.cells #[.int .u32 9, .int .u64 1, .int .u32 0, .int .u32 0, .slice none 0 0] 26) = V1 at K BW hA ⊢
  generalize x0.heap.size = B1 at K hwB ⊢
  have OM := hide (OutM.nil V1)
  clear b0 hA hV
  have c0 := (unhide K).cell 0
  have c1 := (unhide K).cell 1
  have c2 := (unhide K).cell 2
  have c3 := (unhide K).cell 3
  have c4 := (unhide K).cell 4
  simp only [List.getElem?_toArray, List.getElem?_cons_succ, List.getElem?_cons_zero] at c0 c1 c2 c3 c4
  have f0 := (unhide K).frozen 0
  have f1 := (unhide K).frozen 1
  have f2 := (unhide K).frozen 2
  have f3 := (unhide K).frozen 3
  have f4 := (unhide K).frozen 4
  have K2 := K
  have BW2 := BW
  have OM2 := OM
  go_wp2_with fail
  refine (live1 _ _ (unhide HT _ (unhide BW2)) (unhide OM2)).mono ?_
  rintro e x1 ⟨⟨a1, p1, b1, q1, rfl, h1, h2⟩, hb⟩
  have K3 := hide ((unhide K2).below hb)
  have BW3 := hide (belows' (unhide BW2) hb)
  have OM3 := hide h1
  have T1 := hide h2
  clear h1 h2 hb K K2 BW BW2 OM OM2 c0 c1 c2 c3 c4 
  clear f0 f1 f2 f3 f4
  have r0 := (unhide K3).cell 0
  have r1 := (unhide K3).cell 1
  have r2 := (unhide K3).cell 2
  have r3 := (unhide K3).cell 3
  have r4 := (unhide K3).cell 4
  have f0 := (unhide K3).frozen 0
  have f1 := (unhide K3).frozen 1
  have f2 := (unhide K3).frozen 2
  have f3 := (unhide K3).frozen 3
  have f4 := (unhide K3).frozen 4
  simp only [List.getElem?_toArray, List.getElem?_cons_succ, List.getElem?_cons_zero] at r0 r1 r2 r3 r4
  go_upto_region 3 with (fail)
  have K := hide (blk_five (unhide K3) (.int .u32 9) (.int .u64 2) (.int .u32 0) (.int .u32 0) (.slice a1 1 p1))
  have OM := hide (outM5 (unhide OM3) (unhide K3) (by decide) (.int .u32 9) (.int .u64 2) (.int .u32 0) (.int .u32 0) (.slice a1 1 p1))
  have BW := hide (below5 (s := B1) (unhide BW3) (by omega) (.int .u32 9) (.int .u64 2) (.int .u32 0) (.int .u32 0) (.slice a1 1 p1))
  have T1 := hide (outT5 (unhide T1) (unhide K3) (by decide) (.int .u32 9) (.int .u64 2) (.int .u32 0) (.int .u32 0) (.slice a1 1 p1))
  clear K3 OM3 BW3 r0 r1 r2 r3 r4 f0 f1 f2 f3 f4
  generalize (((((x1.setCell ⟨B1, 0, none⟩ (.int .u32 9)).setCell ⟨B1, 1, none⟩ (.int .u64 2)).setCell ⟨B1, 2, none⟩ (.int .u32 0)).setCell ⟨B1, 3, none⟩ (.int .u32 0)).setCell ⟨B1, 4, none⟩ (.slice a1 1 p1)) = V2 at K OM BW T1 ⊢
  have c0 := (unhide K).cell 0
  have c1 := (unhide K).cell 1
  have c2 := (unhide K).cell 2
  have c3 := (unhide K).cell 3
  have c4 := (unhide K).cell 4
  simp only [List.getElem?_toArray, List.getElem?_cons_succ, List.getElem?_cons_zero] at c0 c1 c2 c3 c4
  have f0 := (unhide K).frozen 0
  have f1 := (unhide K).frozen 1
  have f2 := (unhide K).frozen 2
  have f3 := (unhide K).frozen 3
  have f4 := (unhide K).frozen 4
  have K2 := K
  have BW2 := BW
  have OM2 := OM
  go_wp2_with fail
  refine (live2 _ _ (unhide HT _ (unhide BW2)) (unhide OM2)).mono ?_
  rintro e x2 ⟨⟨a2, p2, b2, q2, rfl, h1, h2⟩, hb⟩
  have T1 := hide ((unhide T1).below hb)
  have K3 := hide ((unhide K2).below hb)
  have BW3 := hide (belows' (unhide BW2) hb)
  have OM3 := hide h1
  have T2 := hide h2
  clear h1 h2 hb K K2 BW BW2 OM OM2 c0 c1 c2 c3 c4 
  clear f0 f1 f2 f3 f4
  have r0 := (unhide K3).cell 0
  have r1 := (unhide K3).cell 1
  have r2 := (unhide K3).cell 2
  have r3 := (unhide K3).cell 3
  have r4 := (unhide K3).cell 4
  have f0 := (unhide K3).frozen 0
  have f1 := (unhide K3).frozen 1
  have f2 := (unhide K3).frozen 2
  have f3 := (unhide K3).frozen 3
  have f4 := (unhide K3).frozen 4
  simp only [List.getElem?_toArray, List.getElem?_cons_succ, List.getElem?_cons_zero] at r0 r1 r2 r3 r4
  go_upto_region 4 with (fail)
  have K := hide (blk_five (unhide K3) (.int .u32 9) (.int .u64 3) (.int .u32 0) (.int .u32 0) (.slice a2 2 p2))
  have OM := hide (outM5 (unhide OM3) (unhide K3) (by decide) (.int .u32 9) (.int .u64 3) (.int .u32 0) (.int .u32 0) (.slice a2 2 p2))
  have BW := hide (below5 (s := B1) (unhide BW3) (by omega) (.int .u32 9) (.int .u64 3) (.int .u32 0) (.int .u32 0) (.slice a2 2 p2))
  have T1 := hide (outT5 (unhide T1) (unhide K3) (by decide) (.int .u32 9) (.int .u64 3) (.int .u32 0) (.int .u32 0) (.slice a2 2 p2))
  have T2 := hide (outT5 (unhide T2) (unhide K3) (by decide) (.int .u32 9) (.int .u64 3) (.int .u32 0) (.int .u32 0) (.slice a2 2 p2))
  clear K3 OM3 BW3 r0 r1 r2 r3 r4 f0 f1 f2 f3 f4
  generalize (((((x2.setCell ⟨B1, 0, none⟩ (.int .u32 9)).setCell ⟨B1, 1, none⟩ (.int .u64 3)).setCell ⟨B1, 2, none⟩ (.int .u32 0)).setCell ⟨B1, 3, none⟩ (.int .u32 0)).setCell ⟨B1, 4, none⟩ (.slice a2 2 p2)) = V3 at K OM BW T1 T2 ⊢
  have c0 := (unhide K).cell 0
  have c1 := (unhide K).cell 1
  have c2 := (unhide K).cell 2
  have c3 := (unhide K).cell 3
  have c4 := (unhide K).cell 4
  simp only [List.getElem?_toArray, List.getElem?_cons_succ, List.getElem?_cons_zero] at c0 c1 c2 c3 c4
  have f0 := (unhide K).frozen 0
  have f1 := (unhide K).frozen 1
  have f2 := (unhide K).frozen 2
  have f3 := (unhide K).frozen 3
  have f4 := (unhide K).frozen 4
  have hL : Below V3.heap.size V3 (V3.alloc (.cells #[.int .u32 1] 22)) := (Below.refl _ V3).alloc (Nat.le_refl _) _
  have RL := hide (lit32 V3 [1] #[.int .u32 1] rfl rfl (by decide) (by decide))
  have K2 := hide ((unhide K).below hL)
  have BW2 := hide (belows' (unhide BW) hL)
  have OM2 := hide ((unhide OM).below hL)
  have T1 := hide ((unhide T1).below hL)
  have T2 := hide ((unhide T2).below hL)
  go_wp2_with fail
  refine (live3 _ _ _ (unhide HT _ (unhide BW2)) (unhide OM2) (unhide RL)).mono ?_
  rintro e x3 ⟨⟨a3, p3, b3, q3, rfl, h1, h2⟩, hb⟩
  have T1 := hide ((unhide T1).below hb)
  have T2 := hide ((unhide T2).below hb)
  have K3 := hide ((unhide K2).below hb)
  have BW3 := hide (belows' (unhide BW2) hb)
  have OM3 := hide h1
  have T3 := hide h2
  clear hL RL
  clear h1 h2 hb K K2 BW BW2 OM OM2 c0 c1 c2 c3 c4 
  clear f0 f1 f2 f3 f4
  have r0 := (unhide K3).cell 0
  have r1 := (unhide K3).cell 1
  have r2 := (unhide K3).cell 2
  have r3 := (unhide K3).cell 3
  have r4 := (unhide K3).cell 4
  have f0 := (unhide K3).frozen 0
  have f1 := (unhide K3).frozen 1
  have f2 := (unhide K3).frozen 2
  have f3 := (unhide K3).frozen 3
  have f4 := (unhide K3).frozen 4
  simp only [List.getElem?_toArray, List.getElem?_cons_succ, List.getElem?_cons_zero] at r0 r1 r2 r3 r4
  go_upto_region 5 with (fail)
  have K := hide (blk_five (unhide K3) (.int .u32 9) (.int .u64 3) (.int .u32 0) (.int .u32 0) (.slice a3 2 p3))
  have OM := hide (outM5 (unhide OM3) (unhide K3) (by decide) (.int .u32 9) (.int .u64 3) (.int .u32 0) (.int .u32 0) (.slice a3 2 p3))
  have BW := hide (below5 (s := B1) (unhide BW3) (by omega) (.int .u32 9) (.int .u64 3) (.int .u32 0) (.int .u32 0) (.slice a3 2 p3))
  have T1 := hide (outT5 (unhide T1) (unhide K3) (by decide) (.int .u32 9) (.int .u64 3) (.int .u32 0) (.int .u32 0) (.slice a3 2 p3))
  have T2 := hide (outT5 (unhide T2) (unhide K3) (by decide) (.int .u32 9) (.int .u64 3) (.int .u32 0) (.int .u32 0) (.slice a3 2 p3))
  have T3 := hide (outT5 (unhide T3) (unhide K3) (by decide) (.int .u32 9) (.int .u64 3) (.int .u32 0) (.int .u32 0) (.slice a3 2 p3))
  clear K3 OM3 BW3 r0 r1 r2 r3 r4 f0 f1 f2 f3 f4
  generalize (((((x3.setCell ⟨B1, 0, none⟩ (.int .u32 9)).setCell ⟨B1, 1, none⟩ (.int .u64 3)).setCell ⟨B1, 2, none⟩ (.int .u32 0)).setCell ⟨B1, 3, none⟩ (.int .u32 0)).setCell ⟨B1, 4, none⟩ (.slice a3 2 p3)) = V4 at K OM BW T1 T2 T3 ⊢
  have c0 := (unhide K).cell 0
  have c1 := (unhide K).cell 1
  have c2 := (unhide K).cell 2
  have c3 := (unhide K).cell 3
  have c4 := (unhide K).cell 4
  simp only [List.getElem?_toArray, List.getElem?_cons_succ, List.getElem?_cons_zero] at c0 c1 c2 c3 c4
  have e0 := (unhide K).frozen 0
  have hL : Below V4.heap.size V4 (V4.alloc (.cells #[.int .u32 1, .int .u32 2] 22)) := (Below.refl _ V4).alloc (Nat.le_refl _) _
  have RL := hide (lit32 V4 [1, 2] #[.int .u32 1, .int .u32 2] rfl rfl (by decide) (by decide))
  have K2 := hide ((unhide K).below hL)
  have BW2 := hide (belows' (unhide BW) hL)
  have OM2 := hide ((unhide OM).below hL)
  have T1 := hide ((unhide T1).below hL)
  have T2 := hide ((unhide T2).below hL)
  have T3 := hide ((unhide T3).below hL)
  go_wp2_with fail
  refine (live4 _ _ _ (unhide HT _ (unhide BW2)) (unhide OM2) (unhide RL)).mono ?_
  rintro e x4 ⟨⟨a4, p4, b4, q4, rfl, h1, h2⟩, hb⟩
  have T1 := hide ((unhide T1).below hb)
  have T2 := hide ((unhide T2).below hb)
  have T3 := hide ((unhide T3).below hb)
  have K3 := hide ((unhide K2).below hb)
  have BW3 := hide (belows' (unhide BW2) hb)
  have OM3 := hide h1
  have T4 := hide h2
  clear hL RL
  clear h1 h2 hb K K2 BW BW2 OM OM2 c0 c1 c2 c3 c4 e0
  go_upto_region 6 with (fail)
  have hA : Below x4.heap.size x4 (x4.alloc (.cells #[.int .u32 9, .int .u64 3, .int .u32 0, .int .u32 0, .slice a4 1 p4] 26)) := (Below.refl _ x4).alloc (Nat.le_refl _) _
  have K := hide (Blk.new x4 26 #[.int .u32 9, .int .u64 3, .int .u32 0, .int .u32 0, .slice a4 1 p4])
  have OM := hide ((unhide OM3).below hA)
  have BW := hide (belows' (unhide BW3) hA)
  have hwB : w.heap.size ≤ x4.heap.size := (unhide BW3).size
  have T1 := hide ((unhide T1).below hA)
  have T2 := hide ((unhide T2).below hA)
  have T3 := hide ((unhide T3).below hA)
  have T4 := hide ((unhide T4).below hA)
  clear K3 OM3 BW3 hA
  generalize (x4.alloc (.cells #[.int .u32 9, .int .u64 3, .int .u32 0, .int .u32 0, .slice a4 1 p4] 26)) = V5 at K OM BW  T1 T2 T3 T4 ⊢
  generalize x4.heap.size = B5 at K hwB ⊢
  have c0 := (unhide K).cell 0
  have c1 := (unhide K).cell 1
  have c2 := (unhide K).cell 2
  have c3 := (unhide K).cell 3
  have c4 := (unhide K).cell 4
  simp only [List.getElem?_toArray, List.getElem?_cons_succ, List.getElem?_cons_zero] at c0 c1 c2 c3 c4
  go_wp2_with fail
  refine (liveP _ _ (unhide HT _ (unhide BW)) (unhide OM)).mono ?_
  rintro e y6 ⟨rfl, hb⟩
  have K := hide ((unhide K).below hb)
  have BW := hide (belows' (unhide BW) hb)
  have OM := hide ((unhide OM).below hb)
  have T1 := hide ((unhide T1).below hb)
  have T2 := hide ((unhide T2).below hb)
  have T3 := hide ((unhide T3).below hb)
  have T4 := hide ((unhide T4).below hb)
  clear hb c0 c1 c2 c3 c4
  have c0 := (unhide K).cell 0
  have c1 := (unhide K).cell 1
  have c2 := (unhide K).cell 2
  have c3 := (unhide K).cell 3
  have c4 := (unhide K).cell 4
  simp only [List.getElem?_toArray, List.getElem?_cons_succ, List.getElem?_cons_zero] at c0 c1 c2 c3 c4
  go_wp2_with fail
  refine (liveF _ _ (unhide HT _ (unhide BW)) (unhide OM)).mono ?_
  rintro e y7 ⟨rfl, hb⟩
  have K := hide ((unhide K).below hb)
  have BW := hide (belows' (unhide BW) hb)
  have OM := hide ((unhide OM).below hb)
  have T1 := hide ((unhide T1).below hb)
  have T2 := hide ((unhide T2).below hb)
  have T3 := hide ((unhide T3).below hb)
  have T4 := hide ((unhide T4).below hb)
  clear hb c0 c1 c2 c3 c4
  go_upto_region 8 with (fail)
  have hA : Below y7.heap.size y7 (y7.alloc (.cells #[.int .u32 2, .int .u8 1, .int .i64 0, .int .i64 0, .int .i64 0, .string ⟨#[121]⟩] 47)) := (Below.refl _ y7).alloc (Nat.le_refl _) _
  have KM := hide (Blk.new y7 47 #[.int .u32 2, .int .u8 1, .int .i64 0, .int .i64 0, .int .i64 0, .string ⟨#[121]⟩])
  have K := hide ((unhide K).below hA)
  have OM := hide ((unhide OM).below hA)
  have BW := hide (belows' (unhide BW) hA)
  have T1 := hide ((unhide T1).below hA)
  have T2 := hide ((unhide T2).below hA)
  have T3 := hide ((unhide T3).below hA)
  have T4 := hide ((unhide T4).below hA)
  clear hA
  generalize y7.alloc (.cells #[.int .u32 2, .int .u8 1, .int .i64 0, .int .i64 0, .int .i64 0, .string ⟨#[121]⟩] 47) = V8 at K OM BW KM T1 T2 T3 T4 ⊢
  generalize y7.heap.size = BM at KM ⊢
  have c0 := (unhide K).cell 0
  have c1 := (unhide K).cell 1
  have c2 := (unhide K).cell 2
  have c3 := (unhide K).cell 3
  have c4 := (unhide K).cell 4
  simp only [List.getElem?_toArray, List.getElem?_cons_succ, List.getElem?_cons_zero] at c0 c1 c2 c3 c4
  go_wp2_with fail
  refine (liveU _ _ (unhide HT _ (unhide BW)) (unhide OM)).mono ?_
  rintro e y8 ⟨⟨au, cu, rfl, hu⟩, hb⟩
  have K := hide ((unhide K).below hb)
  have BW := hide (belows' (unhide BW) hb)
  have OM := hide ((unhide OM).below hb)
  have T1 := hide ((unhide T1).below hb)
  have T2 := hide ((unhide T2).below hb)
  have T3 := hide ((unhide T3).below hb)
  have T4 := hide ((unhide T4).below hb)
  have KM := hide ((unhide KM).below hb)
  have TU := hide hu
  clear hb hu c0 c1 c2 c3 c4
  have c0 := (unhide K).cell 0
  have c1 := (unhide K).cell 1
  have c2 := (unhide K).cell 2
  have c3 := (unhide K).cell 3
  have c4 := (unhide K).cell 4
  simp only [List.getElem?_toArray, List.getElem?_cons_succ, List.getElem?_cons_zero] at c0 c1 c2 c3 c4
  go_wp2_with fail
  refine (live5 _ _ (unhide HT _ (unhide BW)) (unhide OM)).mono ?_
  rintro e x9 ⟨⟨a9, p9, b9, q9, rfl, h1, h2⟩, hb⟩
  have T1 := hide ((unhide T1).below hb)
  have T2 := hide ((unhide T2).below hb)
  have T3 := hide ((unhide T3).below hb)
  have T4 := hide ((unhide T4).below hb)
  have TU := hide ((unhide TU).below hb)
  have KM := hide ((unhide KM).below hb)
  have K3 := hide ((unhide K).below hb)
  have BW3 := hide (belows' (unhide BW) hb)
  have OM3 := hide h1
  clear h1 h2 hb K BW OM c0 c1 c2 c3 c4
  have r0 := (unhide K3).cell 0
  have r1 := (unhide K3).cell 1
  have r2 := (unhide K3).cell 2
  have r3 := (unhide K3).cell 3
  have r4 := (unhide K3).cell 4
  have f0 := (unhide K3).frozen 0
  have f1 := (unhide K3).frozen 1
  have f2 := (unhide K3).frozen 2
  have f3 := (unhide K3).frozen 3
  have f4 := (unhide K3).frozen 4
  simp only [List.getElem?_toArray, List.getElem?_cons_succ, List.getElem?_cons_zero] at r0 r1 r2 r3 r4
  go_upto_region 10 with (fail)
  have K := hide (blk_five (unhide K3) (.int .u32 9) (.int .u64 3) (.int .u32 0) (.int .u32 2) (.slice a9 1 p9))
  have OM := hide (outM5 (unhide OM3) (unhide K3) (by decide) (.int .u32 9) (.int .u64 3) (.int .u32 0) (.int .u32 2) (.slice a9 1 p9))
  have BW := hide (below5 (s := B5) (unhide BW3) (by omega) (.int .u32 9) (.int .u64 3) (.int .u32 0) (.int .u32 2) (.slice a9 1 p9))
  have hMB : BM ≠ B5 := fun e => blk_two (unhide KM) (unhide K3) (by decide) e
  have KM := hide (blk5 (unhide KM) hMB (.int .u32 9) (.int .u64 3) (.int .u32 0) (.int .u32 2) (.slice a9 1 p9))
  have T1 := hide (outT5 (unhide T1) (unhide K3) (by decide) (.int .u32 9) (.int .u64 3) (.int .u32 0) (.int .u32 2) (.slice a9 1 p9))
  have T2 := hide (outT5 (unhide T2) (unhide K3) (by decide) (.int .u32 9) (.int .u64 3) (.int .u32 0) (.int .u32 2) (.slice a9 1 p9))
  have T3 := hide (outT5 (unhide T3) (unhide K3) (by decide) (.int .u32 9) (.int .u64 3) (.int .u32 0) (.int .u32 2) (.slice a9 1 p9))
  have T4 := hide (outT5 (unhide T4) (unhide K3) (by decide) (.int .u32 9) (.int .u64 3) (.int .u32 0) (.int .u32 2) (.slice a9 1 p9))
  have TU := hide (outT5 (unhide TU) (unhide K3) (by decide) (.int .u32 9) (.int .u64 3) (.int .u32 0) (.int .u32 2) (.slice a9 1 p9))
  clear K3 OM3 BW3 r0 r1 r2 r3 r4 f0 f1 f2 f3 f4
  generalize (((((x9.setCell ⟨B5, 0, none⟩ (.int .u32 9)).setCell ⟨B5, 1, none⟩ (.int .u64 3)).setCell ⟨B5, 2, none⟩ (.int .u32 0)).setCell ⟨B5, 3, none⟩ (.int .u32 2)).setCell ⟨B5, 4, none⟩ (.slice a9 1 p9)) = V10 at K OM BW KM T1 T2 T3 T4 TU ⊢
  have c0 := (unhide K).cell 0
  have c1 := (unhide K).cell 1
  have c2 := (unhide K).cell 2
  have c3 := (unhide K).cell 3
  have c4 := (unhide K).cell 4
  simp only [List.getElem?_toArray, List.getElem?_cons_succ, List.getElem?_cons_zero] at c0 c1 c2 c3 c4
  go_wp2_with fail
  refine (liveR _ _ (unhide HT _ (unhide BW)) (unhide OM)).mono ?_
  rintro e y10 ⟨⟨ar, cr, rfl, hu⟩, hb⟩
  have K := hide ((unhide K).below hb)
  have BW := hide (belows' (unhide BW) hb)
  have OM := hide ((unhide OM).below hb)
  have T1 := hide ((unhide T1).below hb)
  have T2 := hide ((unhide T2).below hb)
  have T3 := hide ((unhide T3).below hb)
  have T4 := hide ((unhide T4).below hb)
  have TU := hide ((unhide TU).below hb)
  have KM := hide ((unhide KM).below hb)
  have TR := hide hu
  clear hb hu c0 c1 c2 c3 c4
  have c0 := (unhide K).cell 0
  have c1 := (unhide K).cell 1
  have c2 := (unhide K).cell 2
  have c3 := (unhide K).cell 3
  have c4 := (unhide K).cell 4
  simp only [List.getElem?_toArray, List.getElem?_cons_succ, List.getElem?_cons_zero] at c0 c1 c2 c3 c4
  have hL : Below y10.heap.size y10 (y10.alloc (.cells #[.int .u32 1] 22)) := (Below.refl _ y10).alloc (Nat.le_refl _) _
  have RL := hide (lit32 y10 [1] #[.int .u32 1] rfl rfl (by decide) (by decide))
  have K2 := hide ((unhide K).below hL)
  have BW2 := hide (belows' (unhide BW) hL)
  have OM2 := hide ((unhide OM).below hL)
  have T1 := hide ((unhide T1).below hL)
  have T2 := hide ((unhide T2).below hL)
  have T3 := hide ((unhide T3).below hL)
  have T4 := hide ((unhide T4).below hL)
  have TU := hide ((unhide TU).below hL)
  have TR := hide ((unhide TR).below hL)
  have KM := hide ((unhide KM).below hL)
  go_wp2_with fail
  refine (live6 _ _ _ (unhide HT _ (unhide BW2)) (unhide OM2) (unhide RL)).mono ?_
  rintro e x11 ⟨⟨a11, p11, b11, q11, rfl, h1, h2⟩, hb⟩
  have T1 := hide ((unhide T1).below hb)
  have T2 := hide ((unhide T2).below hb)
  have T3 := hide ((unhide T3).below hb)
  have T4 := hide ((unhide T4).below hb)
  have TU := hide ((unhide TU).below hb)
  have TR := hide ((unhide TR).below hb)
  have KM := hide ((unhide KM).below hb)
  have K := hide ((unhide K2).below hb)
  have BW := hide (belows' (unhide BW2) hb)
  have OM := hide ((unhide OM2).below hb)
  clear h1 h2 hb K2 BW2 OM2 hL RL c0 c1 c2 c3 c4
  go_upto_region 12 with (fail)
  have hA : Below x11.heap.size x11 (x11.alloc (.cells #[.int .u32 9, .int .u64 3, .int .u32 0, .int .u32 2, .slice a11 1 p11] 26)) := (Below.refl _ x11).alloc (Nat.le_refl _) _
  have K := hide ((unhide K).below hA)
  have OM := hide ((unhide OM).below hA)
  have BW := hide (belows' (unhide BW) hA)
  have T1 := hide ((unhide T1).below hA)
  have T2 := hide ((unhide T2).below hA)
  have T3 := hide ((unhide T3).below hA)
  have T4 := hide ((unhide T4).below hA)
  have TU := hide ((unhide TU).below hA)
  have TR := hide ((unhide TR).below hA)
  have KM := hide ((unhide KM).below hA)
  clear hA
  generalize x11.alloc (.cells #[.int .u32 9, .int .u64 3, .int .u32 0, .int .u32 2, .slice a11 1 p11] 26) = V12 at K OM BW KM T1 T2 T3 T4 TU TR ⊢
  generalize x11.heap.size = B12
  go_wp2_with fail
  refine (liveM0 _).mono ?_
  rintro e x12 ⟨rfl, hb⟩
  have T1 := hide ((unhide T1).below hb)
  have T2 := hide ((unhide T2).below hb)
  have T3 := hide ((unhide T3).below hb)
  have T4 := hide ((unhide T4).below hb)
  have TU := hide ((unhide TU).below hb)
  have TR := hide ((unhide TR).below hb)
  have KM := hide ((unhide KM).below hb)
  have K := hide ((unhide K).below hb)
  have BW := hide (belows' (unhide BW) hb)
  have OM := hide ((unhide OM).below hb)
  clear hb
  go_upto_region 13 with (fail)
  have hA : Below x12.heap.size x12 (x12.alloc (.cells #[.int .u32 0, .int .u64 0, .int .u32 0, .int .u32 0, .slice none 0 0] 26)) := (Below.refl _ x12).alloc (Nat.le_refl _) _
  have K := hide ((unhide K).below hA)
  have OM := hide ((unhide OM).below hA)
  have BW := hide (belows' (unhide BW) hA)
  have T1 := hide ((unhide T1).below hA)
  have T2 := hide ((unhide T2).below hA)
  have T3 := hide ((unhide T3).below hA)
  have T4 := hide ((unhide T4).below hA)
  have TU := hide ((unhide TU).below hA)
  have TR := hide ((unhide TR).below hA)
  have KM := hide ((unhide KM).below hA)
  clear hA
  generalize x12.alloc (.cells #[.int .u32 0, .int .u64 0, .int .u32 0, .int .u32 0, .slice none 0 0] 26) = V13 at K OM BW KM T1 T2 T3 T4 TU TR ⊢
  generalize x12.heap.size = B13
  apply wp_region_lit
  change wpList _ (List.toArray (_ :: _ :: _ :: _ :: _ :: _ :: _ :: _ :: _ :: _ :: _ :: _ :: _ :: _ :: _ :: _ :: _ :: _ :: _ :: _ :: _ :: _ :: _ :: _ :: _ :: _ :: _ :: _ :: _ :: _ :: _ :: _ :: _ :: _ :: _ :: _ :: _ :: _ :: _ :: _ :: _ :: _ :: _ :: _ :: _ :: _ :: _ :: _ :: _ :: _ :: _ :: _ :: _ :: _ :: _ :: _ :: _ :: _ :: _ :: _ :: _ :: _ :: _ :: _ :: _ :: _ :: _ :: _ :: _ :: _ :: _ :: _ :: _ :: _ :: _ :: _ :: _ :: _ :: _ :: _ :: _ :: _ :: _ :: _ :: _ :: _ :: _ :: _ :: _ :: _ :: _ :: _ :: _ :: _ :: _ :: _ :: _ :: _ :: _ :: _ :: _ :: [])) _ (_ :: _ :: _ :: _ :: _ :: _ :: _ :: _ :: _ :: _ :: _ :: _ :: _ :: _ :: _ :: _ :: _ :: _ :: _ :: _ :: _ :: _ :: _ :: _ :: _ :: _ :: _ :: _ :: _ :: _ :: _ :: _ :: _ :: _ :: _ :: _ :: _ :: _ :: _ :: _ :: _ :: _ :: _ :: _ :: _ :: _ :: _ :: _ :: _ :: _ :: _ :: _ :: _ :: _ :: _ :: _ :: _ :: _ :: _ :: _ :: _ :: _ :: _ :: _ :: _ :: _ :: _ :: _ :: _ :: _ :: _ :: _ :: _ :: _ :: _ :: _ :: _ :: _ :: _ :: _ :: _ :: _ :: _ :: _ :: _ :: _ :: _ :: _ :: _ :: _ :: _ :: _ :: _ :: _ :: _ :: _ :: _ :: _ :: _ :: _ :: _ :: []) _ _
  have hL : Below V13.heap.size V13 (V13.alloc (.cells #[.int .u32 1] 22)) := (Below.refl _ V13).alloc (Nat.le_refl _) _
  have RL := hide (lit32 V13 [1] #[.int .u32 1] rfl rfl (by decide) (by decide))
  have T1 := hide ((unhide T1).below hL)
  have T2 := hide ((unhide T2).below hL)
  have T3 := hide ((unhide T3).below hL)
  have T4 := hide ((unhide T4).below hL)
  have TU := hide ((unhide TU).below hL)
  have TR := hide ((unhide TR).below hL)
  have KM := hide ((unhide KM).below hL)
  have K := hide ((unhide K).below hL)
  have OM := hide ((unhide OM).below hL)
  have BW := hide (belows' (unhide BW) hL)
  go_wp2_with fail
  refine (same32_any _ _ [1] [1] _ (unhide T1).row (unhide RL)).mono ?_
  rintro e s1 ⟨rfl, hb⟩
  rw [decide_eq_true (rfl : [1] = [1])]
  have T1 := hide ((unhide T1).below hb)
  have T2 := hide ((unhide T2).below hb)
  have T3 := hide ((unhide T3).below hb)
  have T4 := hide ((unhide T4).below hb)
  have TU := hide ((unhide TU).below hb)
  have TR := hide ((unhide TR).below hb)
  have KM := hide ((unhide KM).below hb)
  have K := hide ((unhide K).below hb)
  have OM := hide ((unhide OM).below hb)
  have BW := hide (belows' (unhide BW) hb)
  clear hb hL RL
  have hL : Below s1.heap.size s1 (s1.alloc (.cells #[.int .u32 2] 22)) := (Below.refl _ s1).alloc (Nat.le_refl _) _
  have RL := hide (lit32 s1 [2] #[.int .u32 2] rfl rfl (by decide) (by decide))
  have T1 := hide ((unhide T1).below hL)
  have T2 := hide ((unhide T2).below hL)
  have T3 := hide ((unhide T3).below hL)
  have T4 := hide ((unhide T4).below hL)
  have TU := hide ((unhide TU).below hL)
  have TR := hide ((unhide TR).below hL)
  have KM := hide ((unhide KM).below hL)
  have K := hide ((unhide K).below hL)
  have OM := hide ((unhide OM).below hL)
  have BW := hide (belows' (unhide BW) hL)
  go_wp2_with fail
  refine (same32_any _ _ [2] [2] _ (unhide T2).row (unhide RL)).mono ?_
  rintro e s2 ⟨rfl, hb⟩
  rw [decide_eq_true (rfl : [2] = [2])]
  have T1 := hide ((unhide T1).below hb)
  have T2 := hide ((unhide T2).below hb)
  have T3 := hide ((unhide T3).below hb)
  have T4 := hide ((unhide T4).below hb)
  have TU := hide ((unhide TU).below hb)
  have TR := hide ((unhide TR).below hb)
  have KM := hide ((unhide KM).below hb)
  have K := hide ((unhide K).below hb)
  have OM := hide ((unhide OM).below hb)
  have BW := hide (belows' (unhide BW) hb)
  clear hb hL RL
  have hL : Below s2.heap.size s2 (s2.alloc (.cells #[.int .u32 1] 22)) := (Below.refl _ s2).alloc (Nat.le_refl _) _
  have RL := hide (lit32 s2 [1] #[.int .u32 1] rfl rfl (by decide) (by decide))
  have T1 := hide ((unhide T1).below hL)
  have T2 := hide ((unhide T2).below hL)
  have T3 := hide ((unhide T3).below hL)
  have T4 := hide ((unhide T4).below hL)
  have TU := hide ((unhide TU).below hL)
  have TR := hide ((unhide TR).below hL)
  have KM := hide ((unhide KM).below hL)
  have K := hide ((unhide K).below hL)
  have OM := hide ((unhide OM).below hL)
  have BW := hide (belows' (unhide BW) hL)
  go_wp2_with fail
  refine (same32_any _ _ [1] [1] _ (unhide T4).row (unhide RL)).mono ?_
  rintro e s3 ⟨rfl, hb⟩
  rw [decide_eq_true (rfl : [1] = [1])]
  have T1 := hide ((unhide T1).below hb)
  have T2 := hide ((unhide T2).below hb)
  have T3 := hide ((unhide T3).below hb)
  have T4 := hide ((unhide T4).below hb)
  have TU := hide ((unhide TU).below hb)
  have TR := hide ((unhide TR).below hb)
  have KM := hide ((unhide KM).below hb)
  have K := hide ((unhide K).below hb)
  have OM := hide ((unhide OM).below hb)
  have BW := hide (belows' (unhide BW) hb)
  clear hb hL RL
  have m1 := (unhide KM).cell 1
  have m5 := (unhide KM).cell 5
  simp only [List.getElem?_toArray, List.getElem?_cons_succ, List.getElem?_cons_zero] at m1 m5
  have hKM := (unhide KM).lt
  have hL : Below s3.heap.size s3 (s3.alloc (.cells #[.int .u32 2] 22)) := (Below.refl _ s3).alloc (Nat.le_refl _) _
  have RL := hide (lit32 s3 [2] #[.int .u32 2] rfl rfl (by decide) (by decide))
  have T1 := hide ((unhide T1).below hL)
  have T2 := hide ((unhide T2).below hL)
  have T3 := hide ((unhide T3).below hL)
  have T4 := hide ((unhide T4).below hL)
  have TU := hide ((unhide TU).below hL)
  have TR := hide ((unhide TR).below hL)
  have KM := hide ((unhide KM).below hL)
  have K := hide ((unhide K).below hL)
  have OM := hide ((unhide OM).below hL)
  have BW := hide (belows' (unhide BW) hL)
  go_wp2_with fail
  refine (same32_any _ _ [2] [2] _ (unhide TU).row (unhide RL)).mono ?_
  rintro e s4 ⟨rfl, hb⟩
  rw [decide_eq_true (rfl : [2] = [2])]
  have T1 := hide ((unhide T1).below hb)
  have T2 := hide ((unhide T2).below hb)
  have T3 := hide ((unhide T3).below hb)
  have T4 := hide ((unhide T4).below hb)
  have TU := hide ((unhide TU).below hb)
  have TR := hide ((unhide TR).below hb)
  have KM := hide ((unhide KM).below hb)
  have K := hide ((unhide K).below hb)
  have OM := hide ((unhide OM).below hb)
  have BW := hide (belows' (unhide BW) hb)
  clear hb hL RL
  have c0 := (unhide K).cell 0
  have c1 := (unhide K).cell 1
  have c2 := (unhide K).cell 2
  have c3 := (unhide K).cell 3
  have c4 := (unhide K).cell 4
  simp only [List.getElem?_toArray, List.getElem?_cons_succ, List.getElem?_cons_zero] at c0 c1 c2 c3 c4
  have hK := (unhide K).lt
  have hL : Below s4.heap.size s4 (s4.alloc (.cells #[.int .u32 2] 22)) := (Below.refl _ s4).alloc (Nat.le_refl _) _
  have RL := hide (lit32 s4 [2] #[.int .u32 2] rfl rfl (by decide) (by decide))
  have T1 := hide ((unhide T1).below hL)
  have T2 := hide ((unhide T2).below hL)
  have T3 := hide ((unhide T3).below hL)
  have T4 := hide ((unhide T4).below hL)
  have TU := hide ((unhide TU).below hL)
  have TR := hide ((unhide TR).below hL)
  have KM := hide ((unhide KM).below hL)
  have K := hide ((unhide K).below hL)
  have OM := hide ((unhide OM).below hL)
  have BW := hide (belows' (unhide BW) hL)
  go_wp2_with fail
  refine (same32_any _ _ [2] [2] _ (unhide TR).row (unhide RL)).mono ?_
  rintro e s5 ⟨rfl, hb⟩
  rw [decide_eq_true (rfl : [2] = [2])]
  have T1 := hide ((unhide T1).below hb)
  have T2 := hide ((unhide T2).below hb)
  have T3 := hide ((unhide T3).below hb)
  have T4 := hide ((unhide T4).below hb)
  have TU := hide ((unhide TU).below hb)
  have TR := hide ((unhide TR).below hb)
  have KM := hide ((unhide KM).below hb)
  have K := hide ((unhide K).below hb)
  have OM := hide ((unhide OM).below hb)
  have BW := hide (belows' (unhide BW) hb)
  clear hb hL RL
  clear c0 c1 c2 c3 c4
  have c0 := (unhide K).cell 0
  have c1 := (unhide K).cell 1
  have c2 := (unhide K).cell 2
  have c3 := (unhide K).cell 3
  have c4 := (unhide K).cell 4
  simp only [List.getElem?_toArray, List.getElem?_cons_succ, List.getElem?_cons_zero] at c0 c1 c2 c3 c4
  go_wp2_with fail
  refine (liveC _ _ (unhide HT _ (unhide BW)) (unhide OM)).mono ?_
  rintro e z1 ⟨rfl, hb⟩
  have BW := hide (belows' (unhide BW) hb)
  clear hb
  go_wp2_with fail
  refine (liveG _ (unhide HT _ (unhide BW))).mono ?_
  rintro e z2 ⟨rfl, hb⟩
  have BW := hide (belows' (unhide BW) hb)
  clear hb
  go_wp2
  go_ret
  exact ⟨rfl, unhide BW⟩
end Go.Proofs.YthpjogfclklefaaDoor

/-
  What marking one mail does to a box (plain mathematics).
-/
set_option linter.unusedVariables false
set_option linter.unusedSimpArgs false
namespace Go.Proofs.YthpjogfclklefaaDoor
open Go.RowKit

/-- A mail but for its flags. -/
def SameBut (g : Msg → Msg) : Prop := ∀ m, (g m).uid = m.uid ∧ (g m).dy = m.dy ∧ (g m).sc = m.sc ∧ (g m).zn = m.zn ∧ (g m).raw = m.raw
theorem mailsOk_map {g : Msg → Msg} (hg : SameBut g) {nx : Nat} : ∀ {le : Nat} {l : List Msg}, (∀ m ∈ l, m.fl ≤ 31 → (g m).fl ≤ 31) → mailsOk nx le l = true → mailsOk nx le (l.map g) = true
  | _, [], _, _ => rfl
  | le, m :: r, hf, h => by
    simp only [mailsOk, Bool.and_eq_true, decide_eq_true_eq, List.map_cons] at h ⊢
    obtain ⟨⟨⟨h1, h2⟩, h3, h4, h5⟩, h6⟩ := h
    obtain ⟨e1, e2, e3, e4, e5⟩ := hg m
    rw [e1, e2, e3, e4, e5]
    exact ⟨⟨⟨h1, h2⟩, hf m (by simp) h3, h4, h5⟩, mailsOk_map hg (fun x hx => hf x (by simp [hx])) h6⟩
theorem uidsM_map {g : Msg → Msg} (hg : SameBut g) (l : List Msg) : uidsM (l.map g) = uidsM l := by
  unfold uidsM
  rw [List.map_map]
  exact List.map_congr_left (fun m _ => (hg m).1)
def mapB (g : Msg → Msg) (b : Bx) : Bx := ⟨b.va, b.nx, b.mr, b.la, b.ms.map g⟩
theorem okB_map {g : Msg → Msg} (hg : SameBut g) {b : Bx} (hf : ∀ m ∈ b.ms, m.fl ≤ 31 → (g m).fl ≤ 31) (h : okB b = true) : okB (mapB g b) = true := by
  unfold okB mapB at *
  simp only [Bool.and_eq_true] at h ⊢
  refine ⟨h.1, ?_, mailsOk_map hg hf h.2.2⟩
  rw [List.length_map]
  exact h.2.1
theorem findL_map {g : Msg → Msg} (hg : SameBut g) {l : List Msg} {u : Nat} (h : u ∈ uidsM l) : findL (l.map g) u = g (findL l u) := by
  unfold findL
  rw [List.find?_map]
  have e : (fun m : Msg => m.uid == u) ∘ g = fun m => m.uid == u := by
    funext m
    show ((g m).uid == u) = _
    rw [(hg m).1]
  rw [e]
  cases hh : l.find? (fun m => m.uid == u) with
  | some m => rfl
  | none =>
    exfalso
    obtain ⟨m, hm, hu⟩ := List.mem_map.1 h
    have := List.find?_eq_none.1 hh m hm
    simp [hu] at this
theorem findL_mem {l : List Msg} {u : Nat} (h : u ∈ uidsM l) : findL l u ∈ l ∧ (findL l u).uid = u := by
  unfold findL
  cases hh : l.find? (fun m => m.uid == u) with
  | some m =>
    have := List.find?_some hh
    exact ⟨List.mem_of_find?_eq_some hh, by simpa using this⟩
  | none =>
    exfalso
    obtain ⟨m, hm, hu⟩ := List.mem_map.1 h
    have := List.find?_eq_none.1 hh m hm
    simp [hu] at this
theorem markM_but (c : Chg) : SameBut (markM c) := by
  intro m
  unfold markM mkM
  split <;> exact ⟨rfl, rfl, rfl, rfl, rfl⟩
theorem bits_a : ∀ h f : Nat, h ≤ 31 → f ≤ 31 → h ||| f ≤ 31 ∧ (h ||| f) &&& f = f ∧ ((h ||| f) &&& (255 - f)) ≤ 31 ∧ ((h ||| f) &&& (255 - f)) &&& f = 0 := by
  have key : ∀ h f : Fin 32, h.val ||| f.val ≤ 31 ∧ (h.val ||| f.val) &&& f.val = f.val ∧ ((h.val ||| f.val) &&& (255 - f.val)) ≤ 31 ∧ ((h.val ||| f.val) &&& (255 - f.val)) &&& f.val = 0 := by decide +kernel
  intro h f hh hf
  exact key ⟨h, by omega⟩ ⟨f, by omega⟩
theorem bits_b : ∀ h f : Nat, h ≤ 31 → f ≤ 31 → h &&& (255 - f) ≤ 31 := by
  intro h f hh hf
  exact Nat.le_trans Nat.and_le_left hh
def cAdd (u f : Nat) : Chg := ⟨3, [u], f, 0, 0, 0, eB⟩
def cRem (u f : Nat) : Chg := ⟨4, [u], f, 0, 0, 0, eB⟩
theorem okC_one (k u f : Nat) (hk : k = 3 ∨ k = 4) : okC ⟨k, [u], f, 0, 0, 0, eB⟩ = decide (f ≤ 31) := by
  have h1 : chk [u] = 0 := by
    unfold chk
    rw [if_pos (by simp [Go.Proofs.Dct.rises]), if_pos (by simp)]
  unfold okC
  rw [if_neg (by show ¬ k = 1; omega)]
  have e1 : decide (2 ≤ k ∧ k ≤ 6) = true := decide_eq_true (by omega)
  have e2 : decide (k = 6 → ([u] : List Nat).length = 0) = true := decide_eq_true (by omega)
  have e3 : decide (k = 6 ∨ k = 5 → f = 0) = true := decide_eq_true (by omega)
  have e4 : sameT 0 0 0 0 0 0 = true := by decide
  have e5 : decide (eB.size = 0) = true := by decide
  simp only [e1, e2, e3, h1, e4, e5]
  simp
theorem do_one (k u f : Nat) (hk : k = 3 ∨ k = 4) {b : Bx} (hb : okB b = true) (hu : u ∈ uidsM b.ms) (hf : f ≤ 31) : doB b ⟨k, [u], f, 0, 0, 0, eB⟩ = mapB (markM ⟨k, [u], f, 0, 0, 0, eB⟩) b ∧ doE b ⟨k, [u], f, 0, 0, 0, eB⟩ = 0 := by
  have hc : okC ⟨k, [u], f, 0, 0, 0, eB⟩ = true := by rw [okC_one k u f hk, decide_eq_true hf]
  have ha : allIn b ⟨k, [u], f, 0, 0, 0, eB⟩ = true := by unfold allIn; simpa using hu
  constructor
  · unfold doB
    rw [if_pos hb, if_pos hc]
    unfold workB
    rw [if_neg (by show ¬ k = 1; omega), if_neg (by show ¬ k = 5; omega), if_neg (by show ¬ k = 6; omega)]
    unfold markB
    rw [if_pos ha]
    rfl
  · unfold doE
    rw [if_pos hb, if_pos hc]
    unfold workE
    rw [if_neg (by show ¬ k = 1; omega), if_neg (by show ¬ k = 5; omega), if_neg (by show ¬ k = 6; omega)]
    unfold markE
    rw [if_pos ha]
theorem do_none (k u f : Nat) (hk : k = 3 ∨ k = 4) {b : Bx} (hb : okB b = true) (hf : ¬ f ≤ 31) : doB b ⟨k, [u], f, 0, 0, 0, eB⟩ = b ∧ doE b ⟨k, [u], f, 0, 0, 0, eB⟩ = 2 := by
  have hc : ¬ okC ⟨k, [u], f, 0, 0, 0, eB⟩ = true := by rw [okC_one k u f hk, decide_eq_false hf]; simp
  unfold doB doE
  rw [if_pos hb, if_neg hc, if_pos hb, if_neg hc]
  exact ⟨rfl, rfl⟩
/-- Flags that are added, and removed, are as they are told. -/
theorem places_yes {b : Bx} {u f : Nat} (hb : okB b = true) (hu : u ∈ uidsM b.ms) (hf : f ≤ 31) :
    doE b (cAdd u f) = 0 ∧ doE (doB b (cAdd u f)) (cRem u f) = 0 ∧ okB (doB b (cAdd u f)) = true ∧ whyB (doB b (cAdd u f)) u = 0 ∧ whyB (doB (doB b (cAdd u f)) (cRem u f)) u = 0 ∧
      (findB (doB b (cAdd u f)) u).fl &&& f = f ∧ (findB (doB (doB b (cAdd u f)) (cRem u f)) u).fl &&& f = 0 ∧ (findB (doB (doB b (cAdd u f)) (cRem u f)) u).raw = (findB (doB b (cAdd u f)) u).raw ∧ (findB (doB b (cAdd u f)) u).fl ≤ 31 ∧ (findB (doB (doB b (cAdd u f)) (cRem u f)) u).fl ≤ 31 := by
  obtain ⟨d1, d2⟩ := do_one 3 u f (Or.inl rfl) hb hu hf
  have hA := markM_but (cAdd u f)
  have hR := markM_but (cRem u f)
  have fA : ∀ m ∈ b.ms, m.fl ≤ 31 → (markM (cAdd u f) m).fl ≤ 31 := by
    intro m _ hm
    unfold markM
    split
    · exact (bits_a m.fl f hm hf).1
    · exact hm
  have ok1 := okB_map hA fA hb
  have hu1 : u ∈ uidsM (mapB (markM (cAdd u f)) b).ms := by show u ∈ uidsM (b.ms.map _); rw [uidsM_map hA]; exact hu
  obtain ⟨d3, d4⟩ := do_one 4 u f (Or.inr rfl) ok1 hu1 hf
  have fR : ∀ m ∈ (mapB (markM (cAdd u f)) b).ms, m.fl ≤ 31 → (markM (cRem u f) m).fl ≤ 31 := by
    intro m _ hm
    unfold markM
    split
    · exact bits_b m.fl f hm hf
    · exact hm
  have ok2 := okB_map hR fR ok1
  have hu2 : u ∈ uidsM (mapB (markM (cRem u f)) (mapB (markM (cAdd u f)) b)).ms := by show u ∈ uidsM (List.map _ _); rw [uidsM_map hR]; exact hu1
  have e1 : doB b (cAdd u f) = mapB (markM (cAdd u f)) b := d1
  have e2 : doB (mapB (markM (cAdd u f)) b) (cRem u f) = mapB (markM (cRem u f)) (mapB (markM (cAdd u f)) b) := d3
  rw [e1, e2]
  obtain ⟨hm1, hm2⟩ := findL_mem hu
  have hfine := ((mailsOk_all (okB_mails hb)).1 _ hm1).2.2.1
  have f1 : findB (mapB (markM (cAdd u f)) b) u = mkM (cAdd u f) (findL b.ms u) := by
    unfold findB
    rw [if_pos ok1]
    show findL (b.ms.map _) u = _
    rw [findL_map hA hu]
    unfold markM
    rw [if_pos (by rw [hm2]; show u ∈ [u]; simp)]
  have f2 : findB (mapB (markM (cRem u f)) (mapB (markM (cAdd u f)) b)) u = mkM (cRem u f) (mkM (cAdd u f) (findL b.ms u)) := by
    unfold findB
    rw [if_pos ok2]
    show findL ((mapB (markM (cAdd u f)) b).ms.map _) u = _
    rw [findL_map hR hu1]
    have : findL (mapB (markM (cAdd u f)) b).ms u = mkM (cAdd u f) (findL b.ms u) := by
      have := f1; unfold findB at this; rw [if_pos ok1] at this; exact this
    rw [this]
    unfold markM
    rw [if_pos (by show (findL b.ms u).uid ∈ [u]; rw [hm2]; simp)]
  rw [f1, f2]
  have w1 : whyB (mapB (markM (cAdd u f)) b) u = 0 := by unfold whyB; rw [if_pos ok1, if_pos hu1]
  have w2 : whyB (mapB (markM (cRem u f)) (mapB (markM (cAdd u f)) b)) u = 0 := by unfold whyB; rw [if_pos ok2, if_pos hu2]
  have hb4 := bits_a (findL b.ms u).fl f hfine hf
  exact ⟨d2, d4, ok1, w1, w2, hb4.2.1, hb4.2.2.2, rfl, hb4.1, hb4.2.2.1⟩
theorem mapB_fit {g : Msg → Msg} {b : Bx} (h : FitB b) : FitB (mapB g b) := h
theorem doB_fit1 (k u f : Nat) (hk : k = 3 ∨ k = 4) {b : Bx} (h : FitB b) : FitB (doB b ⟨k, [u], f, 0, 0, 0, eB⟩) := by
  unfold doB
  split
  · split
    · unfold workB markB
      rw [if_neg (by show ¬ k = 1; omega), if_neg (by show ¬ k = 5; omega), if_neg (by show ¬ k = 6; omega)]
      split
      · exact h
      · exact h
    · exact h
  · exact ⟨by decide, by decide, by decide, by decide⟩
end Go.Proofs.YthpjogfclklefaaDoor

/-
  A change of some mails leaves all others as they were (plain mathematics).
-/
set_option linter.unusedVariables false
set_option linter.unusedSimpArgs false
namespace Go.Proofs.YthpjogfclklefaaDoor
open Go.RowKit

theorem mailsOk_mono {nx : Nat} : ∀ {le le' : Nat} {l : List Msg}, le' ≤ le → mailsOk nx le l = true → mailsOk nx le' l = true
  | _, _, [], _, _ => rfl
  | le, le', m :: r, hle, h => by
    simp only [mailsOk, Bool.and_eq_true, decide_eq_true_eq] at h ⊢
    exact ⟨⟨⟨by omega, h.1.1.2⟩, h.1.2⟩, h.2⟩
theorem mailsOk_filter (p : Msg → Bool) {nx : Nat} : ∀ {le : Nat} {l : List Msg}, mailsOk nx le l = true → mailsOk nx le (l.filter p) = true
  | _, [], _ => rfl
  | le, m :: r, h => by
    have h0 := h
    simp only [mailsOk, Bool.and_eq_true, decide_eq_true_eq] at h
    have ih := mailsOk_filter p h.2
    by_cases hp : p m = true
    · rw [List.filter_cons_of_pos hp]
      simp only [mailsOk, Bool.and_eq_true, decide_eq_true_eq]
      exact ⟨h.1, ih⟩
    · rw [List.filter_cons_of_neg hp]
      exact mailsOk_mono (by omega) ih
/-- The box behind a change of some mails. -/
theorem apart_box {b : Bx} {c : Chg} (he : doE b c = 0) (h1 : c.kd ≠ 1) :
    okB b = true ∧ okC c = true ∧ okB (doB b c) = true ∧ (doB b c).nx = b.nx ∧ (∀ n ∈ doT b c, n ∈ c.us) ∧ ∀ u, u ∉ c.us → findB (doB b c) u = findB b u ∧ whyB (doB b c) u = whyB b u := by
  have hb : okB b = true := by
    cases h : okB b with
    | true => rfl
    | false => unfold doE at he; rw [h] at he; simp at he
  have hc : okC c = true := by
    cases h : okC c with
    | true => rfl
    | false => unfold doE at he; rw [hb, h] at he; simp at he
  have eE : doE b c = workE b c := by unfold doE; rw [if_pos hb, if_pos hc]
  have eB' : doB b c = workB b c := by unfold doB; rw [if_pos hb, if_pos hc]
  have eT : doT b c = workT b c := by unfold doT; rw [if_pos hb, if_pos hc]
  rw [eB', eT]
  rw [eE] at he
  refine ⟨hb, hc, ?_⟩
  have hkey : ∀ (X : Bx), okB X = true → X.nx = b.nx → (∀ u, u ∉ c.us → (u ∈ uidsM X.ms ↔ u ∈ uidsM b.ms) ∧ findL X.ms u = findL b.ms u) → okB X = true ∧ X.nx = b.nx ∧ ∀ u, u ∉ c.us → findB X u = findB b u ∧ whyB X u = whyB b u := by
    intro X hX hx hu
    refine ⟨hX, hx, fun u hn => ?_⟩
    obtain ⟨q1, q2⟩ := hu u hn
    unfold findB whyB
    rw [if_pos hX, if_pos hb, if_pos hX, if_pos hb, q2]
    refine ⟨rfl, ?_⟩
    by_cases hin : u ∈ uidsM b.ms
    · rw [if_pos hin, if_pos (q1.2 hin)]
    · rw [if_neg hin, if_neg (fun h => hin (q1.1 h))]
  by_cases h5 : c.kd = 5
  · have e1 : workB b c = ⟨b.va, b.nx, b.mr, b.la, stayL c.us b.ms⟩ := by unfold workB; rw [if_neg h1, if_pos h5]
    have e2 : workT b c = goneL c.us b.ms := by unfold workT; rw [if_neg h1, if_pos h5]
    rw [e1, e2]
    have hok : okB ⟨b.va, b.nx, b.mr, b.la, stayL c.us b.ms⟩ = true := by
      have h := hb
      unfold okB at h ⊢
      simp only [Bool.and_eq_true, decide_eq_true_eq] at h ⊢
      exact ⟨h.1, by have := stayL_len c.us b.ms; omega, mailsOk_filter _ h.2.2⟩
    obtain ⟨k1, k2, k3⟩ := hkey _ hok rfl (fun u hn => by
      constructor
      · unfold uidsM stayL
        constructor
        · intro h
          obtain ⟨m, hm, hu⟩ := List.mem_map.1 h
          exact List.mem_map.2 ⟨m, (List.mem_filter.1 hm).1, hu⟩
        · intro h
          obtain ⟨m, hm, hu⟩ := List.mem_map.1 h
          refine List.mem_map.2 ⟨m, List.mem_filter.2 ⟨hm, ?_⟩, hu⟩
          unfold goneP
          rw [hu, decide_eq_false hn]
          rfl
      · unfold findL stayL
        rw [List.find?_filter]
        congr 2
        funext m
        cases hmu : (m.uid == u) with
        | false => simp
        | true =>
          have : m.uid = u := by simpa using hmu
          unfold goneP
          rw [this, decide_eq_false hn]
          simp)
    refine ⟨k1, k2, fun n hn => ?_, k3⟩
    unfold goneL uidsM at hn
    obtain ⟨m, hm, rfl⟩ := List.mem_map.1 hn
    have := (List.mem_filter.1 hm).2
    unfold goneP at this
    simp only [Bool.and_eq_true, decide_eq_true_eq] at this
    exact this.1
  · by_cases h6 : c.kd = 6
    · have e1 : workB b c = ⟨b.va, b.nx, b.la, b.nx - 1, b.ms⟩ := by unfold workB; rw [if_neg h1, if_neg h5, if_pos h6]
      have e2 : workT b c = [] := by unfold workT; rw [if_neg h1, if_neg h5, if_pos h6]
      rw [e1, e2]
      have hok : okB ⟨b.va, b.nx, b.la, b.nx - 1, b.ms⟩ = true := by
        have h := hb
        unfold okB at h ⊢
        simp only [Bool.and_eq_true, decide_eq_true_eq] at h ⊢
        exact ⟨by omega, h.2⟩
      obtain ⟨k1, k2, k3⟩ := hkey _ hok rfl (fun u hn => ⟨Iff.rfl, rfl⟩)
      exact ⟨k1, k2, (fun n hn => by cases hn), k3⟩
    · have hall : allIn b c = true := by
        cases h : allIn b c with
        | true => rfl
        | false => unfold workE markE at he; rw [if_neg h1, if_neg h5, if_neg h6, h] at he; simp at he
      have e1 : workB b c = mapB (markM c) b := by unfold workB markB; rw [if_neg h1, if_neg h5, if_neg h6, if_pos hall]; rfl
      have e2 : workT b c = c.us := by unfold workT markT; rw [if_neg h1, if_neg h5, if_neg h6, if_pos hall]
      rw [e1, e2]
      have hA := markM_but c
      have hcf : c.fl ≤ 31 := by
        unfold okC at hc
        rw [if_neg h1] at hc
        simp only [Bool.and_eq_true, decide_eq_true_eq] at hc
        exact hc.2.2.2.2.1
      have hok : okB (mapB (markM c) b) = true := okB_map hA (fun m _ hm => by
        unfold markM
        split
        · show markF c.kd m.fl c.fl ≤ 31
          unfold markF
          split
          · exact (bits_a m.fl c.fl hm hcf).1
          · split
            · exact bits_b m.fl c.fl hm hcf
            · exact hcf
        · exact hm) hb
      obtain ⟨k1, k2, k3⟩ := hkey _ hok rfl (fun u hn => by
        have hu := uidsM_map hA b.ms
        constructor
        · show u ∈ uidsM (b.ms.map (markM c)) ↔ _
          rw [hu]
        · show findL (b.ms.map (markM c)) u = _
          by_cases hin : u ∈ uidsM b.ms
          · rw [findL_map hA hin]
            unfold markM
            rw [if_neg (by rw [(findL_mem hin).2]; exact hn)]
          · rw [findL_none hin, findL_none (by rw [hu]; exact hin)])
      exact ⟨k1, k2, fun n hn => hn, k3⟩
theorem doB_fit {b : Bx} {c : Chg} (h : FitB b) : FitB (doB b c) := by
  unfold doB
  by_cases hb : okB b = true
  · rw [if_pos hb]
    by_cases hc : okC c = true
    · rw [if_pos hc]
      have hh := okB_head hb
      unfold workB
      split
      · unfold putB
        split
        · exact h
        · exact ⟨h.1, by show b.nx + 1 ≤ _; omega, h.2.2⟩
      · split
        · exact h
        · split
          · exact ⟨h.1, h.2.1, h.2.2.2, by show b.nx - 1 ≤ _; omega⟩
          · unfold markB
            split <;> exact h
    · rw [if_neg hc]; exact h
  · rw [if_neg hb]
    exact ⟨by decide, by decide, by decide, by decide⟩
end Go.Proofs.YthpjogfclklefaaDoor

/-
  Two mails that are one, compared; over this seat's program.
-/
set_option linter.unusedVariables false
set_option linter.unusedSimpArgs false
namespace Go.Proofs.YthpjogfclklefaaDoor
open Go.RowKit
theorem held_msg : Tryd.prog.stoodInHeld 47 = false := by kernel_rfl
theorem fields_msg : Tryd.prog.underlying 47 = some (.struct (Tryd.prog.fieldsOf 47)) := by
  unfold Program.fieldsOf; rw [Tryd.underlying47]
set_option maxHeartbeats 2000000 in
set_option maxRecDepth 100000 in
theorem neqM_same (u f : Int) (d s z : Int) (raw : ByteArray) (W : World) :
    (binOp .neq 47 (.agg #[.int .u32 u, .int .u8 f, .int .i64 d, .int .i64 s, .int .i64 z, .string raw]) (.agg #[.int .u32 u, .int .u8 f, .int .i64 d, .int .i64 s, .int .i64 z, .string raw])).run Tryd.prog W = .ok (.bool false) W := by
  have q : ∀ (k : Nat) (W : World), (Op.equalIn (k + 1 + 1) 31 (.agg #[.int .i64 d, .int .i64 s, .int .i64 z]) (.agg #[.int .i64 d, .int .i64 s, .int .i64 z])).run Tryd.prog W = .ok true W := by
    intro k W
    rw [run_equalIn_struct W (k + 1) _ _ _ fields_time held_time]
    simp only [Program.fieldsOf, Tryd.underlying31]
    have b1 : (d == d) = true := by simp
    have b2 : (s == s) = true := by simp
    have b3 : (z == z) = true := by simp
    go_simp
  rw [run_neq_struct, run_equalIn_struct W 9999 _ _ _ fields_msg held_msg]
  simp only [Program.fieldsOf, Tryd.underlying47]
  have b1 : (u == u) = true := by simp
  have b2 : (f == f) = true := by simp
  have b3 : (raw.toList == raw.toList) = true := by simp
  have q2 := q 9997
  go_simp
end Go.Proofs.YthpjogfclklefaaDoor

/-
  What missivelaw19.BoxAsks does, over this seat's program: it answers true.
-/
set_option linter.unusedVariables false
set_option linter.unusedSimpArgs false
namespace Go.Proofs.YthpjogfclklefaaDoor
open Go.RowKit

set_option maxHeartbeats 2000000 in
set_option maxRecDepth 100000 in
theorem eqlM_same (u f : Int) (d s z : Int) (raw : ByteArray) (W : World) :
    (binOp .eql 47 (.agg #[.int .u32 u, .int .u8 f, .int .i64 d, .int .i64 s, .int .i64 z, .string raw]) (.agg #[.int .u32 u, .int .u8 f, .int .i64 d, .int .i64 s, .int .i64 z, .string raw])).run Tryd.prog W = .ok (.bool true) W := by
  have q : ∀ (k : Nat) (W : World), (Op.equalIn (k + 1 + 1) 31 (.agg #[.int .i64 d, .int .i64 s, .int .i64 z]) (.agg #[.int .i64 d, .int .i64 s, .int .i64 z])).run Tryd.prog W = .ok true W := by
    intro k W
    rw [run_equalIn_struct W (k + 1) _ _ _ fields_time held_time]
    simp only [Program.fieldsOf, Tryd.underlying31]
    have b1 : (d == d) = true := by simp
    have b2 : (s == s) = true := by simp
    have b3 : (z == z) = true := by simp
    go_simp
  rw [run_eql_struct, run_equalIn_struct W 9999 _ _ _ fields_msg held_msg]
  simp only [Program.fieldsOf, Tryd.underlying47]
  have b1 : (u == u) = true := by simp
  have b2 : (f == f) = true := by simp
  have b3 : (raw.toList == raw.toList) = true := by simp
  have q2 := q 9997
  go_simp

set_option maxHeartbeats 4000000 in
set_option maxRecDepth 100000 in
theorem boxAsks_walk (b : Bx) (v : Value) (u : Nat) (w : World) (ht : LTab w) (h : RowM w v b.ms) (hf : FitB b) (hu : u ≤ 4294967295) :
    Calls Tryd.prog 4 #[bxV b v, .int .u32 (u : Int)] w fun e w' => e = .returned (.bool true) ∧ Below w.heap.size w w' := by
  have C1 := hide (fun X (hX : LTab X) (hR : RowM X v b.ms) => bfind_any b v u X hX hR hf hu)
  have C2 := hide (fun X (hR : RowM X v b.ms) => refBFind_any b v u X hR hf hu)
  have C3 := hide (fun X (hX : LTab X) (hR : RowM X v b.ms) => uids_any b v X hX hR hf)
  have C4 := hide (fun X (hR : RowM X v b.ms) => refBUids_any b v X hR hf)
  have C5 := hide (fun X (hX : LTab X) (hR : RowM X v b.ms) => place_any b v u X hX hR hf hu)
  have C6 := hide (fun X (hR : RowM X v b.ms) => refBPlace_any b v u X hR hf hu)
  have C7 := hide (fun X (hX : LTab X) (hR : RowM X v b.ms) => recent_any b v X hX hR hf)
  have C8 := hide (fun X (hR : RowM X v b.ms) => refBRecent_any b v X hR hf)
  have HL := hide (fun X (hX : LTab X) => livesB_any X hX)
  obtain ⟨a, cap, rfl, hl, _, _⟩ := id h
  have hA := (Below.refl _ w).alloc (Nat.le_refl _) (Obj.cells (bxC b (.slice a b.ms.length cap)) 26)
  have HA := hide hA
  have HR0 := hide (h.below hA)
  have HT0 := hide (ht.below hA)
  have KB := hide (Blk.new w 26 (bxC b (.slice a b.ms.length cap)))
  clear h ht hA hf
  generalize chkB b = C at C3 C4 C7 C8
  generalize placeB b u = P at C5 C6
  generalize whyB b u = Y at C1 C2 C5 C6
  generalize aboveB 0 b = L at C3 C4
  generalize aboveB b.mr b = R at C7 C8
  generalize findB b u = M at C1 C2
  obtain ⟨mu, mf, md, msc, mz, mraw⟩ := M
  have q1 := eqlM_same (mu : Int) (mf : Int) md msc mz mraw
  simp only [msV] at C1 C2
  obtain ⟨va, nx, mr, la, ms⟩ := b
  simp only [bxV, bxC] at *
  generalize ms.length = n at *
  go_enter Tryd.func4, Tryd.ntmps4
  go_upto_region 1 with (fail)
  generalize w.alloc (.cells #[.int .u32 (va : Int), .int .u64 (nx : Int), .int .u32 (mr : Int), .int .u32 (la : Int), .slice a n cap] 26) = w0 at HA HR0 HT0 KB ⊢
  have H0 := hide (Below.refl w0.heap.size w0)
  have c0 := ((unhide KB).below (unhide H0)).cell 0
  have c1 := ((unhide KB).below (unhide H0)).cell 1
  have c2 := ((unhide KB).below (unhide H0)).cell 2
  have c3 := ((unhide KB).below (unhide H0)).cell 3
  have c4 := ((unhide KB).below (unhide H0)).cell 4
  simp only [List.getElem?_toArray, List.getElem?_cons_succ, List.getElem?_cons_zero] at c0 c1 c2 c3 c4
  go_wp2_with fail
  refine (unhide C1 _ ((unhide HT0).below (unhide H0)) ((unhide HR0).below (unhide H0))).mono ?_
  rintro e w1 ⟨rfl, b1⟩
  have H1 := hide (belows' (unhide H0) b1)
  clear c0 c1 c2 c3 c4
  clear b1
  go_upto_region 2 with (fail)
  have K5 := hide (Blk.new w1 47 #[.int .u32 (mu : Int), .int .u8 (mf : Int), .int .i64 md, .int .i64 msc, .int .i64 mz, .string mraw])
  have H1a := hide (belows' (unhide H1) ((Below.refl _ w1).alloc (Nat.le_refl _) (Obj.cells #[.int .u32 (mu : Int), .int .u8 (mf : Int), .int .i64 md, .int .i64 msc, .int .i64 mz, .string mraw] 47)))
  have hz1 : w1.heap.size = w1.heap.size := rfl
  generalize w1.alloc (.cells #[.int .u32 (mu : Int), .int .u8 (mf : Int), .int .i64 md, .int .i64 msc, .int .i64 mz, .string mraw] 47) = x1 at K5 H1a ⊢
  have c0 := ((unhide KB).below (unhide H1a)).cell 0
  have c1 := ((unhide KB).below (unhide H1a)).cell 1
  have c2 := ((unhide KB).below (unhide H1a)).cell 2
  have c3 := ((unhide KB).below (unhide H1a)).cell 3
  have c4 := ((unhide KB).below (unhide H1a)).cell 4
  simp only [List.getElem?_toArray, List.getElem?_cons_succ, List.getElem?_cons_zero] at c0 c1 c2 c3 c4
  go_wp2_with fail
  refine (unhide C2 _ ((unhide HR0).below (unhide H1a))).mono ?_
  rintro e w2 ⟨rfl, b2⟩
  have H2 := hide (belows' (unhide H1a) b2)
  clear c0 c1 c2 c3 c4
  have K5b := hide ((unhide K5).below b2)
  clear b2
  go_upto_region 3 with (fail)
  have K7 := hide (Blk.new w2 47 #[.int .u32 (mu : Int), .int .u8 (mf : Int), .int .i64 md, .int .i64 msc, .int .i64 mz, .string mraw])
  have hA2 := (Below.refl _ w2).alloc (Nat.le_refl _) (Obj.cells #[.int .u32 (mu : Int), .int .u8 (mf : Int), .int .i64 md, .int .i64 msc, .int .i64 mz, .string mraw] 47)
  have K5c := hide ((unhide K5b).below hA2)
  have H2a := hide (belows' (unhide H2) hA2)
  clear hA2
  generalize w2.alloc (.cells #[.int .u32 (mu : Int), .int .u8 (mf : Int), .int .i64 md, .int .i64 msc, .int .i64 mz, .string mraw] 47) = x2 at K7 H2a K5c ⊢
  have X2 := hide (Below.refl x2.heap.size x2)
  have c0 := ((unhide KB).below (unhide H2a)).cell 0
  have c1 := ((unhide KB).below (unhide H2a)).cell 1
  have c2 := ((unhide KB).below (unhide H2a)).cell 2
  have c3 := ((unhide KB).below (unhide H2a)).cell 3
  have c4 := ((unhide KB).below (unhide H2a)).cell 4
  simp only [List.getElem?_toArray, List.getElem?_cons_succ, List.getElem?_cons_zero] at c0 c1 c2 c3 c4
  go_wp2_with fail
  refine (unhide C3 _ ((unhide HT0).below (unhide H2a)) ((unhide HR0).below (unhide H2a))).mono ?_
  rintro e w3 ⟨⟨v3, rfl, o3⟩, b3⟩
  have H3 := hide (belows' (unhide H2a) b3)
  clear c0 c1 c2 c3 c4
  have X3 := hide b3
  have O3 := hide o3.row
  clear b3 o3
  have c0 := ((unhide KB).below (unhide H3)).cell 0
  have c1 := ((unhide KB).below (unhide H3)).cell 1
  have c2 := ((unhide KB).below (unhide H3)).cell 2
  have c3 := ((unhide KB).below (unhide H3)).cell 3
  have c4 := ((unhide KB).below (unhide H3)).cell 4
  simp only [List.getElem?_toArray, List.getElem?_cons_succ, List.getElem?_cons_zero] at c0 c1 c2 c3 c4
  go_wp2_with fail
  refine (unhide C4 _ ((unhide HR0).below (unhide H3))).mono ?_
  rintro e w4 ⟨⟨v4, rfl, o4⟩, b4⟩
  have H4 := hide (belows' (unhide H3) b4)
  clear c0 c1 c2 c3 c4
  have X4 := hide (belows' (unhide X3) b4)
  have O3b := hide ((unhide O3).below b4)
  have O4 := hide o4.row
  clear b4 o4 O3
  have c0 := ((unhide KB).below (unhide H4)).cell 0
  have c1 := ((unhide KB).below (unhide H4)).cell 1
  have c2 := ((unhide KB).below (unhide H4)).cell 2
  have c3 := ((unhide KB).below (unhide H4)).cell 3
  have c4 := ((unhide KB).below (unhide H4)).cell 4
  simp only [List.getElem?_toArray, List.getElem?_cons_succ, List.getElem?_cons_zero] at c0 c1 c2 c3 c4
  go_wp2_with fail
  refine (unhide C5 _ ((unhide HT0).below (unhide H4)) ((unhide HR0).below (unhide H4))).mono ?_
  rintro e w5 ⟨rfl, b5⟩
  have H5 := hide (belows' (unhide H4) b5)
  clear c0 c1 c2 c3 c4
  have X5 := hide (belows' (unhide X4) b5)
  have Q3 := hide (fun X (hX : Below w4.heap.size w4 X) => (⟨(unhide O3b).below hX, (unhide O4).below hX⟩ : Row32 X v3 L ∧ Row32 X v4 L))
  have Z5 := hide b5
  clear b5
  have c0 := ((unhide KB).below (unhide H5)).cell 0
  have c1 := ((unhide KB).below (unhide H5)).cell 1
  have c2 := ((unhide KB).below (unhide H5)).cell 2
  have c3 := ((unhide KB).below (unhide H5)).cell 3
  have c4 := ((unhide KB).below (unhide H5)).cell 4
  simp only [List.getElem?_toArray, List.getElem?_cons_succ, List.getElem?_cons_zero] at c0 c1 c2 c3 c4
  go_wp2_with fail
  refine (unhide C6 _ ((unhide HR0).below (unhide H5))).mono ?_
  rintro e w6 ⟨rfl, b6⟩
  have H6 := hide (belows' (unhide H5) b6)
  clear c0 c1 c2 c3 c4
  have X6 := hide (belows' (unhide X5) b6)
  have Z6 := hide (belows' (unhide Z5) b6)
  clear b6
  have c0 := ((unhide KB).below (unhide H6)).cell 0
  have c1 := ((unhide KB).below (unhide H6)).cell 1
  have c2 := ((unhide KB).below (unhide H6)).cell 2
  have c3 := ((unhide KB).below (unhide H6)).cell 3
  have c4 := ((unhide KB).below (unhide H6)).cell 4
  simp only [List.getElem?_toArray, List.getElem?_cons_succ, List.getElem?_cons_zero] at c0 c1 c2 c3 c4
  go_wp2_with fail
  refine (unhide C7 _ ((unhide HT0).below (unhide H6)) ((unhide HR0).below (unhide H6))).mono ?_
  rintro e w7 ⟨⟨v7, rfl, o7⟩, b7⟩
  have H7 := hide (belows' (unhide H6) b7)
  clear c0 c1 c2 c3 c4
  have X7 := hide (belows' (unhide X6) b7)
  have Z7 := hide (belows' (unhide Z6) b7)
  have O7 := hide o7.row
  clear b7 o7
  have c0 := ((unhide KB).below (unhide H7)).cell 0
  have c1 := ((unhide KB).below (unhide H7)).cell 1
  have c2 := ((unhide KB).below (unhide H7)).cell 2
  have c3 := ((unhide KB).below (unhide H7)).cell 3
  have c4 := ((unhide KB).below (unhide H7)).cell 4
  simp only [List.getElem?_toArray, List.getElem?_cons_succ, List.getElem?_cons_zero] at c0 c1 c2 c3 c4
  go_wp2_with fail
  refine (unhide C8 _ ((unhide HR0).below (unhide H7))).mono ?_
  rintro e w8 ⟨⟨v8, rfl, o8⟩, b8⟩
  have H8 := hide (belows' (unhide H7) b8)
  clear c0 c1 c2 c3 c4
  have X8 := hide (belows' (unhide X7) b8)
  have Z8 := hide (belows' (unhide Z7) b8)
  have O7b := hide ((unhide O7).below b8)
  have O8 := hide o8.row
  clear b8 o8 O7
  go_wp2_with fail
  refine (unhide HL _ ((unhide HT0).below (unhide H8))).mono ?_
  rintro e w9 ⟨rfl, b9⟩
  have H9 := hide (belows' (unhide H8) b9)
  have X9 := hide (belows' (unhide X8) b9)
  have Z9 := hide (belows' (unhide Z8) b9)
  have O7c := hide ((unhide O7b).below b9)
  have O8c := hide ((unhide O8).below b9)
  clear b9 O7b O8
  have p0 := ((unhide K5c).below (unhide X9)).cell 0
  have r0 := ((unhide K7).below (unhide X9)).cell 0
  have p1 := ((unhide K5c).below (unhide X9)).cell 1
  have r1 := ((unhide K7).below (unhide X9)).cell 1
  have p2 := ((unhide K5c).below (unhide X9)).cell 2
  have r2 := ((unhide K7).below (unhide X9)).cell 2
  have p3 := ((unhide K5c).below (unhide X9)).cell 3
  have r3 := ((unhide K7).below (unhide X9)).cell 3
  have p4 := ((unhide K5c).below (unhide X9)).cell 4
  have r4 := ((unhide K7).below (unhide X9)).cell 4
  have p5 := ((unhide K5c).below (unhide X9)).cell 5
  have r5 := ((unhide K7).below (unhide X9)).cell 5
  simp only [List.getElem?_toArray, List.getElem?_cons_succ, List.getElem?_cons_zero] at p0 p1 p2 p3 p4 p5 r0 r1 r2 r3 r4 r5
  have HS1 := hide (same32_any v3 v4 L L w9 (unhide Q3 w9 (unhide Z9)).1 (unhide Q3 w9 (unhide Z9)).2)
  rw [decide_eq_true rfl] at HS1
  go_wp2_with fail
  refine (unhide HS1).mono ?_
  rintro e w10 ⟨rfl, b10⟩
  have H10 := hide (belows' (unhide H9) b10)
  have HS2 := hide (same32_any v7 v8 R R w10 ((unhide O7c).below b10) ((unhide O8c).below b10))
  rw [decide_eq_true rfl] at HS2
  clear b10 p0 p1 p2 p3 p4 p5 r0 r1 r2 r3 r4 r5 HS1
  go_wp2_with fail
  refine (unhide HS2).mono ?_
  rintro e w11 ⟨rfl, b11⟩
  have H11 := hide (belows' (unhide HA) (belows' (unhide H10) b11))
  clear b11 HS2
  go_wp2
  go_ret
  exact ⟨rfl, unhide H11⟩
end Go.Proofs.YthpjogfclklefaaDoor
