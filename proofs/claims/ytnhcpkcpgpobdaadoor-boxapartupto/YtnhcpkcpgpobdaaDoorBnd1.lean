/-
  What missivelaw19.lives does, over this seat's program: it answers true.
-/
import Derived.BigQuiet
set_option linter.unusedVariables false
set_option linter.unusedSimpArgs false
namespace Go.Proofs.YtnhcpkcpgpobdaaDoor
open Go.RowKit

theorem blk_two {w : World} {P Q t u : Nat} {cs ds : Array Value} (h : Blk w P t cs) (h' : Blk w Q u ds) (hne : t ≠ u) : P ≠ Q := by
  intro e
  subst e
  unfold Blk at *
  rw [h] at h'
  injection h' with h'
  injection h' with _ h2 _
  exact hne h2
theorem OutM.below {w w' : World} {v : Value} {l : List Msg} (h : OutM w v l) (hb : Below w.heap.size w w') : OutM w' v l := ⟨own_below h.1 hb, h.2⟩
theorem OutT.below {w w' : World} {v : Value} {l : List Nat} (h : OutT w v l) (hb : Below w.heap.size w w') : OutT w' v l := ⟨own_below h.1 hb, h.2⟩

set_option maxHeartbeats 8000000 in
set_option maxRecDepth 100000 in
theorem livesB_any (w : World) (ht : LTab w) : Calls Tryd.prog 13 #[] w fun e w' => e = .returned (.bool true) ∧ Below w.heap.size w w' := by
  have HT := hide (fun X (hX : Below w.heap.size w X) => ht.below hX)
  clear ht
  go_enter Tryd.func13, Tryd.ntmps13
  go_wp2_with fail
  refine (liveM9 _).mono ?_
  rintro e x0 ⟨rfl, b0⟩
  go_upto_region 2 with (fail)
  have hA : Below x0.heap.size x0 (x0.alloc (.cells #[.int .u32 9, .int .u64 1, .int .u32 0, .int .u32 0, .slice none 0 0] 26)) := (Below.refl _ x0).alloc (Nat.le_refl _) _
  have K := hide (Blk.new x0 26 #[.int .u32 9, .int .u64 1, .int .u32 0, .int .u32 0, .slice none 0 0])
  have BW := hide (belows' b0 hA)
  have hwB : w.heap.size ≤ x0.heap.size := b0.size
  generalize hV : x0.alloc (.cells #[.int .u32 9, .int .u64 1, .int .u32 0, .int .u32 0, .slice none 0 0] 26) = V1 at K BW hA ⊢
  generalize x0.heap.size = B1 at K hwB ⊢
  have OM := hide (OutM.nil V1)
  clear b0 hA hV
  have c0 := (unhide K).cell 0
  have c1 := (unhide K).cell 1
  have c2 := (unhide K).cell 2
  have c3 := (unhide K).cell 3
  have c4 := (unhide K).cell 4
  simp only [List.getElem?_toArray, List.getElem?_cons_succ, List.getElem?_cons_zero] at c0 c1 c2 c3 c4
  have f0 := (unhide K).frozen 0
  have f1 := (unhide K).frozen 1
  have f2 := (unhide K).frozen 2
  have f3 := (unhide K).frozen 3
  have f4 := (unhide K).frozen 4
  have K2 := K
  have BW2 := BW
  have OM2 := OM
  go_wp2_with fail
  refine (live1 _ _ (unhide HT _ (unhide BW2)) (unhide OM2)).mono ?_
  rintro e x1 ⟨⟨a1, p1, b1, q1, rfl, h1, h2⟩, hb⟩
  have K3 := hide ((unhide K2).below hb)
  have BW3 := hide (belows' (unhide BW2) hb)
  have OM3 := hide h1
  have T1 := hide h2
  clear h1 h2 hb K K2 BW BW2 OM OM2 c0 c1 c2 c3 c4 
  clear f0 f1 f2 f3 f4
  have r0 := (unhide K3).cell 0
  have r1 := (unhide K3).cell 1
  have r2 := (unhide K3).cell 2
  have r3 := (unhide K3).cell 3
  have r4 := (unhide K3).cell 4
  have f0 := (unhide K3).frozen 0
  have f1 := (unhide K3).frozen 1
  have f2 := (unhide K3).frozen 2
  have f3 := (unhide K3).frozen 3
  have f4 := (unhide K3).frozen 4
  simp only [List.getElem?_toArray, List.getElem?_cons_succ, List.getElem?_cons_zero] at r0 r1 r2 r3 r4
  go_upto_region 3 with (fail)
  have K := hide (blk_five (unhide K3) (.int .u32 9) (.int .u64 2) (.int .u32 0) (.int .u32 0) (.slice a1 1 p1))
  have OM := hide (outM5 (unhide OM3) (unhide K3) (by decide) (.int .u32 9) (.int .u64 2) (.int .u32 0) (.int .u32 0) (.slice a1 1 p1))
  have BW := hide (below5 (s := B1) (unhide BW3) (by omega) (.int .u32 9) (.int .u64 2) (.int .u32 0) (.int .u32 0) (.slice a1 1 p1))
  have T1 := hide (outT5 (unhide T1) (unhide K3) (by decide) (.int .u32 9) (.int .u64 2) (.int .u32 0) (.int .u32 0) (.slice a1 1 p1))
  clear K3 OM3 BW3 r0 r1 r2 r3 r4 f0 f1 f2 f3 f4
  generalize (((((x1.setCell ⟨B1, 0, none⟩ (.int .u32 9)).setCell ⟨B1, 1, none⟩ (.int .u64 2)).setCell ⟨B1, 2, none⟩ (.int .u32 0)).setCell ⟨B1, 3, none⟩ (.int .u32 0)).setCell ⟨B1, 4, none⟩ (.slice a1 1 p1)) = V2 at K OM BW T1 ⊢
  have c0 := (unhide K).cell 0
  have c1 := (unhide K).cell 1
  have c2 := (unhide K).cell 2
  have c3 := (unhide K).cell 3
  have c4 := (unhide K).cell 4
  simp only [List.getElem?_toArray, List.getElem?_cons_succ, List.getElem?_cons_zero] at c0 c1 c2 c3 c4
  have f0 := (unhide K).frozen 0
  have f1 := (unhide K).frozen 1
  have f2 := (unhide K).frozen 2
  have f3 := (unhide K).frozen 3
  have f4 := (unhide K).frozen 4
  have K2 := K
  have BW2 := BW
  have OM2 := OM
  go_wp2_with fail
  refine (live2 _ _ (unhide HT _ (unhide BW2)) (unhide OM2)).mono ?_
  rintro e x2 ⟨⟨a2, p2, b2, q2, rfl, h1, h2⟩, hb⟩
  have T1 := hide ((unhide T1).below hb)
  have K3 := hide ((unhide K2).below hb)
  have BW3 := hide (belows' (unhide BW2) hb)
  have OM3 := hide h1
  have T2 := hide h2
  clear h1 h2 hb K K2 BW BW2 OM OM2 c0 c1 c2 c3 c4 
  clear f0 f1 f2 f3 f4
  have r0 := (unhide K3).cell 0
  have r1 := (unhide K3).cell 1
  have r2 := (unhide K3).cell 2
  have r3 := (unhide K3).cell 3
  have r4 := (unhide K3).cell 4
  have f0 := (unhide K3).frozen 0
  have f1 := (unhide K3).frozen 1
  have f2 := (unhide K3).frozen 2
  have f3 := (unhide K3).frozen 3
  have f4 := (unhide K3).frozen 4
  simp only [List.getElem?_toArray, List.getElem?_cons_succ, List.getElem?_cons_zero] at r0 r1 r2 r3 r4
  go_upto_region 4 with (fail)
  have K := hide (blk_five (unhide K3) (.int .u32 9) (.int .u64 3) (.int .u32 0) (.int .u32 0) (.slice a2 2 p2))
  have OM := hide (outM5 (unhide OM3) (unhide K3) (by decide) (.int .u32 9) (.int .u64 3) (.int .u32 0) (.int .u32 0) (.slice a2 2 p2))
  have BW := hide (below5 (s := B1) (unhide BW3) (by omega) (.int .u32 9) (.int .u64 3) (.int .u32 0) (.int .u32 0) (.slice a2 2 p2))
  have T1 := hide (outT5 (unhide T1) (unhide K3) (by decide) (.int .u32 9) (.int .u64 3) (.int .u32 0) (.int .u32 0) (.slice a2 2 p2))
  have T2 := hide (outT5 (unhide T2) (unhide K3) (by decide) (.int .u32 9) (.int .u64 3) (.int .u32 0) (.int .u32 0) (.slice a2 2 p2))
  clear K3 OM3 BW3 r0 r1 r2 r3 r4 f0 f1 f2 f3 f4
  generalize (((((x2.setCell ⟨B1, 0, none⟩ (.int .u32 9)).setCell ⟨B1, 1, none⟩ (.int .u64 3)).setCell ⟨B1, 2, none⟩ (.int .u32 0)).setCell ⟨B1, 3, none⟩ (.int .u32 0)).setCell ⟨B1, 4, none⟩ (.slice a2 2 p2)) = V3 at K OM BW T1 T2 ⊢
  have c0 := (unhide K).cell 0
  have c1 := (unhide K).cell 1
  have c2 := (unhide K).cell 2
  have c3 := (unhide K).cell 3
  have c4 := (unhide K).cell 4
  simp only [List.getElem?_toArray, List.getElem?_cons_succ, List.getElem?_cons_zero] at c0 c1 c2 c3 c4
  have f0 := (unhide K).frozen 0
  have f1 := (unhide K).frozen 1
  have f2 := (unhide K).frozen 2
  have f3 := (unhide K).frozen 3
  have f4 := (unhide K).frozen 4
  have hL : Below V3.heap.size V3 (V3.alloc (.cells #[.int .u32 1] 22)) := (Below.refl _ V3).alloc (Nat.le_refl _) _
  have RL := hide (lit32 V3 [1] #[.int .u32 1] rfl rfl (by decide) (by decide))
  have K2 := hide ((unhide K).below hL)
  have BW2 := hide (belows' (unhide BW) hL)
  have OM2 := hide ((unhide OM).below hL)
  have T1 := hide ((unhide T1).below hL)
  have T2 := hide ((unhide T2).below hL)
  go_wp2_with fail
  refine (live3 _ _ _ (unhide HT _ (unhide BW2)) (unhide OM2) (unhide RL)).mono ?_
  rintro e x3 ⟨⟨a3, p3, b3, q3, rfl, h1, h2⟩, hb⟩
  have T1 := hide ((unhide T1).below hb)
  have T2 := hide ((unhide T2).below hb)
  have K3 := hide ((unhide K2).below hb)
  have BW3 := hide (belows' (unhide BW2) hb)
  have OM3 := hide h1
  have T3 := hide h2
  clear hL RL
  clear h1 h2 hb K K2 BW BW2 OM OM2 c0 c1 c2 c3 c4 
  clear f0 f1 f2 f3 f4
  have r0 := (unhide K3).cell 0
  have r1 := (unhide K3).cell 1
  have r2 := (unhide K3).cell 2
  have r3 := (unhide K3).cell 3
  have r4 := (unhide K3).cell 4
  have f0 := (unhide K3).frozen 0
  have f1 := (unhide K3).frozen 1
  have f2 := (unhide K3).frozen 2
  have f3 := (unhide K3).frozen 3
  have f4 := (unhide K3).frozen 4
  simp only [List.getElem?_toArray, List.getElem?_cons_succ, List.getElem?_cons_zero] at r0 r1 r2 r3 r4
  go_upto_region 5 with (fail)
  have K := hide (blk_five (unhide K3) (.int .u32 9) (.int .u64 3) (.int .u32 0) (.int .u32 0) (.slice a3 2 p3))
  have OM := hide (outM5 (unhide OM3) (unhide K3) (by decide) (.int .u32 9) (.int .u64 3) (.int .u32 0) (.int .u32 0) (.slice a3 2 p3))
  have BW := hide (below5 (s := B1) (unhide BW3) (by omega) (.int .u32 9) (.int .u64 3) (.int .u32 0) (.int .u32 0) (.slice a3 2 p3))
  have T1 := hide (outT5 (unhide T1) (unhide K3) (by decide) (.int .u32 9) (.int .u64 3) (.int .u32 0) (.int .u32 0) (.slice a3 2 p3))
  have T2 := hide (outT5 (unhide T2) (unhide K3) (by decide) (.int .u32 9) (.int .u64 3) (.int .u32 0) (.int .u32 0) (.slice a3 2 p3))
  have T3 := hide (outT5 (unhide T3) (unhide K3) (by decide) (.int .u32 9) (.int .u64 3) (.int .u32 0) (.int .u32 0) (.slice a3 2 p3))
  clear K3 OM3 BW3 r0 r1 r2 r3 r4 f0 f1 f2 f3 f4
  generalize (((((x3.setCell ⟨B1, 0, none⟩ (.int .u32 9)).setCell ⟨B1, 1, none⟩ (.int .u64 3)).setCell ⟨B1, 2, none⟩ (.int .u32 0)).setCell ⟨B1, 3, none⟩ (.int .u32 0)).setCell ⟨B1, 4, none⟩ (.slice a3 2 p3)) = V4 at K OM BW T1 T2 T3 ⊢
  have c0 := (unhide K).cell 0
  have c1 := (unhide K).cell 1
  have c2 := (unhide K).cell 2
  have c3 := (unhide K).cell 3
  have c4 := (unhide K).cell 4
  simp only [List.getElem?_toArray, List.getElem?_cons_succ, List.getElem?_cons_zero] at c0 c1 c2 c3 c4
  have e0 := (unhide K).frozen 0
  have hL : Below V4.heap.size V4 (V4.alloc (.cells #[.int .u32 1, .int .u32 2] 22)) := (Below.refl _ V4).alloc (Nat.le_refl _) _
  have RL := hide (lit32 V4 [1, 2] #[.int .u32 1, .int .u32 2] rfl rfl (by decide) (by decide))
  have K2 := hide ((unhide K).below hL)
  have BW2 := hide (belows' (unhide BW) hL)
  have OM2 := hide ((unhide OM).below hL)
  have T1 := hide ((unhide T1).below hL)
  have T2 := hide ((unhide T2).below hL)
  have T3 := hide ((unhide T3).below hL)
  go_wp2_with fail
  refine (live4 _ _ _ (unhide HT _ (unhide BW2)) (unhide OM2) (unhide RL)).mono ?_
  rintro e x4 ⟨⟨a4, p4, b4, q4, rfl, h1, h2⟩, hb⟩
  have T1 := hide ((unhide T1).below hb)
  have T2 := hide ((unhide T2).below hb)
  have T3 := hide ((unhide T3).below hb)
  have K3 := hide ((unhide K2).below hb)
  have BW3 := hide (belows' (unhide BW2) hb)
  have OM3 := hide h1
  have T4 := hide h2
  clear hL RL
  clear h1 h2 hb K K2 BW BW2 OM OM2 c0 c1 c2 c3 c4 e0
  go_upto_region 6 with (fail)
  have hA : Below x4.heap.size x4 (x4.alloc (.cells #[.int .u32 9, .int .u64 3, .int .u32 0, .int .u32 0, .slice a4 1 p4] 26)) := (Below.refl _ x4).alloc (Nat.le_refl _) _
  have K := hide (Blk.new x4 26 #[.int .u32 9, .int .u64 3, .int .u32 0, .int .u32 0, .slice a4 1 p4])
  have OM := hide ((unhide OM3).below hA)
  have BW := hide (belows' (unhide BW3) hA)
  have hwB : w.heap.size ≤ x4.heap.size := (unhide BW3).size
  have T1 := hide ((unhide T1).below hA)
  have T2 := hide ((unhide T2).below hA)
  have T3 := hide ((unhide T3).below hA)
  have T4 := hide ((unhide T4).below hA)
  clear K3 OM3 BW3 hA
  generalize (x4.alloc (.cells #[.int .u32 9, .int .u64 3, .int .u32 0, .int .u32 0, .slice a4 1 p4] 26)) = V5 at K OM BW  T1 T2 T3 T4 ⊢
  generalize x4.heap.size = B5 at K hwB ⊢
  have c0 := (unhide K).cell 0
  have c1 := (unhide K).cell 1
  have c2 := (unhide K).cell 2
  have c3 := (unhide K).cell 3
  have c4 := (unhide K).cell 4
  simp only [List.getElem?_toArray, List.getElem?_cons_succ, List.getElem?_cons_zero] at c0 c1 c2 c3 c4
  go_wp2_with fail
  refine (liveP _ _ (unhide HT _ (unhide BW)) (unhide OM)).mono ?_
  rintro e y6 ⟨rfl, hb⟩
  have K := hide ((unhide K).below hb)
  have BW := hide (belows' (unhide BW) hb)
  have OM := hide ((unhide OM).below hb)
  have T1 := hide ((unhide T1).below hb)
  have T2 := hide ((unhide T2).below hb)
  have T3 := hide ((unhide T3).below hb)
  have T4 := hide ((unhide T4).below hb)
  clear hb c0 c1 c2 c3 c4
  have c0 := (unhide K).cell 0
  have c1 := (unhide K).cell 1
  have c2 := (unhide K).cell 2
  have c3 := (unhide K).cell 3
  have c4 := (unhide K).cell 4
  simp only [List.getElem?_toArray, List.getElem?_cons_succ, List.getElem?_cons_zero] at c0 c1 c2 c3 c4
  go_wp2_with fail
  refine (liveF _ _ (unhide HT _ (unhide BW)) (unhide OM)).mono ?_
  rintro e y7 ⟨rfl, hb⟩
  have K := hide ((unhide K).below hb)
  have BW := hide (belows' (unhide BW) hb)
  have OM := hide ((unhide OM).below hb)
  have T1 := hide ((unhide T1).below hb)
  have T2 := hide ((unhide T2).below hb)
  have T3 := hide ((unhide T3).below hb)
  have T4 := hide ((unhide T4).below hb)
  clear hb c0 c1 c2 c3 c4
  go_upto_region 8 with (fail)
  have hA : Below y7.heap.size y7 (y7.alloc (.cells #[.int .u32 2, .int .u8 1, .int .i64 0, .int .i64 0, .int .i64 0, .string ⟨#[121]⟩] 47)) := (Below.refl _ y7).alloc (Nat.le_refl _) _
  have KM := hide (Blk.new y7 47 #[.int .u32 2, .int .u8 1, .int .i64 0, .int .i64 0, .int .i64 0, .string ⟨#[121]⟩])
  have K := hide ((unhide K).below hA)
  have OM := hide ((unhide OM).below hA)
  have BW := hide (belows' (unhide BW) hA)
  have T1 := hide ((unhide T1).below hA)
  have T2 := hide ((unhide T2).below hA)
  have T3 := hide ((unhide T3).below hA)
  have T4 := hide ((unhide T4).below hA)
  clear hA
  generalize y7.alloc (.cells #[.int .u32 2, .int .u8 1, .int .i64 0, .int .i64 0, .int .i64 0, .string ⟨#[121]⟩] 47) = V8 at K OM BW KM T1 T2 T3 T4 ⊢
  generalize y7.heap.size = BM at KM ⊢
  have c0 := (unhide K).cell 0
  have c1 := (unhide K).cell 1
  have c2 := (unhide K).cell 2
  have c3 := (unhide K).cell 3
  have c4 := (unhide K).cell 4
  simp only [List.getElem?_toArray, List.getElem?_cons_succ, List.getElem?_cons_zero] at c0 c1 c2 c3 c4
  go_wp2_with fail
  refine (liveU _ _ (unhide HT _ (unhide BW)) (unhide OM)).mono ?_
  rintro e y8 ⟨⟨au, cu, rfl, hu⟩, hb⟩
  have K := hide ((unhide K).below hb)
  have BW := hide (belows' (unhide BW) hb)
  have OM := hide ((unhide OM).below hb)
  have T1 := hide ((unhide T1).below hb)
  have T2 := hide ((unhide T2).below hb)
  have T3 := hide ((unhide T3).below hb)
  have T4 := hide ((unhide T4).below hb)
  have KM := hide ((unhide KM).below hb)
  have TU := hide hu
  clear hb hu c0 c1 c2 c3 c4
  have c0 := (unhide K).cell 0
  have c1 := (unhide K).cell 1
  have c2 := (unhide K).cell 2
  have c3 := (unhide K).cell 3
  have c4 := (unhide K).cell 4
  simp only [List.getElem?_toArray, List.getElem?_cons_succ, List.getElem?_cons_zero] at c0 c1 c2 c3 c4
  go_wp2_with fail
  refine (live5 _ _ (unhide HT _ (unhide BW)) (unhide OM)).mono ?_
  rintro e x9 ⟨⟨a9, p9, b9, q9, rfl, h1, h2⟩, hb⟩
  have T1 := hide ((unhide T1).below hb)
  have T2 := hide ((unhide T2).below hb)
  have T3 := hide ((unhide T3).below hb)
  have T4 := hide ((unhide T4).below hb)
  have TU := hide ((unhide TU).below hb)
  have KM := hide ((unhide KM).below hb)
  have K3 := hide ((unhide K).below hb)
  have BW3 := hide (belows' (unhide BW) hb)
  have OM3 := hide h1
  clear h1 h2 hb K BW OM c0 c1 c2 c3 c4
  have r0 := (unhide K3).cell 0
  have r1 := (unhide K3).cell 1
  have r2 := (unhide K3).cell 2
  have r3 := (unhide K3).cell 3
  have r4 := (unhide K3).cell 4
  have f0 := (unhide K3).frozen 0
  have f1 := (unhide K3).frozen 1
  have f2 := (unhide K3).frozen 2
  have f3 := (unhide K3).frozen 3
  have f4 := (unhide K3).frozen 4
  simp only [List.getElem?_toArray, List.getElem?_cons_succ, List.getElem?_cons_zero] at r0 r1 r2 r3 r4
  go_upto_region 10 with (fail)
  have K := hide (blk_five (unhide K3) (.int .u32 9) (.int .u64 3) (.int .u32 0) (.int .u32 2) (.slice a9 1 p9))
  have OM := hide (outM5 (unhide OM3) (unhide K3) (by decide) (.int .u32 9) (.int .u64 3) (.int .u32 0) (.int .u32 2) (.slice a9 1 p9))
  have BW := hide (below5 (s := B5) (unhide BW3) (by omega) (.int .u32 9) (.int .u64 3) (.int .u32 0) (.int .u32 2) (.slice a9 1 p9))
  have hMB : BM ≠ B5 := fun e => blk_two (unhide KM) (unhide K3) (by decide) e
  have KM := hide (blk5 (unhide KM) hMB (.int .u32 9) (.int .u64 3) (.int .u32 0) (.int .u32 2) (.slice a9 1 p9))
  have T1 := hide (outT5 (unhide T1) (unhide K3) (by decide) (.int .u32 9) (.int .u64 3) (.int .u32 0) (.int .u32 2) (.slice a9 1 p9))
  have T2 := hide (outT5 (unhide T2) (unhide K3) (by decide) (.int .u32 9) (.int .u64 3) (.int .u32 0) (.int .u32 2) (.slice a9 1 p9))
  have T3 := hide (outT5 (unhide T3) (unhide K3) (by decide) (.int .u32 9) (.int .u64 3) (.int .u32 0) (.int .u32 2) (.slice a9 1 p9))
  have T4 := hide (outT5 (unhide T4) (unhide K3) (by decide) (.int .u32 9) (.int .u64 3) (.int .u32 0) (.int .u32 2) (.slice a9 1 p9))
  have TU := hide (outT5 (unhide TU) (unhide K3) (by decide) (.int .u32 9) (.int .u64 3) (.int .u32 0) (.int .u32 2) (.slice a9 1 p9))
  clear K3 OM3 BW3 r0 r1 r2 r3 r4 f0 f1 f2 f3 f4
  generalize (((((x9.setCell ⟨B5, 0, none⟩ (.int .u32 9)).setCell ⟨B5, 1, none⟩ (.int .u64 3)).setCell ⟨B5, 2, none⟩ (.int .u32 0)).setCell ⟨B5, 3, none⟩ (.int .u32 2)).setCell ⟨B5, 4, none⟩ (.slice a9 1 p9)) = V10 at K OM BW KM T1 T2 T3 T4 TU ⊢
  have c0 := (unhide K).cell 0
  have c1 := (unhide K).cell 1
  have c2 := (unhide K).cell 2
  have c3 := (unhide K).cell 3
  have c4 := (unhide K).cell 4
  simp only [List.getElem?_toArray, List.getElem?_cons_succ, List.getElem?_cons_zero] at c0 c1 c2 c3 c4
  go_wp2_with fail
  refine (liveR _ _ (unhide HT _ (unhide BW)) (unhide OM)).mono ?_
  rintro e y10 ⟨⟨ar, cr, rfl, hu⟩, hb⟩
  have K := hide ((unhide K).below hb)
  have BW := hide (belows' (unhide BW) hb)
  have OM := hide ((unhide OM).below hb)
  have T1 := hide ((unhide T1).below hb)
  have T2 := hide ((unhide T2).below hb)
  have T3 := hide ((unhide T3).below hb)
  have T4 := hide ((unhide T4).below hb)
  have TU := hide ((unhide TU).below hb)
  have KM := hide ((unhide KM).below hb)
  have TR := hide hu
  clear hb hu c0 c1 c2 c3 c4
  have c0 := (unhide K).cell 0
  have c1 := (unhide K).cell 1
  have c2 := (unhide K).cell 2
  have c3 := (unhide K).cell 3
  have c4 := (unhide K).cell 4
  simp only [List.getElem?_toArray, List.getElem?_cons_succ, List.getElem?_cons_zero] at c0 c1 c2 c3 c4
  have hL : Below y10.heap.size y10 (y10.alloc (.cells #[.int .u32 1] 22)) := (Below.refl _ y10).alloc (Nat.le_refl _) _
  have RL := hide (lit32 y10 [1] #[.int .u32 1] rfl rfl (by decide) (by decide))
  have K2 := hide ((unhide K).below hL)
  have BW2 := hide (belows' (unhide BW) hL)
  have OM2 := hide ((unhide OM).below hL)
  have T1 := hide ((unhide T1).below hL)
  have T2 := hide ((unhide T2).below hL)
  have T3 := hide ((unhide T3).below hL)
  have T4 := hide ((unhide T4).below hL)
  have TU := hide ((unhide TU).below hL)
  have TR := hide ((unhide TR).below hL)
  have KM := hide ((unhide KM).below hL)
  go_wp2_with fail
  refine (live6 _ _ _ (unhide HT _ (unhide BW2)) (unhide OM2) (unhide RL)).mono ?_
  rintro e x11 ⟨⟨a11, p11, b11, q11, rfl, h1, h2⟩, hb⟩
  have T1 := hide ((unhide T1).below hb)
  have T2 := hide ((unhide T2).below hb)
  have T3 := hide ((unhide T3).below hb)
  have T4 := hide ((unhide T4).below hb)
  have TU := hide ((unhide TU).below hb)
  have TR := hide ((unhide TR).below hb)
  have KM := hide ((unhide KM).below hb)
  have K := hide ((unhide K2).below hb)
  have BW := hide (belows' (unhide BW2) hb)
  have OM := hide ((unhide OM2).below hb)
  clear h1 h2 hb K2 BW2 OM2 hL RL c0 c1 c2 c3 c4
  go_upto_region 12 with (fail)
  have hA : Below x11.heap.size x11 (x11.alloc (.cells #[.int .u32 9, .int .u64 3, .int .u32 0, .int .u32 2, .slice a11 1 p11] 26)) := (Below.refl _ x11).alloc (Nat.le_refl _) _
  have K := hide ((unhide K).below hA)
  have OM := hide ((unhide OM).below hA)
  have BW := hide (belows' (unhide BW) hA)
  have T1 := hide ((unhide T1).below hA)
  have T2 := hide ((unhide T2).below hA)
  have T3 := hide ((unhide T3).below hA)
  have T4 := hide ((unhide T4).below hA)
  have TU := hide ((unhide TU).below hA)
  have TR := hide ((unhide TR).below hA)
  have KM := hide ((unhide KM).below hA)
  clear hA
  generalize x11.alloc (.cells #[.int .u32 9, .int .u64 3, .int .u32 0, .int .u32 2, .slice a11 1 p11] 26) = V12 at K OM BW KM T1 T2 T3 T4 TU TR ⊢
  generalize x11.heap.size = B12
  go_wp2_with fail
  refine (liveM0 _).mono ?_
  rintro e x12 ⟨rfl, hb⟩
  have T1 := hide ((unhide T1).below hb)
  have T2 := hide ((unhide T2).below hb)
  have T3 := hide ((unhide T3).below hb)
  have T4 := hide ((unhide T4).below hb)
  have TU := hide ((unhide TU).below hb)
  have TR := hide ((unhide TR).below hb)
  have KM := hide ((unhide KM).below hb)
  have K := hide ((unhide K).below hb)
  have BW := hide (belows' (unhide BW) hb)
  have OM := hide ((unhide OM).below hb)
  clear hb
  go_upto_region 13 with (fail)
  have hA : Below x12.heap.size x12 (x12.alloc (.cells #[.int .u32 0, .int .u64 0, .int .u32 0, .int .u32 0, .slice none 0 0] 26)) := (Below.refl _ x12).alloc (Nat.le_refl _) _
  have K := hide ((unhide K).below hA)
  have OM := hide ((unhide OM).below hA)
  have BW := hide (belows' (unhide BW) hA)
  have T1 := hide ((unhide T1).below hA)
  have T2 := hide ((unhide T2).below hA)
  have T3 := hide ((unhide T3).below hA)
  have T4 := hide ((unhide T4).below hA)
  have TU := hide ((unhide TU).below hA)
  have TR := hide ((unhide TR).below hA)
  have KM := hide ((unhide KM).below hA)
  clear hA
  generalize x12.alloc (.cells #[.int .u32 0, .int .u64 0, .int .u32 0, .int .u32 0, .slice none 0 0] 26) = V13 at K OM BW KM T1 T2 T3 T4 TU TR ⊢
  generalize x12.heap.size = B13
  apply wp_region_lit
  change wpList _ (List.toArray (_ :: _ :: _ :: _ :: _ :: _ :: _ :: _ :: _ :: _ :: _ :: _ :: _ :: _ :: _ :: _ :: _ :: _ :: _ :: _ :: _ :: _ :: _ :: _ :: _ :: _ :: _ :: _ :: _ :: _ :: _ :: _ :: _ :: _ :: _ :: _ :: _ :: _ :: _ :: _ :: _ :: _ :: _ :: _ :: _ :: _ :: _ :: _ :: _ :: _ :: _ :: _ :: _ :: _ :: _ :: _ :: _ :: _ :: _ :: _ :: _ :: _ :: _ :: _ :: _ :: _ :: _ :: _ :: _ :: _ :: _ :: _ :: _ :: _ :: _ :: _ :: _ :: _ :: _ :: _ :: _ :: _ :: _ :: _ :: _ :: _ :: _ :: _ :: _ :: _ :: _ :: _ :: _ :: _ :: _ :: _ :: _ :: _ :: _ :: _ :: _ :: [])) _ (_ :: _ :: _ :: _ :: _ :: _ :: _ :: _ :: _ :: _ :: _ :: _ :: _ :: _ :: _ :: _ :: _ :: _ :: _ :: _ :: _ :: _ :: _ :: _ :: _ :: _ :: _ :: _ :: _ :: _ :: _ :: _ :: _ :: _ :: _ :: _ :: _ :: _ :: _ :: _ :: _ :: _ :: _ :: _ :: _ :: _ :: _ :: _ :: _ :: _ :: _ :: _ :: _ :: _ :: _ :: _ :: _ :: _ :: _ :: _ :: _ :: _ :: _ :: _ :: _ :: _ :: _ :: _ :: _ :: _ :: _ :: _ :: _ :: _ :: _ :: _ :: _ :: _ :: _ :: _ :: _ :: _ :: _ :: _ :: _ :: _ :: _ :: _ :: _ :: _ :: _ :: _ :: _ :: _ :: _ :: _ :: _ :: _ :: _ :: _ :: _ :: []) _ _
  have hL : Below V13.heap.size V13 (V13.alloc (.cells #[.int .u32 1] 22)) := (Below.refl _ V13).alloc (Nat.le_refl _) _
  have RL := hide (lit32 V13 [1] #[.int .u32 1] rfl rfl (by decide) (by decide))
  have T1 := hide ((unhide T1).below hL)
  have T2 := hide ((unhide T2).below hL)
  have T3 := hide ((unhide T3).below hL)
  have T4 := hide ((unhide T4).below hL)
  have TU := hide ((unhide TU).below hL)
  have TR := hide ((unhide TR).below hL)
  have KM := hide ((unhide KM).below hL)
  have K := hide ((unhide K).below hL)
  have OM := hide ((unhide OM).below hL)
  have BW := hide (belows' (unhide BW) hL)
  go_wp2_with fail
  refine (same32_any _ _ [1] [1] _ (unhide T1).row (unhide RL)).mono ?_
  rintro e s1 ⟨rfl, hb⟩
  rw [decide_eq_true (rfl : [1] = [1])]
  have T1 := hide ((unhide T1).below hb)
  have T2 := hide ((unhide T2).below hb)
  have T3 := hide ((unhide T3).below hb)
  have T4 := hide ((unhide T4).below hb)
  have TU := hide ((unhide TU).below hb)
  have TR := hide ((unhide TR).below hb)
  have KM := hide ((unhide KM).below hb)
  have K := hide ((unhide K).below hb)
  have OM := hide ((unhide OM).below hb)
  have BW := hide (belows' (unhide BW) hb)
  clear hb hL RL
  have hL : Below s1.heap.size s1 (s1.alloc (.cells #[.int .u32 2] 22)) := (Below.refl _ s1).alloc (Nat.le_refl _) _
  have RL := hide (lit32 s1 [2] #[.int .u32 2] rfl rfl (by decide) (by decide))
  have T1 := hide ((unhide T1).below hL)
  have T2 := hide ((unhide T2).below hL)
  have T3 := hide ((unhide T3).below hL)
  have T4 := hide ((unhide T4).below hL)
  have TU := hide ((unhide TU).below hL)
  have TR := hide ((unhide TR).below hL)
  have KM := hide ((unhide KM).below hL)
  have K := hide ((unhide K).below hL)
  have OM := hide ((unhide OM).below hL)
  have BW := hide (belows' (unhide BW) hL)
  go_wp2_with fail
  refine (same32_any _ _ [2] [2] _ (unhide T2).row (unhide RL)).mono ?_
  rintro e s2 ⟨rfl, hb⟩
  rw [decide_eq_true (rfl : [2] = [2])]
  have T1 := hide ((unhide T1).below hb)
  have T2 := hide ((unhide T2).below hb)
  have T3 := hide ((unhide T3).below hb)
  have T4 := hide ((unhide T4).below hb)
  have TU := hide ((unhide TU).below hb)
  have TR := hide ((unhide TR).below hb)
  have KM := hide ((unhide KM).below hb)
  have K := hide ((unhide K).below hb)
  have OM := hide ((unhide OM).below hb)
  have BW := hide (belows' (unhide BW) hb)
  clear hb hL RL
  have hL : Below s2.heap.size s2 (s2.alloc (.cells #[.int .u32 1] 22)) := (Below.refl _ s2).alloc (Nat.le_refl _) _
  have RL := hide (lit32 s2 [1] #[.int .u32 1] rfl rfl (by decide) (by decide))
  have T1 := hide ((unhide T1).below hL)
  have T2 := hide ((unhide T2).below hL)
  have T3 := hide ((unhide T3).below hL)
  have T4 := hide ((unhide T4).below hL)
  have TU := hide ((unhide TU).below hL)
  have TR := hide ((unhide TR).below hL)
  have KM := hide ((unhide KM).below hL)
  have K := hide ((unhide K).below hL)
  have OM := hide ((unhide OM).below hL)
  have BW := hide (belows' (unhide BW) hL)
  go_wp2_with fail
  refine (same32_any _ _ [1] [1] _ (unhide T4).row (unhide RL)).mono ?_
  rintro e s3 ⟨rfl, hb⟩
  rw [decide_eq_true (rfl : [1] = [1])]
  have T1 := hide ((unhide T1).below hb)
  have T2 := hide ((unhide T2).below hb)
  have T3 := hide ((unhide T3).below hb)
  have T4 := hide ((unhide T4).below hb)
  have TU := hide ((unhide TU).below hb)
  have TR := hide ((unhide TR).below hb)
  have KM := hide ((unhide KM).below hb)
  have K := hide ((unhide K).below hb)
  have OM := hide ((unhide OM).below hb)
  have BW := hide (belows' (unhide BW) hb)
  clear hb hL RL
  have m1 := (unhide KM).cell 1
  have m5 := (unhide KM).cell 5
  simp only [List.getElem?_toArray, List.getElem?_cons_succ, List.getElem?_cons_zero] at m1 m5
  have hKM := (unhide KM).lt
  have hL : Below s3.heap.size s3 (s3.alloc (.cells #[.int .u32 2] 22)) := (Below.refl _ s3).alloc (Nat.le_refl _) _
  have RL := hide (lit32 s3 [2] #[.int .u32 2] rfl rfl (by decide) (by decide))
  have T1 := hide ((unhide T1).below hL)
  have T2 := hide ((unhide T2).below hL)
  have T3 := hide ((unhide T3).below hL)
  have T4 := hide ((unhide T4).below hL)
  have TU := hide ((unhide TU).below hL)
  have TR := hide ((unhide TR).below hL)
  have KM := hide ((unhide KM).below hL)
  have K := hide ((unhide K).below hL)
  have OM := hide ((unhide OM).below hL)
  have BW := hide (belows' (unhide BW) hL)
  go_wp2_with fail
  refine (same32_any _ _ [2] [2] _ (unhide TU).row (unhide RL)).mono ?_
  rintro e s4 ⟨rfl, hb⟩
  rw [decide_eq_true (rfl : [2] = [2])]
  have T1 := hide ((unhide T1).below hb)
  have T2 := hide ((unhide T2).below hb)
  have T3 := hide ((unhide T3).below hb)
  have T4 := hide ((unhide T4).below hb)
  have TU := hide ((unhide TU).below hb)
  have TR := hide ((unhide TR).below hb)
  have KM := hide ((unhide KM).below hb)
  have K := hide ((unhide K).below hb)
  have OM := hide ((unhide OM).below hb)
  have BW := hide (belows' (unhide BW) hb)
  clear hb hL RL
  have c0 := (unhide K).cell 0
  have c1 := (unhide K).cell 1
  have c2 := (unhide K).cell 2
  have c3 := (unhide K).cell 3
  have c4 := (unhide K).cell 4
  simp only [List.getElem?_toArray, List.getElem?_cons_succ, List.getElem?_cons_zero] at c0 c1 c2 c3 c4
  have hK := (unhide K).lt
  have hL : Below s4.heap.size s4 (s4.alloc (.cells #[.int .u32 2] 22)) := (Below.refl _ s4).alloc (Nat.le_refl _) _
  have RL := hide (lit32 s4 [2] #[.int .u32 2] rfl rfl (by decide) (by decide))
  have T1 := hide ((unhide T1).below hL)
  have T2 := hide ((unhide T2).below hL)
  have T3 := hide ((unhide T3).below hL)
  have T4 := hide ((unhide T4).below hL)
  have TU := hide ((unhide TU).below hL)
  have TR := hide ((unhide TR).below hL)
  have KM := hide ((unhide KM).below hL)
  have K := hide ((unhide K).below hL)
  have OM := hide ((unhide OM).below hL)
  have BW := hide (belows' (unhide BW) hL)
  go_wp2_with fail
  refine (same32_any _ _ [2] [2] _ (unhide TR).row (unhide RL)).mono ?_
  rintro e s5 ⟨rfl, hb⟩
  rw [decide_eq_true (rfl : [2] = [2])]
  have T1 := hide ((unhide T1).below hb)
  have T2 := hide ((unhide T2).below hb)
  have T3 := hide ((unhide T3).below hb)
  have T4 := hide ((unhide T4).below hb)
  have TU := hide ((unhide TU).below hb)
  have TR := hide ((unhide TR).below hb)
  have KM := hide ((unhide KM).below hb)
  have K := hide ((unhide K).below hb)
  have OM := hide ((unhide OM).below hb)
  have BW := hide (belows' (unhide BW) hb)
  clear hb hL RL
  clear c0 c1 c2 c3 c4
  have c0 := (unhide K).cell 0
  have c1 := (unhide K).cell 1
  have c2 := (unhide K).cell 2
  have c3 := (unhide K).cell 3
  have c4 := (unhide K).cell 4
  simp only [List.getElem?_toArray, List.getElem?_cons_succ, List.getElem?_cons_zero] at c0 c1 c2 c3 c4
  go_wp2_with fail
  refine (liveC _ _ (unhide HT _ (unhide BW)) (unhide OM)).mono ?_
  rintro e z1 ⟨rfl, hb⟩
  have BW := hide (belows' (unhide BW) hb)
  clear hb
  go_wp2_with fail
  refine (liveG _ (unhide HT _ (unhide BW))).mono ?_
  rintro e z2 ⟨rfl, hb⟩
  have BW := hide (belows' (unhide BW) hb)
  clear hb
  go_wp2
  go_ret
  exact ⟨rfl, unhide BW⟩
end Go.Proofs.YtnhcpkcpgpobdaaDoor

/-
  What marking one mail does to a box (plain mathematics).
-/
set_option linter.unusedVariables false
set_option linter.unusedSimpArgs false
namespace Go.Proofs.YtnhcpkcpgpobdaaDoor
open Go.RowKit

/-- A mail but for its flags. -/
def SameBut (g : Msg → Msg) : Prop := ∀ m, (g m).uid = m.uid ∧ (g m).dy = m.dy ∧ (g m).sc = m.sc ∧ (g m).zn = m.zn ∧ (g m).raw = m.raw
theorem mailsOk_map {g : Msg → Msg} (hg : SameBut g) {nx : Nat} : ∀ {le : Nat} {l : List Msg}, (∀ m ∈ l, m.fl ≤ 31 → (g m).fl ≤ 31) → mailsOk nx le l = true → mailsOk nx le (l.map g) = true
  | _, [], _, _ => rfl
  | le, m :: r, hf, h => by
    simp only [mailsOk, Bool.and_eq_true, decide_eq_true_eq, List.map_cons] at h ⊢
    obtain ⟨⟨⟨h1, h2⟩, h3, h4, h5⟩, h6⟩ := h
    obtain ⟨e1, e2, e3, e4, e5⟩ := hg m
    rw [e1, e2, e3, e4, e5]
    exact ⟨⟨⟨h1, h2⟩, hf m (by simp) h3, h4, h5⟩, mailsOk_map hg (fun x hx => hf x (by simp [hx])) h6⟩
theorem uidsM_map {g : Msg → Msg} (hg : SameBut g) (l : List Msg) : uidsM (l.map g) = uidsM l := by
  unfold uidsM
  rw [List.map_map]
  exact List.map_congr_left (fun m _ => (hg m).1)
def mapB (g : Msg → Msg) (b : Bx) : Bx := ⟨b.va, b.nx, b.mr, b.la, b.ms.map g⟩
theorem okB_map {g : Msg → Msg} (hg : SameBut g) {b : Bx} (hf : ∀ m ∈ b.ms, m.fl ≤ 31 → (g m).fl ≤ 31) (h : okB b = true) : okB (mapB g b) = true := by
  unfold okB mapB at *
  simp only [Bool.and_eq_true] at h ⊢
  refine ⟨h.1, ?_, mailsOk_map hg hf h.2.2⟩
  rw [List.length_map]
  exact h.2.1
theorem findL_map {g : Msg → Msg} (hg : SameBut g) {l : List Msg} {u : Nat} (h : u ∈ uidsM l) : findL (l.map g) u = g (findL l u) := by
  unfold findL
  rw [List.find?_map]
  have e : (fun m : Msg => m.uid == u) ∘ g = fun m => m.uid == u := by
    funext m
    show ((g m).uid == u) = _
    rw [(hg m).1]
  rw [e]
  cases hh : l.find? (fun m => m.uid == u) with
  | some m => rfl
  | none =>
    exfalso
    obtain ⟨m, hm, hu⟩ := List.mem_map.1 h
    have := List.find?_eq_none.1 hh m hm
    simp [hu] at this
theorem findL_mem {l : List Msg} {u : Nat} (h : u ∈ uidsM l) : findL l u ∈ l ∧ (findL l u).uid = u := by
  unfold findL
  cases hh : l.find? (fun m => m.uid == u) with
  | some m =>
    have := List.find?_some hh
    exact ⟨List.mem_of_find?_eq_some hh, by simpa using this⟩
  | none =>
    exfalso
    obtain ⟨m, hm, hu⟩ := List.mem_map.1 h
    have := List.find?_eq_none.1 hh m hm
    simp [hu] at this
theorem markM_but (c : Chg) : SameBut (markM c) := by
  intro m
  unfold markM mkM
  split <;> exact ⟨rfl, rfl, rfl, rfl, rfl⟩
theorem bits_a : ∀ h f : Nat, h ≤ 31 → f ≤ 31 → h ||| f ≤ 31 ∧ (h ||| f) &&& f = f ∧ ((h ||| f) &&& (255 - f)) ≤ 31 ∧ ((h ||| f) &&& (255 - f)) &&& f = 0 := by
  have key : ∀ h f : Fin 32, h.val ||| f.val ≤ 31 ∧ (h.val ||| f.val) &&& f.val = f.val ∧ ((h.val ||| f.val) &&& (255 - f.val)) ≤ 31 ∧ ((h.val ||| f.val) &&& (255 - f.val)) &&& f.val = 0 := by decide +kernel
  intro h f hh hf
  exact key ⟨h, by omega⟩ ⟨f, by omega⟩
theorem bits_b : ∀ h f : Nat, h ≤ 31 → f ≤ 31 → h &&& (255 - f) ≤ 31 := by
  intro h f hh hf
  exact Nat.le_trans Nat.and_le_left hh
def cAdd (u f : Nat) : Chg := ⟨3, [u], f, 0, 0, 0, eB⟩
def cRem (u f : Nat) : Chg := ⟨4, [u], f, 0, 0, 0, eB⟩
theorem okC_one (k u f : Nat) (hk : k = 3 ∨ k = 4) : okC ⟨k, [u], f, 0, 0, 0, eB⟩ = decide (f ≤ 31) := by
  have h1 : chk [u] = 0 := by
    unfold chk
    rw [if_pos (by simp [Go.Proofs.Dct.rises]), if_pos (by simp)]
  unfold okC
  rw [if_neg (by show ¬ k = 1; omega)]
  have e1 : decide (2 ≤ k ∧ k ≤ 6) = true := decide_eq_true (by omega)
  have e2 : decide (k = 6 → ([u] : List Nat).length = 0) = true := decide_eq_true (by omega)
  have e3 : decide (k = 6 ∨ k = 5 → f = 0) = true := decide_eq_true (by omega)
  have e4 : sameT 0 0 0 0 0 0 = true := by decide
  have e5 : decide (eB.size = 0) = true := by decide
  simp only [e1, e2, e3, h1, e4, e5]
  simp
theorem do_one (k u f : Nat) (hk : k = 3 ∨ k = 4) {b : Bx} (hb : okB b = true) (hu : u ∈ uidsM b.ms) (hf : f ≤ 31) : doB b ⟨k, [u], f, 0, 0, 0, eB⟩ = mapB (markM ⟨k, [u], f, 0, 0, 0, eB⟩) b ∧ doE b ⟨k, [u], f, 0, 0, 0, eB⟩ = 0 := by
  have hc : okC ⟨k, [u], f, 0, 0, 0, eB⟩ = true := by rw [okC_one k u f hk, decide_eq_true hf]
  have ha : allIn b ⟨k, [u], f, 0, 0, 0, eB⟩ = true := by unfold allIn; simpa using hu
  constructor
  · unfold doB
    rw [if_pos hb, if_pos hc]
    unfold workB
    rw [if_neg (by show ¬ k = 1; omega), if_neg (by show ¬ k = 5; omega), if_neg (by show ¬ k = 6; omega)]
    unfold markB
    rw [if_pos ha]
    rfl
  · unfold doE
    rw [if_pos hb, if_pos hc]
    unfold workE
    rw [if_neg (by show ¬ k = 1; omega), if_neg (by show ¬ k = 5; omega), if_neg (by show ¬ k = 6; omega)]
    unfold markE
    rw [if_pos ha]
theorem do_none (k u f : Nat) (hk : k = 3 ∨ k = 4) {b : Bx} (hb : okB b = true) (hf : ¬ f ≤ 31) : doB b ⟨k, [u], f, 0, 0, 0, eB⟩ = b ∧ doE b ⟨k, [u], f, 0, 0, 0, eB⟩ = 2 := by
  have hc : ¬ okC ⟨k, [u], f, 0, 0, 0, eB⟩ = true := by rw [okC_one k u f hk, decide_eq_false hf]; simp
  unfold doB doE
  rw [if_pos hb, if_neg hc, if_pos hb, if_neg hc]
  exact ⟨rfl, rfl⟩
/-- Flags that are added, and removed, are as they are told. -/
theorem places_yes {b : Bx} {u f : Nat} (hb : okB b = true) (hu : u ∈ uidsM b.ms) (hf : f ≤ 31) :
    doE b (cAdd u f) = 0 ∧ doE (doB b (cAdd u f)) (cRem u f) = 0 ∧ okB (doB b (cAdd u f)) = true ∧ whyB (doB b (cAdd u f)) u = 0 ∧ whyB (doB (doB b (cAdd u f)) (cRem u f)) u = 0 ∧
      (findB (doB b (cAdd u f)) u).fl &&& f = f ∧ (findB (doB (doB b (cAdd u f)) (cRem u f)) u).fl &&& f = 0 ∧ (findB (doB (doB b (cAdd u f)) (cRem u f)) u).raw = (findB (doB b (cAdd u f)) u).raw ∧ (findB (doB b (cAdd u f)) u).fl ≤ 31 ∧ (findB (doB (doB b (cAdd u f)) (cRem u f)) u).fl ≤ 31 := by
  obtain ⟨d1, d2⟩ := do_one 3 u f (Or.inl rfl) hb hu hf
  have hA := markM_but (cAdd u f)
  have hR := markM_but (cRem u f)
  have fA : ∀ m ∈ b.ms, m.fl ≤ 31 → (markM (cAdd u f) m).fl ≤ 31 := by
    intro m _ hm
    unfold markM
    split
    · exact (bits_a m.fl f hm hf).1
    · exact hm
  have ok1 := okB_map hA fA hb
  have hu1 : u ∈ uidsM (mapB (markM (cAdd u f)) b).ms := by show u ∈ uidsM (b.ms.map _); rw [uidsM_map hA]; exact hu
  obtain ⟨d3, d4⟩ := do_one 4 u f (Or.inr rfl) ok1 hu1 hf
  have fR : ∀ m ∈ (mapB (markM (cAdd u f)) b).ms, m.fl ≤ 31 → (markM (cRem u f) m).fl ≤ 31 := by
    intro m _ hm
    unfold markM
    split
    · exact bits_b m.fl f hm hf
    · exact hm
  have ok2 := okB_map hR fR ok1
  have hu2 : u ∈ uidsM (mapB (markM (cRem u f)) (mapB (markM (cAdd u f)) b)).ms := by show u ∈ uidsM (List.map _ _); rw [uidsM_map hR]; exact hu1
  have e1 : doB b (cAdd u f) = mapB (markM (cAdd u f)) b := d1
  have e2 : doB (mapB (markM (cAdd u f)) b) (cRem u f) = mapB (markM (cRem u f)) (mapB (markM (cAdd u f)) b) := d3
  rw [e1, e2]
  obtain ⟨hm1, hm2⟩ := findL_mem hu
  have hfine := ((mailsOk_all (okB_mails hb)).1 _ hm1).2.2.1
  have f1 : findB (mapB (markM (cAdd u f)) b) u = mkM (cAdd u f) (findL b.ms u) := by
    unfold findB
    rw [if_pos ok1]
    show findL (b.ms.map _) u = _
    rw [findL_map hA hu]
    unfold markM
    rw [if_pos (by rw [hm2]; show u ∈ [u]; simp)]
  have f2 : findB (mapB (markM (cRem u f)) (mapB (markM (cAdd u f)) b)) u = mkM (cRem u f) (mkM (cAdd u f) (findL b.ms u)) := by
    unfold findB
    rw [if_pos ok2]
    show findL ((mapB (markM (cAdd u f)) b).ms.map _) u = _
    rw [findL_map hR hu1]
    have : findL (mapB (markM (cAdd u f)) b).ms u = mkM (cAdd u f) (findL b.ms u) := by
      have := f1; unfold findB at this; rw [if_pos ok1] at this; exact this
    rw [this]
    unfold markM
    rw [if_pos (by show (findL b.ms u).uid ∈ [u]; rw [hm2]; simp)]
  rw [f1, f2]
  have w1 : whyB (mapB (markM (cAdd u f)) b) u = 0 := by unfold whyB; rw [if_pos ok1, if_pos hu1]
  have w2 : whyB (mapB (markM (cRem u f)) (mapB (markM (cAdd u f)) b)) u = 0 := by unfold whyB; rw [if_pos ok2, if_pos hu2]
  have hb4 := bits_a (findL b.ms u).fl f hfine hf
  exact ⟨d2, d4, ok1, w1, w2, hb4.2.1, hb4.2.2.2, rfl, hb4.1, hb4.2.2.1⟩
theorem mapB_fit {g : Msg → Msg} {b : Bx} (h : FitB b) : FitB (mapB g b) := h
theorem doB_fit1 (k u f : Nat) (hk : k = 3 ∨ k = 4) {b : Bx} (h : FitB b) : FitB (doB b ⟨k, [u], f, 0, 0, 0, eB⟩) := by
  unfold doB
  split
  · split
    · unfold workB markB
      rw [if_neg (by show ¬ k = 1; omega), if_neg (by show ¬ k = 5; omega), if_neg (by show ¬ k = 6; omega)]
      split
      · exact h
      · exact h
    · exact h
  · exact ⟨by decide, by decide, by decide, by decide⟩
end Go.Proofs.YtnhcpkcpgpobdaaDoor

/-
  What missivelaw19.BoxPlaces does, over this seat's program: it answers true.
-/
set_option linter.unusedVariables false
set_option linter.unusedSimpArgs false
namespace Go.Proofs.YtnhcpkcpgpobdaaDoor
open Go.RowKit

/-- box.Do that adds, or removes, a flag of one mail. -/
theorem do_flag (k u f : Nat) (hk : k = 3 ∨ k = 4) (b : Bx) (v : Value) (W : World) (ht : LTab W) (h : RowM W v b.ms) (hf : FitB b) (hu : u ≤ 4294967295) (hf8 : f ≤ 255) (vc : Value) (hc : Row32 W vc [u]) :
    Calls Tryd.prog 9 #[bxV b v, chV ⟨k, [u], f, 0, 0, 0, eB⟩ vc] W fun e w' => (∃ a c1 u', e = .returned (.tuple #[bxV (doB b ⟨k, [u], f, 0, 0, 0, eB⟩) (.slice a (doB b ⟨k, [u], f, 0, 0, 0, eB⟩).ms.length c1), u', .int .i64 (doE b ⟨k, [u], f, 0, 0, 0, eB⟩ : Int)]) ∧ RowM w' (.slice a (doB b ⟨k, [u], f, 0, 0, 0, eB⟩).ms.length c1) (doB b ⟨k, [u], f, 0, 0, 0, eB⟩).ms) ∧ Below W.heap.size W w' := by
  refine (bdo_any b ⟨k, [u], f, 0, 0, 0, eB⟩ v vc W ht h hc hf ⟨by show k ≤ _; omega, hf8, i64_zero, i64_zero, i64_zero, by show eB.size ≤ 16777216; decide⟩).mono ?_
  rintro e w' ⟨⟨v', u', rfl, h1, h2⟩, h3⟩
  obtain ⟨a, c1, rfl, _⟩ := own_sliceG h1.1
  exact ⟨⟨a, c1, u', rfl, h1.row⟩, h3⟩

set_option maxHeartbeats 8000000 in
set_option maxRecDepth 100000 in
theorem boxPlaces_walk (b : Bx) (v : Value) (u f : Nat) (w : World) (ht : LTab w) (h : RowM w v b.ms) (hf : FitB b) (hu : u ≤ 4294967295) (hf8 : f ≤ 255) :
    Calls Tryd.prog 7 #[bxV b v, .int .u32 (u : Int), .int .u8 (f : Int)] w fun e w' => e = .returned (.bool true) ∧ Below w.heap.size w w' := by
  have HL := hide (fun X (hX : LTab X) => livesB_any X hX)
  have HPL := hide (fun X (hX : LTab X) (hR : RowM X v b.ms) => place_any b v u X hX hR hf hu)
  have HUI := hide (fun X (hX : LTab X) (hR : RowM X v b.ms) => uids_any b v X hX hR hf)
  have HRW := hide (fun X (hX : Below w.heap.size w X) => h.below hX)
  have HTW := hide (fun X (hX : Below w.heap.size w X) => ht.below hX)
  have HD1 := hide (fun X (hX : LTab X) (hR : RowM X v b.ms) vc (hc : Row32 X vc [u]) => do_flag 3 u f (Or.inl rfl) b v X hX hR hf hu hf8 vc hc)
  have hfx : FitB (doB b (cAdd u f)) := doB_fit1 3 u f (Or.inl rfl) hf
  have hfy : FitB (doB (doB b (cAdd u f)) (cRem u f)) := doB_fit1 4 u f (Or.inr rfl) hfx
  have HX : ∀ X1, doB b ⟨3, [u], f, 0, 0, 0, eB⟩ = X1 → Hid ((∀ W vx, LTab W → RowM W vx X1.ms → Calls Tryd.prog 20 #[bxV X1 vx, .int .u32 (u : Int)] W fun e w' => e = .returned (.tuple #[msV (findB X1 u), .int .i64 (whyB X1 u : Int)]) ∧ Below W.heap.size W w') ∧
      (∀ W vx vc, LTab W → RowM W vx X1.ms → Row32 W vc [u] → Calls Tryd.prog 9 #[bxV X1 vx, chV ⟨4, [u], f, 0, 0, 0, eB⟩ vc] W fun e w' => (∃ a c1 u', e = .returned (.tuple #[bxV (doB X1 ⟨4, [u], f, 0, 0, 0, eB⟩) (.slice a (doB X1 ⟨4, [u], f, 0, 0, 0, eB⟩).ms.length c1), u', .int .i64 (doE X1 ⟨4, [u], f, 0, 0, 0, eB⟩ : Int)]) ∧ RowM w' (.slice a (doB X1 ⟨4, [u], f, 0, 0, 0, eB⟩).ms.length c1) (doB X1 ⟨4, [u], f, 0, 0, 0, eB⟩).ms) ∧ Below W.heap.size W w') ∧
      ∀ Y1, doB X1 ⟨4, [u], f, 0, 0, 0, eB⟩ = Y1 → ∀ W vx, LTab W → RowM W vx Y1.ms → Calls Tryd.prog 20 #[bxV Y1 vx, .int .u32 (u : Int)] W fun e w' => e = .returned (.tuple #[msV (findB Y1 u), .int .i64 (whyB Y1 u : Int)]) ∧ Below W.heap.size W w') := by
    rintro X1 rfl
    exact hide ⟨fun W vx h1 h2 => bfind_any _ vx u W h1 h2 hfx hu, fun W vx vc h1 h2 h3 => do_flag 4 u f (Or.inr rfl) _ vx W h1 h2 hfx hu hf8 vc h3, by rintro Y1 rfl W vx h1 h2; exact bfind_any _ vx u W h1 h2 hfy hu⟩
  have hcase : (chkB b = 2 ∧ placeB b u = 0 ∧ whyB b u = 2) ∨ (chkB b = 0 ∧ placeB b u = 0 ∧ whyB b u = 3 ∧ u ∉ aboveB 0 b) ∨
      (chkB b = 0 ∧ okB b = true ∧ u ∈ uidsM b.ms ∧ whyB b u = 0 ∧ ∃ i, placeB b u = i + 1 ∧ ∃ hi : i < (aboveB 0 b).length, (aboveB 0 b)[i] = u ∧ i ≤ 4096) := by
    unfold chkB placeB whyB aboveB
    cases hob : okB b with
    | false => left; exact ⟨rfl, rfl, rfl⟩
    | true =>
      right
      have hz : aboveL 0 b.ms = uidsM b.ms := aboveL_zero (fun m hm => ((mailsOk_all (okB_mails hob)).1 m hm).1)
      by_cases hin : u ∈ uidsM b.ms
      · right
        obtain ⟨m, hm, hmu⟩ := List.mem_map.1 hin
        obtain ⟨i, hi, he⟩ := List.getElem_of_mem hm
        have hat : AtU b.ms i u := ⟨m, by rw [List.getElem?_eq_getElem hi, he], hmu⟩
        have hlen := okB_len hob
        refine ⟨rfl, rfl, hin, by rw [if_pos rfl, if_pos hin], i, ?_, ?_, ?_, by omega⟩
        · rw [if_pos rfl]; unfold placeL; rw [if_pos hin, hat.idx (okB_rise hob)]
        · rw [if_pos rfl, hz, uidsM_len]; exact hi
        · simp only [if_true, hz]; rw [uidsM_get b.ms i hi, he, hmu]
      · left
        unfold placeL
        rw [if_pos rfl, if_pos rfl, if_neg hin, if_pos rfl, if_neg hin, if_pos rfl, hz]
        exact ⟨rfl, rfl, rfl, hin⟩
  have HYES : Hid (okB b = true → u ∈ uidsM b.ms → f ≤ 31 → ∀ X1, doB b ⟨3, [u], f, 0, 0, 0, eB⟩ = X1 → ∀ Y1, doB X1 ⟨4, [u], f, 0, 0, 0, eB⟩ = Y1 → doE b ⟨3, [u], f, 0, 0, 0, eB⟩ = 0 ∧ doE X1 ⟨4, [u], f, 0, 0, 0, eB⟩ = 0 ∧ whyB X1 u = 0 ∧ whyB Y1 u = 0 ∧ (findB X1 u).fl &&& f = f ∧ (findB Y1 u).fl &&& f = 0 ∧ (findB Y1 u).raw = (findB X1 u).raw ∧ (findB X1 u).fl ≤ 31 ∧ (findB Y1 u).fl ≤ 31) := hide (by
    rintro h1 h2 h3 X1 rfl Y1 rfl
    obtain ⟨p1, p2, _, p3, p4, p5, p6, p7, p8, p9⟩ := places_yes h1 h2 h3
    exact ⟨p1, p2, p3, p4, p5, p6, p7, p8, p9⟩)
  have HNO : Hid (okB b = true → ¬ f ≤ 31 → doE b ⟨3, [u], f, 0, 0, 0, eB⟩ = 2) := hide (fun h1 h2 => (do_none 3 u f (Or.inl rfl) h1 h2).2)
  obtain ⟨a, cap, rfl, hl, _, _⟩ := h
  generalize chkB b = C at hcase HUI
  generalize placeB b u = P at hcase HPL
  generalize whyB b u = Y at hcase HPL
  generalize aboveB 0 b = L at hcase HUI
  obtain ⟨X1, hX1⟩ : ∃ X1, doB b ⟨3, [u], f, 0, 0, 0, eB⟩ = X1 := ⟨_, rfl⟩
  have HX1 := HX X1 hX1
  have HYES := hide (fun h1 h2 h3 => unhide HYES h1 h2 h3 X1 hX1)
  rw [hX1] at HD1
  obtain ⟨E1, hE1⟩ : ∃ E1, doE b ⟨3, [u], f, 0, 0, 0, eB⟩ = E1 := ⟨_, rfl⟩
  rw [hE1] at HD1 HYES HNO
  clear HX hX1 hE1 hfx hfy hf ht
  obtain ⟨n, hnn⟩ : ∃ n, b.ms.length = n := ⟨_, rfl⟩
  rw [hnn] at HPL HUI HRW HD1 hl ⊢
  clear hnn
  generalize hok : (okB b = true) = OK at hcase HYES HNO
  generalize hinn : (u ∈ uidsM b.ms) = IN at hcase HYES
  clear hok hinn
  obtain ⟨va, nx, mr, la, ms⟩ := b
  obtain ⟨va2, nx2, mr2, la2, ms2⟩ := X1
  obtain ⟨Y1, hY1⟩ : ∃ Y1, doB ⟨va2, nx2, mr2, la2, ms2⟩ ⟨4, [u], f, 0, 0, 0, eB⟩ = Y1 := ⟨_, rfl⟩
  obtain ⟨E2, hE2⟩ : ∃ E2, doE ⟨va2, nx2, mr2, la2, ms2⟩ ⟨4, [u], f, 0, 0, 0, eB⟩ = E2 := ⟨_, rfl⟩
  have HF1 := hide (unhide HX1).1
  have HD2 := hide (unhide HX1).2.1
  have HF2 := hide ((unhide HX1).2.2 Y1 hY1)
  have HYES := hide (fun h1 h2 h3 => unhide HYES h1 h2 h3 Y1 hY1)
  rw [hY1, hE2] at HD2
  rw [hE2] at HYES
  clear HX1 hY1 hE2
  obtain ⟨va3, nx3, mr3, la3, ms3⟩ := Y1
  obtain ⟨M1, hM1⟩ : ∃ M1, findB ⟨va2, nx2, mr2, la2, ms2⟩ u = M1 := ⟨_, rfl⟩
  obtain ⟨M2, hM2⟩ : ∃ M2, findB ⟨va3, nx3, mr3, la3, ms3⟩ u = M2 := ⟨_, rfl⟩
  obtain ⟨Y2, hY2⟩ : ∃ Y2, whyB ⟨va2, nx2, mr2, la2, ms2⟩ u = Y2 := ⟨_, rfl⟩
  obtain ⟨Y3, hY3⟩ : ∃ Y3, whyB ⟨va3, nx3, mr3, la3, ms3⟩ u = Y3 := ⟨_, rfl⟩
  rw [hM1, hY2] at HF1
  rw [hM2, hY3] at HF2
  rw [hM1, hM2, hY2, hY3] at HYES
  clear hM1 hM2 hY2 hY3
  obtain ⟨u1, g1, d1, s1, z1, r1⟩ := M1
  obtain ⟨u2, g2, d2, s2, z2, r2⟩ := M2
  simp only [bxV, bxC, chV, chC, msV] at *
  have HA := hide (show Below w.heap.size w (w.alloc (.cells #[.int .u32 (va : Int), .int .u64 (nx : Int), .int .u32 (mr : Int), .int .u32 (la : Int), .slice a n cap] 26)) from (Below.refl _ w).alloc (Nat.le_refl _) _)
  have KB := hide (Blk.new w 26 #[.int .u32 (va : Int), .int .u64 (nx : Int), .int .u32 (mr : Int), .int .u32 (la : Int), .slice a n cap])
  rcases hcase with ⟨rfl, rfl, rfl⟩ | ⟨rfl, rfl, rfl, hnot⟩ | ⟨rfl, hok, hin, rfl, i, rfl, hi, hget, hi4⟩
  · clear HYES HNO HD1 HF1 HD2 HF2
    go_enter Tryd.func7, Tryd.ntmps7
    go_wp2_with fail
    refine (unhide HL _ (unhide HTW _ (unhide HA))).mono ?_
    rintro e w1 ⟨rfl, b1⟩
    have KB := hide ((unhide KB).below b1)
    have BW := hide (belows' (unhide HA) b1)
    clear b1 HA HL
    have c0 := (unhide KB).cell 0
    have c1 := (unhide KB).cell 1
    have c2 := (unhide KB).cell 2
    have c3 := (unhide KB).cell 3
    have c4 := (unhide KB).cell 4
    simp only [List.getElem?_toArray, List.getElem?_cons_succ, List.getElem?_cons_zero] at c0 c1 c2 c3 c4
    go_wp2_with fail
    refine (unhide HPL _ (unhide HTW _ (unhide BW)) (unhide HRW _ (unhide BW))).mono ?_
    rintro e w2 ⟨rfl, b2⟩
    have KB := hide ((unhide KB).below b2)
    have BW := hide (belows' (unhide BW) b2)
    clear b2 HPL c0 c1 c2 c3 c4
    have c0 := (unhide KB).cell 0
    have c1 := (unhide KB).cell 1
    have c2 := (unhide KB).cell 2
    have c3 := (unhide KB).cell 3
    have c4 := (unhide KB).cell 4
    simp only [List.getElem?_toArray, List.getElem?_cons_succ, List.getElem?_cons_zero] at c0 c1 c2 c3 c4
    go_wp2_with fail
    refine (unhide HUI _ (unhide HTW _ (unhide BW)) (unhide HRW _ (unhide BW))).mono ?_
    rintro e w3 ⟨⟨vl, rfl, hvl⟩, b3⟩
    obtain ⟨al, cl, rfl, _⟩ := own_sliceG hvl.1
    have OL := hide hvl
    have KB := hide ((unhide KB).below b3)
    have BW := hide (belows' (unhide BW) b3)
    clear b3 hvl HUI c0 c1 c2 c3 c4
    go_wp2
    go_ret
    exact ⟨rfl, unhide BW⟩
  · clear HYES HNO HD1 HF1 HD2 HF2
    have HNT := hide hnot
    clear hnot
    go_enter Tryd.func7, Tryd.ntmps7
    go_wp2_with fail
    refine (unhide HL _ (unhide HTW _ (unhide HA))).mono ?_
    rintro e w1 ⟨rfl, b1⟩
    have KB := hide ((unhide KB).below b1)
    have BW := hide (belows' (unhide HA) b1)
    clear b1 HA HL
    have c0 := (unhide KB).cell 0
    have c1 := (unhide KB).cell 1
    have c2 := (unhide KB).cell 2
    have c3 := (unhide KB).cell 3
    have c4 := (unhide KB).cell 4
    simp only [List.getElem?_toArray, List.getElem?_cons_succ, List.getElem?_cons_zero] at c0 c1 c2 c3 c4
    go_wp2_with fail
    refine (unhide HPL _ (unhide HTW _ (unhide BW)) (unhide HRW _ (unhide BW))).mono ?_
    rintro e w2 ⟨rfl, b2⟩
    have KB := hide ((unhide KB).below b2)
    have BW := hide (belows' (unhide BW) b2)
    clear b2 HPL c0 c1 c2 c3 c4
    have c0 := (unhide KB).cell 0
    have c1 := (unhide KB).cell 1
    have c2 := (unhide KB).cell 2
    have c3 := (unhide KB).cell 3
    have c4 := (unhide KB).cell 4
    simp only [List.getElem?_toArray, List.getElem?_cons_succ, List.getElem?_cons_zero] at c0 c1 c2 c3 c4
    go_wp2_with fail
    refine (unhide HUI _ (unhide HTW _ (unhide BW)) (unhide HRW _ (unhide BW))).mono ?_
    rintro e w3 ⟨⟨vl, rfl, hvl⟩, b3⟩
    obtain ⟨al, cl, rfl, _⟩ := own_sliceG hvl.1
    have OL := hide hvl
    have KB := hide ((unhide KB).below b3)
    have BW := hide (belows' (unhide BW) b3)
    clear b3 hvl HUI c0 c1 c2 c3 c4
    go_wp2_with fail
    refine (in_any _ L u _ (unhide OL).row hu).mono ?_
    rintro e w4 ⟨rfl, h4⟩
    subst h4
    rw [decide_eq_false (unhide HNT)]
    go_wp2
    go_ret
    exact ⟨rfl, unhide BW⟩
  · have HLI := hide (show L[i]? = some u by rw [List.getElem?_eq_getElem hi, hget])
    obtain ⟨ln, hln⟩ : ∃ ln, L.length = ln := ⟨_, rfl⟩
    have hil : i < ln := by rw [← hln]; exact hi
    have HLN := hide hln
    have HOK := hide hok
    have HIN := hide hin
    clear hget hi hok hin hln
    go_enter Tryd.func7, Tryd.ntmps7
    go_wp2_with fail
    refine (unhide HL _ (unhide HTW _ (unhide HA))).mono ?_
    rintro e w1 ⟨rfl, b1⟩
    have KB := hide ((unhide KB).below b1)
    have BW := hide (belows' (unhide HA) b1)
    clear b1 HA HL
    have c0 := (unhide KB).cell 0
    have c1 := (unhide KB).cell 1
    have c2 := (unhide KB).cell 2
    have c3 := (unhide KB).cell 3
    have c4 := (unhide KB).cell 4
    simp only [List.getElem?_toArray, List.getElem?_cons_succ, List.getElem?_cons_zero] at c0 c1 c2 c3 c4
    go_wp2_with fail
    refine (unhide HPL _ (unhide HTW _ (unhide BW)) (unhide HRW _ (unhide BW))).mono ?_
    rintro e w2 ⟨rfl, b2⟩
    have KB := hide ((unhide KB).below b2)
    have BW := hide (belows' (unhide BW) b2)
    clear b2 HPL c0 c1 c2 c3 c4
    have c0 := (unhide KB).cell 0
    have c1 := (unhide KB).cell 1
    have c2 := (unhide KB).cell 2
    have c3 := (unhide KB).cell 3
    have c4 := (unhide KB).cell 4
    simp only [List.getElem?_toArray, List.getElem?_cons_succ, List.getElem?_cons_zero] at c0 c1 c2 c3 c4
    go_wp2_with fail
    refine (unhide HUI _ (unhide HTW _ (unhide BW)) (unhide HRW _ (unhide BW))).mono ?_
    rintro e w3 ⟨⟨vl, rfl, hvl⟩, b3⟩
    obtain ⟨al, cl, rfl, _⟩ := own_sliceG hvl.1
    have OL := hide hvl
    have KB := hide ((unhide KB).below b3)
    have BW := hide (belows' (unhide BW) b3)
    clear b3 hvl HUI c0 c1 c2 c3 c4
    obtain ⟨gl, cpl, hv1, _, hgl, hcl, _⟩ := ownG_at cells32_len (unhide OL).1 (j := i) (by rw [unhide HLN]; exact hil)
    rw [unhide HLN] at hv1 ⊢
    injection hv1 with q1 q2 q3
    subst q1
    have cu0 := hcl 0 (by omega)
    have hLi : L[i]'(by rw [unhide HLN]; exact hil) = u := by
      have := unhide HLI
      rw [List.getElem?_eq_getElem (by rw [unhide HLN]; exact hil)] at this
      injection this
    rw [hLi] at cu0
    simp only [cells32, List.getElem?_cons_zero, Nat.add_zero, Nat.mul_one] at cu0
    clear q2 q3 hcl hLi HLI
    have k1 : decide (((i + 1 : Nat) : Int) < 1) = false := decide_eq_false (by omega)
    have k1b : decide ((i : Int) + 1 < 1) = false := decide_eq_false (by omega)
    have k2 : decide (((i + 1 : Nat) : Int) > (ln : Int)) = false := decide_eq_false (by omega)
    have k2b : decide ((i : Int) + 1 > (ln : Int)) = false := decide_eq_false (by omega)
    have k2c : decide (ln < i + 1) = false := decide_eq_false (by omega)
    have k2d : decide ((ln : Int) < (i : Int) + 1) = false := decide_eq_false (by omega)
    have k3 : IntKind.i64.wrap ((i : Int) + 1 - 1) = (i : Int) := by rw [IntKind.wrap_i64]; omega
    have hii : (i : Int) < (ln : Int) := by omega
    have k4 : ((u : Int) != (u : Int)) = false := by simp
    have c0 := (unhide KB).cell 0
    have c1 := (unhide KB).cell 1
    have c2 := (unhide KB).cell 2
    have c3 := (unhide KB).cell 3
    have c4 := (unhide KB).cell 4
    simp only [List.getElem?_toArray, List.getElem?_cons_succ, List.getElem?_cons_zero] at c0 c1 c2 c3 c4
    have hL : Below w3.heap.size w3 (w3.alloc (.cells #[.int .u32 (u : Int)] 22)) := (Below.refl _ w3).alloc (Nat.le_refl _) _
    have RL := hide (lit32 w3 [u] #[.int .u32 (u : Int)] rfl rfl (by simp) (by simpa using hu))
    have KB2 := hide ((unhide KB).below hL)
    have BW2 := hide (belows' (unhide BW) hL)
    clear hL OL
    go_wp2_with fail
    refine (unhide HD1 _ (unhide HTW _ (unhide BW2)) (unhide HRW _ (unhide BW2)) _ (unhide RL)).mono ?_
    rintro e w4 ⟨⟨ax, cx, ux, rfl, hrx⟩, b4⟩
    have BW := hide (belows' (unhide BW2) b4)
    have RX := hide hrx
    clear hrx b4 BW2 KB KB2 RL HD1 c0 c1 c2 c3 c4 cu0
    go_upto_region 10 with (fail)
    obtain ⟨nx2l, hx2⟩ : ∃ q, ms2.length = q := ⟨_, rfl⟩
    rw [hx2] at RX ⊢
    clear hx2
    have hA : Below w4.heap.size w4 (w4.alloc (.cells #[.int .u32 (va2 : Int), .int .u64 (nx2 : Int), .int .u32 (mr2 : Int), .int .u32 (la2 : Int), .slice ax nx2l cx] 26)) := (Below.refl _ w4).alloc (Nat.le_refl _) _
    have KX := hide (Blk.new w4 26 #[.int .u32 (va2 : Int), .int .u64 (nx2 : Int), .int .u32 (mr2 : Int), .int .u32 (la2 : Int), .slice ax nx2l cx])
    have BW := hide (belows' (unhide BW) hA)
    have RX := hide ((unhide RX).below hA)
    clear hA
    generalize w4.alloc (.cells #[.int .u32 (va2 : Int), .int .u64 (nx2 : Int), .int .u32 (mr2 : Int), .int .u32 (la2 : Int), .slice ax nx2l cx] 26) = V4 at KX BW RX ⊢
    generalize w4.heap.size = BX at KX ⊢
    have c0 := (unhide KX).cell 0
    have c1 := (unhide KX).cell 1
    have c2 := (unhide KX).cell 2
    have c3 := (unhide KX).cell 3
    have c4 := (unhide KX).cell 4
    simp only [List.getElem?_toArray, List.getElem?_cons_succ, List.getElem?_cons_zero] at c0 c1 c2 c3 c4
    go_wp2_with fail
    refine (unhide HF1 _ _ (unhide HTW _ (unhide BW)) (unhide RX)).mono ?_
    rintro e w5 ⟨rfl, b5⟩
    have BW := hide (belows' (unhide BW) b5)
    have KX := hide ((unhide KX).below b5)
    have RX := hide ((unhide RX).below b5)
    clear b5 HF1 c0 c1 c2 c3 c4
    go_upto_region 11 with (fail)
    have hA : Below w5.heap.size w5 (w5.alloc (.cells #[.int .u32 (u1 : Int), .int .u8 (g1 : Int), .int .i64 d1, .int .i64 s1, .int .i64 z1, .string r1] 47)) := (Below.refl _ w5).alloc (Nat.le_refl _) _
    have KM1 := hide (Blk.new w5 47 #[.int .u32 (u1 : Int), .int .u8 (g1 : Int), .int .i64 d1, .int .i64 s1, .int .i64 z1, .string r1])
    have BW := hide (belows' (unhide BW) hA)
    have RX := hide ((unhide RX).below hA)
    have KX := hide ((unhide KX).below hA)
    clear hA
    generalize w5.alloc (.cells #[.int .u32 (u1 : Int), .int .u8 (g1 : Int), .int .i64 d1, .int .i64 s1, .int .i64 z1, .string r1] 47) = V5 at KM1 BW RX KX ⊢
    generalize w5.heap.size = BM1 at KM1 ⊢
    have c0 := (unhide KX).cell 0
    have c1 := (unhide KX).cell 1
    have c2 := (unhide KX).cell 2
    have c3 := (unhide KX).cell 3
    have c4 := (unhide KX).cell 4
    simp only [List.getElem?_toArray, List.getElem?_cons_succ, List.getElem?_cons_zero] at c0 c1 c2 c3 c4
    have hL : Below V5.heap.size V5 (V5.alloc (.cells #[.int .u32 (u : Int)] 22)) := (Below.refl _ V5).alloc (Nat.le_refl _) _
    have RL := hide (lit32 V5 [u] #[.int .u32 (u : Int)] rfl rfl (by simp) (by simpa using hu))
    have BW := hide (belows' (unhide BW) hL)
    have RX := hide ((unhide RX).below hL)
    have KM1 := hide ((unhide KM1).below hL)
    clear hL
    go_wp2_with fail
    refine (unhide HD2 _ _ _ (unhide HTW _ (unhide BW)) (unhide RX) (unhide RL)).mono ?_
    rintro e w6 ⟨⟨ay, cy, uy, rfl, hry⟩, b6⟩
    have BW := hide (belows' (unhide BW) b6)
    have RY := hide hry
    have KM1 := hide ((unhide KM1).below b6)
    clear hry b6 RX KX RL HD2 c0 c1 c2 c3 c4
    go_upto_region 12 with (fail)
    obtain ⟨ny3l, hy3⟩ : ∃ q, ms3.length = q := ⟨_, rfl⟩
    rw [hy3] at RY ⊢
    clear hy3
    have hA : Below w6.heap.size w6 (w6.alloc (.cells #[.int .u32 (va3 : Int), .int .u64 (nx3 : Int), .int .u32 (mr3 : Int), .int .u32 (la3 : Int), .slice ay ny3l cy] 26)) := (Below.refl _ w6).alloc (Nat.le_refl _) _
    have KY := hide (Blk.new w6 26 #[.int .u32 (va3 : Int), .int .u64 (nx3 : Int), .int .u32 (mr3 : Int), .int .u32 (la3 : Int), .slice ay ny3l cy])
    have BW := hide (belows' (unhide BW) hA)
    have RY := hide ((unhide RY).below hA)
    have KM1 := hide ((unhide KM1).below hA)
    clear hA
    generalize w6.alloc (.cells #[.int .u32 (va3 : Int), .int .u64 (nx3 : Int), .int .u32 (mr3 : Int), .int .u32 (la3 : Int), .slice ay ny3l cy] 26) = V6 at KY BW RY KM1 ⊢
    generalize w6.heap.size = BY at KY ⊢
    have c0 := (unhide KY).cell 0
    have c1 := (unhide KY).cell 1
    have c2 := (unhide KY).cell 2
    have c3 := (unhide KY).cell 3
    have c4 := (unhide KY).cell 4
    simp only [List.getElem?_toArray, List.getElem?_cons_succ, List.getElem?_cons_zero] at c0 c1 c2 c3 c4
    go_wp2_with fail
    refine (unhide HF2 _ _ (unhide HTW _ (unhide BW)) (unhide RY)).mono ?_
    rintro e w7 ⟨rfl, b7⟩
    have BW := hide (belows' (unhide BW) b7)
    have KM1 := hide ((unhide KM1).below b7)
    clear b7 HF2 RY KY c0 c1 c2 c3 c4
    go_upto_region 13 with (fail)
    have hA : Below w7.heap.size w7 (w7.alloc (.cells #[.int .u32 (u2 : Int), .int .u8 (g2 : Int), .int .i64 d2, .int .i64 s2, .int .i64 z2, .string r2] 47)) := (Below.refl _ w7).alloc (Nat.le_refl _) _
    have KM2 := hide (Blk.new w7 47 #[.int .u32 (u2 : Int), .int .u8 (g2 : Int), .int .i64 d2, .int .i64 s2, .int .i64 z2, .string r2])
    have BW := hide (belows' (unhide BW) hA)
    have KM1 := hide ((unhide KM1).below hA)
    clear hA
    generalize w7.alloc (.cells #[.int .u32 (u2 : Int), .int .u8 (g2 : Int), .int .i64 d2, .int .i64 s2, .int .i64 z2, .string r2] 47) = V7 at KM2 BW KM1 ⊢
    generalize w7.heap.size = BM2 at KM2 ⊢
    by_cases hf31 : f ≤ 31
    · obtain ⟨rfl, rfl, rfl, rfl, p5, p6, p7, p8, p9⟩ := unhide HYES (unhide HOK) (unhide HIN) hf31
      (try simp only at p5 p6 p7 p8 p9)
      have hx1 : bits .and .u8 (g1 : Int) (f : Int) = (f : Int) := by rw [u8_and_nat g1 f (by omega) (by omega), p5]
      have hx2 : bits .and .u8 (g2 : Int) (f : Int) = 0 := by rw [u8_and_nat g2 f (by omega) (by omega), p6]; rfl
      subst p7
      have hx3 : (r2.toList == r2.toList) = true := by simp
      have m1 := (unhide KM1).cell 1
      have m5 := (unhide KM1).cell 5
      have n1 := (unhide KM2).cell 1
      have n5 := (unhide KM2).cell 5
      simp only [List.getElem?_toArray, List.getElem?_cons_succ, List.getElem?_cons_zero] at m1 m5 n1 n5
      clear p5 p6 p8 p9 HYES HNO HOK HIN KM1 KM2 hf31
      go_wp2
      go_ret
      exact ⟨rfl, unhide BW⟩
    · have hE := unhide HNO (unhide HOK) hf31
      subst hE
      have hx1 : decide ((f : Int) > 31) = true := decide_eq_true (by omega)
      clear HYES HNO HOK HIN KM1 KM2 hf31
      go_wp2
      go_ret
      exact ⟨rfl, unhide BW⟩
end Go.Proofs.YtnhcpkcpgpobdaaDoor
