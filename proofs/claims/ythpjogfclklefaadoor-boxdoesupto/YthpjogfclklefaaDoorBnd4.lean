/-
  What the document's Do of a box does, over this seat's program: a box that is not right.
-/
import Derived.Test.YthpjogfclklefaaDoorRxw
import Derived.Test.YthpjogfclklefaaDoorBnd3
set_option linter.unusedVariables false
set_option linter.unusedSimpArgs false
namespace Go.Proofs.YthpjogfclklefaaDoor
open Go.RowKit

set_option maxHeartbeats 8000000 in
set_option maxRecDepth 100000 in
theorem refDo_badB (b : Bx) (c : Chg) (v vc : Value) (w : World) (h : RowM w v b.ms) (hu : Row32 w vc c.us) (hf : FitB b) (hfc : FitC c) (hob : okB b = false) :
    Calls Tryd.prog 7 #[bxV b v, chV c vc] w fun e w' => (∃ v' u', e = .returned (.tuple #[bxV (doB b c) v', u', .int .i64 (doE b c : Int)]) ∧ OutM w' v' (doB b c).ms ∧ OutT w' u' (doT b c)) ∧ Below w.heap.size w w' := by
  have HCK := hide (fun X (hR : RowM X v b.ms) => refBCheck_any b v X hR hf)
  have HFM := hide h.choose_spec.choose_spec.2.2.1
  have hb1 := (((Below.refl _ w).alloc (Nat.le_refl _) (Obj.cells (bxC b v) 26)).alloc (by simp) (Obj.cells (chC c vc) 33)).alloc (by simp; omega) (Obj.cells #[.int .u32 0, .int .u64 0, .int .u32 0, .int .u32 0, .slice none 0 0] 26)
  have k0 := ((Blk.new w 26 (bxC b v)).below ((Below.refl _ _).alloc (Nat.le_refl _) (Obj.cells (chC c vc) 33))).below ((Below.refl _ _).alloc (Nat.le_refl _) (Obj.cells #[.int .u32 0, .int .u64 0, .int .u32 0, .int .u32 0, .slice none 0 0] 26))
  have k1 := (Blk.new (w.alloc (Obj.cells (bxC b v) 26)) 33 (chC c vc)).below ((Below.refl _ _).alloc (Nat.le_refl _) (Obj.cells #[.int .u32 0, .int .u64 0, .int .u32 0, .int .u32 0, .slice none 0 0] 26))
  have k2 := Blk.new ((w.alloc (Obj.cells (bxC b v) 26)).alloc (Obj.cells (chC c vc) 33)) 26 #[.int .u32 0, .int .u64 0, .int .u32 0, .int .u32 0, .slice none 0 0]
  simp only [World.size_alloc] at k1 k2
  have K0 := hide k0
  have K1 := hide k1
  have K2 := hide k2
  have HA := hide hb1
  have HRA := hide (h.below hb1)
  have HUA := hide (hu.below hb1)
  clear k0 k1 k2 hb1
  have e1 : doB b c = zeroB := by unfold doB; rw [hob]; rfl
  have e2 : doT b c = [] := by unfold doT; rw [hob]; rfl
  have e3 : doE b c = 2 := by unfold doE; rw [hob]; rfl
  have e4 : chkB b = 2 := by unfold chkB; rw [hob]; rfl
  rw [e1, e2, e3]
  rw [e4] at HCK
  obtain ⟨a, cap, rfl, hl, _, _⟩ := h
  obtain ⟨au, cu, rfl, hl2, _, _⟩ := hu
  clear e1 e2 e3 e4 hob hf hfc HFM
  obtain ⟨va, nx, mr, la, ms⟩ := b
  obtain ⟨kd, us, fl, dy, sc, zn, raw⟩ := c
  simp only [bxV, bxC, chV, chC, zeroB] at *
  generalize ms.length = n at *
  generalize us.length = un at *
  go_enter Tryd.func7, Tryd.ntmps7
  go_wp2_with fail
  refine (unhide HCK _ (unhide HRA)).mono ?_
  rintro e w1 ⟨rfl, b1⟩
  have kq := hide ((unhide K2).below b1)
  have hs1 := b1.size
  simp only [World.size_alloc] at hs1
  have r0 := (unhide kq).cell 0
  have r1 := (unhide kq).cell 1
  have r2 := (unhide kq).cell 2
  have r3 := (unhide kq).cell 3
  have r4 := (unhide kq).cell 4
  have f0 := (unhide kq).frozen 0
  have f1 := (unhide kq).frozen 1
  have f2 := (unhide kq).frozen 2
  have f3 := (unhide kq).frozen 3
  have f4 := (unhide kq).frozen 4
  simp only [List.getElem?_toArray, List.getElem?_cons_succ, List.getElem?_cons_zero] at r0 r1 r2 r3 r4
  have HB5 := hide (below5 (s := w.heap.size + 1 + 1) (belows' (unhide HA) b1) (by omega))
  clear kq b1 K0 K1 K2 HA HRA HUA HCK
  go_wp2
  (try simp only [Exit.inBlock, Exit.then])
  refine bodyPost_ret (v := .tuple #[.agg #[.int .u32 0, .int .u64 0, .int .u32 0, .int .u32 0, .slice none 0 0], .slice none 0 0, .int .i64 2]) ?_ rfl ⟨⟨.slice none 0 0, .slice none 0 0, rfl, OutM.nil _, OutT.nil _⟩, unhide HB5 _ _ _ _ _⟩
  rw [results_cell_tmp2 rfl]
  go_simp
end Go.Proofs.YthpjogfclklefaaDoor

/-
  What the document's Do of a box does, over this seat's program: a change that is not right.
-/
set_option linter.unusedVariables false
set_option linter.unusedSimpArgs false
namespace Go.Proofs.YthpjogfclklefaaDoor
open Go.RowKit

set_option maxHeartbeats 8000000 in
set_option maxRecDepth 100000 in
theorem refDo_badC (b : Bx) (c : Chg) (v vc : Value) (w : World) (h : RowM w v b.ms) (hu : Row32 w vc c.us) (hf : FitB b) (hfc : FitC c) (hob : okB b = true) (hoc : okC c = false) :
    Calls Tryd.prog 7 #[bxV b v, chV c vc] w fun e w' => (∃ v' u', e = .returned (.tuple #[bxV (doB b c) v', u', .int .i64 (doE b c : Int)]) ∧ OutM w' v' (doB b c).ms ∧ OutT w' u' (doT b c)) ∧ Below w.heap.size w w' := by
  have HCK := hide (fun X (hR : RowM X v b.ms) => refBCheck_any b v X hR hf)
  have HFM := hide h.choose_spec.choose_spec.2.2.1
  have hb1 := (((Below.refl _ w).alloc (Nat.le_refl _) (Obj.cells (bxC b v) 26)).alloc (by simp) (Obj.cells (chC c vc) 33)).alloc (by simp; omega) (Obj.cells #[.int .u32 0, .int .u64 0, .int .u32 0, .int .u32 0, .slice none 0 0] 26)
  have k0 := ((Blk.new w 26 (bxC b v)).below ((Below.refl _ _).alloc (Nat.le_refl _) (Obj.cells (chC c vc) 33))).below ((Below.refl _ _).alloc (Nat.le_refl _) (Obj.cells #[.int .u32 0, .int .u64 0, .int .u32 0, .int .u32 0, .slice none 0 0] 26))
  have k1 := (Blk.new (w.alloc (Obj.cells (bxC b v) 26)) 33 (chC c vc)).below ((Below.refl _ _).alloc (Nat.le_refl _) (Obj.cells #[.int .u32 0, .int .u64 0, .int .u32 0, .int .u32 0, .slice none 0 0] 26))
  have k2 := Blk.new ((w.alloc (Obj.cells (bxC b v) 26)).alloc (Obj.cells (chC c vc) 33)) 26 #[.int .u32 0, .int .u64 0, .int .u32 0, .int .u32 0, .slice none 0 0]
  simp only [World.size_alloc] at k1 k2
  have K0 := hide k0
  have K1 := hide k1
  have K2 := hide k2
  have HA := hide hb1
  have HRA := hide (h.below hb1)
  have HUA := hide (hu.below hb1)
  clear k0 k1 k2 hb1
  have hlen := okB_len hob
  have hrise := okB_rise hob
  have hhd := okB_head hob
  have e4 : chkB b = 0 := by unfold chkB; rw [hob]; rfl
  rw [e4] at HCK
  have HCP := hide (fun X (hR : RowM X v b.ms) => refCopy_any b v X hR (by omega))
  have HRG := hide (fun X (hR : Row32 X vc c.us) => refBRight_any c vc X hR hfc)
  have e1 : doB b c = b := by unfold doB; rw [hob, hoc]; rfl
  have e2 : doT b c = [] := by unfold doT; rw [hob, hoc]; rfl
  have e3 : doE b c = 2 := by unfold doE; rw [hob, hoc]; rfl
  have e5 : rightC c = 2 := by unfold rightC; rw [hoc]; rfl
  rw [e1, e2, e3]
  rw [e5] at HRG
  clear e1 e2 e3 e5 hoc hfc
  have HLE := hide hlen
  have HRI := hide hrise
  have HHD := hide hhd
  have HR0 := hide h
  have HU0 := hide hu
  obtain ⟨a, cap, rfl, hl, _, _⟩ := h
  obtain ⟨au, cu, rfl, hl2, _, _⟩ := hu
  clear e4 hob hf hlen hrise hhd
  obtain ⟨va, nx, mr, la, ms⟩ := b
  obtain ⟨kd, us, fl, dy, sc, zn, raw⟩ := c
  simp only [bxV, bxC, chV, chC] at *
  obtain ⟨n, hnn⟩ : ∃ n, ms.length = n := ⟨_, rfl⟩
  obtain ⟨un, hun⟩ : ∃ un, us.length = un := ⟨_, rfl⟩
  rw [hnn] at HCK HRA K0 K1 K2 HA HUA HCP HLE HR0 hl ⊢
  rw [hun] at HRG HUA HRA K0 K1 K2 HA HU0 hl2 ⊢
  have HNN := hide hnn
  have HUN := hide hun
  clear hnn hun
  go_enter Tryd.func7, Tryd.ntmps7
  go_wp2_with fail
  refine (unhide HCK _ (unhide HRA)).mono ?_
  rintro e w1 ⟨rfl, b1⟩
  have B1 := hide (belows' (unhide HA) b1)
  have J0 := hide ((unhide K0).below b1)
  have J1 := hide ((unhide K1).below b1)
  have J2 := hide ((unhide K2).below b1)
  have HR1 := hide ((unhide HRA).below b1)
  have HU1 := hide ((unhide HUA).below b1)
  have hs1 := b1.size
  simp only [World.size_alloc] at hs1
  clear b1 K0 K1 K2 HA HRA HUA HCK
  have c0 := (unhide J0).cell 0
  have c1 := (unhide J0).cell 1
  have c2 := (unhide J0).cell 2
  have c3 := (unhide J0).cell 3
  have c4 := (unhide J0).cell 4
  simp only [List.getElem?_toArray, List.getElem?_cons_succ, List.getElem?_cons_zero] at c0 c1 c2 c3 c4
  go_wp2_with fail
  refine (unhide HCP _ (unhide HR1)).mono ?_
  rintro e w2 ⟨⟨vm, rfl, own2⟩, b2⟩
  obtain ⟨am, cm, rfl, _⟩ := own_sliceG own2
  have hA3 : Below w2.heap.size w2 (w2.alloc (.cells #[.int .u32 (va : Int), .int .u64 (nx : Int), .int .u32 (mr : Int), .int .u32 (la : Int), .slice am ms.length cm] 26)) := (Below.refl _ w2).alloc (Nat.le_refl _) _
  have hs2 := b2.size
  have B3 := hide (belows' (belows' (unhide B1) b2) hA3)
  have L0 := hide (((unhide J0).below b2).below hA3)
  have L1 := hide (((unhide J1).below b2).below hA3)
  have L2 := hide (((unhide J2).below b2).below hA3)
  have HU3 := hide (((unhide HU1).below b2).below hA3)
  have HR3 := hide (((unhide HR1).below b2).below hA3)
  have HO3 := hide (own_below own2 hA3)
  have LX := hide (Blk.new w2 26 #[.int .u32 (va : Int), .int .u64 (nx : Int), .int .u32 (mr : Int), .int .u32 (la : Int), .slice am ms.length cm])
  have hs3 : (w2.alloc (.cells #[.int .u32 (va : Int), .int .u64 (nx : Int), .int .u32 (mr : Int), .int .u32 (la : Int), .slice am ms.length cm] 26)).heap.size = w2.heap.size + 1 := by simp
  rw [unhide HNN] at B3 L0 L1 L2 HU3 HR3 HO3 LX hs3
  clear own2 hA3 b2 B1 J0 J1 J2 HU1 HR1 HCP c0 c1 c2 c3 c4
  have d0 := (unhide L1).cell 0
  have d1 := (unhide L1).cell 1
  have d2 := (unhide L1).cell 2
  have d3 := (unhide L1).cell 3
  have d4 := (unhide L1).cell 4
  have d5 := (unhide L1).cell 5
  have d6 := (unhide L1).cell 6
  simp only [List.getElem?_toArray, List.getElem?_cons_succ, List.getElem?_cons_zero] at d0 d1 d2 d3 d4 d5 d6
  go_wp2_with fail
  refine (unhide HRG _ (unhide HU3)).mono ?_
  rintro e w4 ⟨rfl, b4⟩
  have B4 := hide (belows' (unhide B3) b4)
  have M0 := hide ((unhide L0).below b4)
  have M1 := hide ((unhide L1).below b4)
  have M2 := hide ((unhide L2).below b4)
  have MX := hide ((unhide LX).below b4)
  have HU4 := hide ((unhide HU3).below b4)
  have HR4 := hide ((unhide HR3).below b4)
  have HO4 := hide (own_below (unhide HO3) b4)
  have hs4 := b4.size
  rw [hs3] at hs4
  clear b4 L0 L1 L2 LX B3 HU3 HR3 HO3 HRG d0 d1 d2 d3 d4 d5 d6 hs3
  generalize w2.heap.size = P at MX hs2 hs4 ⊢
  have hP : w.heap.size + 1 + 1 + 1 ≤ w1.heap.size ∧ w1.heap.size ≤ P ∧ P < w4.heap.size ∧ w.heap.size + 1 + 1 ≠ P := by omega
  clear hs1 hs2 hs4
  have m0 := (unhide MX).cell 0
  have m1 := (unhide MX).cell 1
  have m2 := (unhide MX).cell 2
  have m3 := (unhide MX).cell 3
  have m4 := (unhide MX).cell 4
  simp only [List.getElem?_toArray, List.getElem?_cons_succ, List.getElem?_cons_zero] at m0 m1 m2 m3 m4
  have r0 := (unhide M2).cell 0
  have r1 := (unhide M2).cell 1
  have r2 := (unhide M2).cell 2
  have r3 := (unhide M2).cell 3
  have r4 := (unhide M2).cell 4
  have f0 := (unhide M2).frozen 0
  have f1 := (unhide M2).frozen 1
  have f2 := (unhide M2).frozen 2
  have f3 := (unhide M2).frozen 3
  have f4 := (unhide M2).frozen 4
  simp only [List.getElem?_toArray, List.getElem?_cons_succ, List.getElem?_cons_zero] at r0 r1 r2 r3 r4
  have HB5 := hide (below5 (s := w.heap.size + 1 + 1) (unhide B4) (by omega))
  have HO5 := hide (own5 (unhide HO4) (unhide M2) (by decide))
  have HLN := hide (show ms.length ≤ 4194304 from by have := unhide HLE; have := unhide HNN; omega)
  clear MX M0 M1 M2 HO4 B4 HR4 HU4 HR0 HU0 HLE HRI HHD
  go_wp2
  (try simp only [Exit.inBlock, Exit.then])
  refine bodyPost_ret (v := .tuple #[.agg #[.int .u32 (va : Int), .int .u64 (nx : Int), .int .u32 (mr : Int), .int .u32 (la : Int), .slice am n cm], .slice none 0 0, .int .i64 2]) ?_ rfl ⟨⟨_, .slice none 0 0, rfl, ⟨by rw [unhide HNN]; exact own_zero (unhide HO5 _ _ _ _ _), unhide HFM, unhide HLN⟩, OutT.nil _⟩, unhide HB5 _ _ _ _ _⟩
  rw [results_cell_tmp2 rfl]
  go_simp
end Go.Proofs.YthpjogfclklefaaDoor

/-
  What the document's Do of a box does, over this seat's program: a change that opens.
-/
set_option linter.unusedVariables false
set_option linter.unusedSimpArgs false
namespace Go.Proofs.YthpjogfclklefaaDoor
open Go.RowKit

set_option maxHeartbeats 8000000 in
set_option maxRecDepth 100000 in
theorem refDo_sel (b : Bx) (c : Chg) (v vc : Value) (w : World) (h : RowM w v b.ms) (hu : Row32 w vc c.us) (hf : FitB b) (hfc : FitC c) (hob : okB b = true) (hoc : okC c = true) (hk : c.kd = 6) :
    Calls Tryd.prog 7 #[bxV b v, chV c vc] w fun e w' => (∃ v' u', e = .returned (.tuple #[bxV (doB b c) v', u', .int .i64 (doE b c : Int)]) ∧ OutM w' v' (doB b c).ms ∧ OutT w' u' (doT b c)) ∧ Below w.heap.size w w' := by
  have HCK := hide (fun X (hR : RowM X v b.ms) => refBCheck_any b v X hR hf)
  have HFM := hide h.choose_spec.choose_spec.2.2.1
  have hb1 := (((Below.refl _ w).alloc (Nat.le_refl _) (Obj.cells (bxC b v) 26)).alloc (by simp) (Obj.cells (chC c vc) 33)).alloc (by simp; omega) (Obj.cells #[.int .u32 0, .int .u64 0, .int .u32 0, .int .u32 0, .slice none 0 0] 26)
  have k0 := ((Blk.new w 26 (bxC b v)).below ((Below.refl _ _).alloc (Nat.le_refl _) (Obj.cells (chC c vc) 33))).below ((Below.refl _ _).alloc (Nat.le_refl _) (Obj.cells #[.int .u32 0, .int .u64 0, .int .u32 0, .int .u32 0, .slice none 0 0] 26))
  have k1 := (Blk.new (w.alloc (Obj.cells (bxC b v) 26)) 33 (chC c vc)).below ((Below.refl _ _).alloc (Nat.le_refl _) (Obj.cells #[.int .u32 0, .int .u64 0, .int .u32 0, .int .u32 0, .slice none 0 0] 26))
  have k2 := Blk.new ((w.alloc (Obj.cells (bxC b v) 26)).alloc (Obj.cells (chC c vc) 33)) 26 #[.int .u32 0, .int .u64 0, .int .u32 0, .int .u32 0, .slice none 0 0]
  simp only [World.size_alloc] at k1 k2
  have K0 := hide k0
  have K1 := hide k1
  have K2 := hide k2
  have HA := hide hb1
  have HRA := hide (h.below hb1)
  have HUA := hide (hu.below hb1)
  clear k0 k1 k2 hb1
  have hlen := okB_len hob
  have hrise := okB_rise hob
  have hhd := okB_head hob
  have e4 : chkB b = 0 := by unfold chkB; rw [hob]; rfl
  rw [e4] at HCK
  have HCP := hide (fun X (hR : RowM X v b.ms) => refCopy_any b v X hR (by omega))
  have HRG := hide (fun X (hR : Row32 X vc c.us) => refBRight_any c vc X hR hfc)
  have e1 : doB b c = ⟨b.va, b.nx, b.la, b.nx - 1, b.ms⟩ := by unfold doB workB; rw [hob, hoc, hk]; rfl
  have e2 : doT b c = [] := by unfold doT workT; rw [hob, hoc, hk]; rfl
  have e3 : doE b c = 0 := by unfold doE workE; rw [hob, hoc, hk]; rfl
  have e5 : rightC c = 0 := by unfold rightC; rw [hoc]; rfl
  rw [e1, e2, e3]
  rw [e5] at HRG
  have HK := hide hk
  clear e1 e2 e3 e5 hoc hfc hk
  have HLE := hide hlen
  have HRI := hide hrise
  have HHD := hide hhd
  have HR0 := hide h
  have HU0 := hide hu
  obtain ⟨a, cap, rfl, hl, _, _⟩ := h
  obtain ⟨au, cu, rfl, hl2, _, _⟩ := hu
  clear e4 hob hf hlen hrise hhd
  obtain ⟨va, nx, mr, la, ms⟩ := b
  obtain ⟨kd, us, fl, dy, sc, zn, raw⟩ := c
  simp only [bxV, bxC, chV, chC] at *
  obtain ⟨n, hnn⟩ : ∃ n, ms.length = n := ⟨_, rfl⟩
  obtain ⟨un, hun⟩ : ∃ un, us.length = un := ⟨_, rfl⟩
  rw [hnn] at HCK HRA K0 K1 K2 HA HUA HCP HLE HR0 hl ⊢
  rw [hun] at HRG HUA HRA K0 K1 K2 HA HU0 hl2 ⊢
  have HNN := hide hnn
  have HUN := hide hun
  clear hnn hun
  go_enter Tryd.func7, Tryd.ntmps7
  go_wp2_with fail
  refine (unhide HCK _ (unhide HRA)).mono ?_
  rintro e w1 ⟨rfl, b1⟩
  have B1 := hide (belows' (unhide HA) b1)
  have J0 := hide ((unhide K0).below b1)
  have J1 := hide ((unhide K1).below b1)
  have J2 := hide ((unhide K2).below b1)
  have HR1 := hide ((unhide HRA).below b1)
  have HU1 := hide ((unhide HUA).below b1)
  have hs1 := b1.size
  simp only [World.size_alloc] at hs1
  clear b1 K0 K1 K2 HA HRA HUA HCK
  have c0 := (unhide J0).cell 0
  have c1 := (unhide J0).cell 1
  have c2 := (unhide J0).cell 2
  have c3 := (unhide J0).cell 3
  have c4 := (unhide J0).cell 4
  simp only [List.getElem?_toArray, List.getElem?_cons_succ, List.getElem?_cons_zero] at c0 c1 c2 c3 c4
  go_wp2_with fail
  refine (unhide HCP _ (unhide HR1)).mono ?_
  rintro e w2 ⟨⟨vm, rfl, own2⟩, b2⟩
  obtain ⟨am, cm, rfl, _⟩ := own_sliceG own2
  have hA3 : Below w2.heap.size w2 (w2.alloc (.cells #[.int .u32 (va : Int), .int .u64 (nx : Int), .int .u32 (mr : Int), .int .u32 (la : Int), .slice am ms.length cm] 26)) := (Below.refl _ w2).alloc (Nat.le_refl _) _
  have hs2 := b2.size
  have B3 := hide (belows' (belows' (unhide B1) b2) hA3)
  have L0 := hide (((unhide J0).below b2).below hA3)
  have L1 := hide (((unhide J1).below b2).below hA3)
  have L2 := hide (((unhide J2).below b2).below hA3)
  have HU3 := hide (((unhide HU1).below b2).below hA3)
  have HR3 := hide (((unhide HR1).below b2).below hA3)
  have HO3 := hide (own_below own2 hA3)
  have LX := hide (Blk.new w2 26 #[.int .u32 (va : Int), .int .u64 (nx : Int), .int .u32 (mr : Int), .int .u32 (la : Int), .slice am ms.length cm])
  have hs3 : (w2.alloc (.cells #[.int .u32 (va : Int), .int .u64 (nx : Int), .int .u32 (mr : Int), .int .u32 (la : Int), .slice am ms.length cm] 26)).heap.size = w2.heap.size + 1 := by simp
  rw [unhide HNN] at B3 L0 L1 L2 HU3 HR3 HO3 LX hs3
  clear own2 hA3 b2 B1 J0 J1 J2 HU1 HR1 HCP c0 c1 c2 c3 c4
  have d0 := (unhide L1).cell 0
  have d1 := (unhide L1).cell 1
  have d2 := (unhide L1).cell 2
  have d3 := (unhide L1).cell 3
  have d4 := (unhide L1).cell 4
  have d5 := (unhide L1).cell 5
  have d6 := (unhide L1).cell 6
  simp only [List.getElem?_toArray, List.getElem?_cons_succ, List.getElem?_cons_zero] at d0 d1 d2 d3 d4 d5 d6
  go_wp2_with fail
  refine (unhide HRG _ (unhide HU3)).mono ?_
  rintro e w4 ⟨rfl, b4⟩
  have B4 := hide (belows' (unhide B3) b4)
  have M0 := hide ((unhide L0).below b4)
  have M1 := hide ((unhide L1).below b4)
  have M2 := hide ((unhide L2).below b4)
  have MX := hide ((unhide LX).below b4)
  have HU4 := hide ((unhide HU3).below b4)
  have HR4 := hide ((unhide HR3).below b4)
  have HO4 := hide (own_below (unhide HO3) b4)
  have hs4 := b4.size
  rw [hs3] at hs4
  clear b4 L0 L1 L2 LX B3 HU3 HR3 HO3 HRG d0 d1 d2 d3 d4 d5 d6 hs3
  generalize w2.heap.size = P at MX hs2 hs4 ⊢
  have hP : w.heap.size + 1 + 1 + 1 ≤ w1.heap.size ∧ w1.heap.size ≤ P ∧ P < w4.heap.size ∧ w.heap.size + 1 + 1 ≠ P := by omega
  clear hs1 hs2 hs4
  have a0 := (unhide M0).cell 0
  have a1 := (unhide M0).cell 1
  have a2 := (unhide M0).cell 2
  have a3 := (unhide M0).cell 3
  have a4 := (unhide M0).cell 4
  simp only [List.getElem?_toArray, List.getElem?_cons_succ, List.getElem?_cons_zero] at a0 a1 a2 a3 a4
  have m0 := (unhide MX).cell 0
  have m1 := (unhide MX).cell 1
  have m2 := (unhide MX).cell 2
  have m3 := (unhide MX).cell 3
  have m4 := (unhide MX).cell 4
  have g0 := (unhide MX).frozen 0
  have g1 := (unhide MX).frozen 1
  have g2 := (unhide MX).frozen 2
  have g3 := (unhide MX).frozen 3
  have g4 := (unhide MX).frozen 4
  simp only [List.getElem?_toArray, List.getElem?_cons_succ, List.getElem?_cons_zero] at m0 m1 m2 m3 m4
  have d0 := (unhide M1).cell 0
  have d1 := (unhide M1).cell 1
  have d2 := (unhide M1).cell 2
  have d3 := (unhide M1).cell 3
  have d4 := (unhide M1).cell 4
  have d5 := (unhide M1).cell 5
  have d6 := (unhide M1).cell 6
  simp only [List.getElem?_toArray, List.getElem?_cons_succ, List.getElem?_cons_zero] at d0 d1 d2 d3 d4 d5 d6
  have r0 := (unhide M2).cell 0
  have r1 := (unhide M2).cell 1
  have r2 := (unhide M2).cell 2
  have r3 := (unhide M2).cell 3
  have r4 := (unhide M2).cell 4
  have f0 := (unhide M2).frozen 0
  have f1 := (unhide M2).frozen 1
  have f2 := (unhide M2).frozen 2
  have f3 := (unhide M2).frozen 3
  have f4 := (unhide M2).frozen 4
  simp only [List.getElem?_toArray, List.getElem?_cons_succ, List.getElem?_cons_zero] at r0 r1 r2 r3 r4
  rw [unhide HK] at d0
  have hnx := unhide HHD
  have hn1 : 1 ≤ nx ∧ nx ≤ 4294967296 := ⟨hnx.2.1, hnx.2.2.1⟩
  have hX : (nx : Int) - 1 = ((nx - 1 : Nat) : Int) := by omega
  have q1 : ((nx - 1 : Nat) : Int) % 18446744073709551616 = ((nx - 1 : Nat) : Int) := by omega
  have q2 : ((nx - 1 : Nat) : Int) % 4294967296 = ((nx - 1 : Nat) : Int) := by omega
  have x2 := (unhide MX).set 2 (.int .u32 (la : Int))
  have x3 := x2.set 3 (.int .u32 ((nx - 1 : Nat) : Int))
  simp only [List.setIfInBounds_toArray, List.set_cons_succ, List.set_cons_zero] at x2 x3
  have HB5 := hide (below5 (s := w.heap.size + 1 + 1) (((unhide B4).setCell (p := ⟨P, 2, none⟩) (by show w.heap.size ≤ P; omega) (.int .u32 (la : Int))).setCell (p := ⟨P, 3, none⟩) (by show w.heap.size ≤ P; omega) (.int .u32 ((nx - 1 : Nat) : Int))) (by omega))
  have hne : w.heap.size + 1 + 1 ≠ P := hP.2.2.2
  have y2 := ((unhide M2).other (a := ⟨P, 2, none⟩) hne (.int .u32 (la : Int))).other (a := ⟨P, 3, none⟩) hne (.int .u32 ((nx - 1 : Nat) : Int))
  have HO5 := hide (own5 (own_setT (i := 3) (u := .int .u32 ((nx - 1 : Nat) : Int)) (own_setT (i := 2) (u := .int .u32 (la : Int)) (unhide HO4) (unhide MX) (by decide)) x2 (by decide)) y2 (by decide))
  have HLN := hide (show ms.length ≤ 4194304 from by have := unhide HLE; have := unhide HNN; omega)
  clear x2 x3 y2 MX M0 M1 M2 HO4 B4 HR4 HU4 HR0 HU0 HLE HRI HHD hnx HK
  have hp1 : ¬ w.heap.size = P := by omega
  have hp2 : ¬ w.heap.size + 1 = P := by omega
  have hp3 : ¬ P = w.heap.size + 1 + 1 := by omega
  go_wp2
  (try simp only [Exit.inBlock, Exit.then])
  refine bodyPost_ret (v := .tuple #[.agg #[.int .u32 (va : Int), .int .u64 (nx : Int), .int .u32 (la : Int), .int .u32 ((nx - 1 : Nat) : Int), .slice am n cm], .slice none 0 0, .int .i64 0]) ?_ rfl ⟨⟨_, .slice none 0 0, rfl, ⟨by rw [unhide HNN]; exact own_zero (unhide HO5 _ _ _ _ _), unhide HFM, unhide HLN⟩, OutT.nil _⟩, unhide HB5 _ _ _ _ _⟩
  rw [results_cell_tmp2 rfl]
  go_simp
end Go.Proofs.YthpjogfclklefaaDoor

/-
  What the document's Do of a box does, over this seat's program: a change that puts a mail where there is no room.
-/
set_option linter.unusedVariables false
set_option linter.unusedSimpArgs false
namespace Go.Proofs.YthpjogfclklefaaDoor
open Go.RowKit

set_option maxHeartbeats 8000000 in
set_option maxRecDepth 100000 in
theorem refDo_full (b : Bx) (c : Chg) (v vc : Value) (w : World) (h : RowM w v b.ms) (hu : Row32 w vc c.us) (hf : FitB b) (hfc : FitC c) (hob : okB b = true) (hoc : okC c = true) (hk : c.kd = 1) (hful : fullB b = true) :
    Calls Tryd.prog 7 #[bxV b v, chV c vc] w fun e w' => (∃ v' u', e = .returned (.tuple #[bxV (doB b c) v', u', .int .i64 (doE b c : Int)]) ∧ OutM w' v' (doB b c).ms ∧ OutT w' u' (doT b c)) ∧ Below w.heap.size w w' := by
  have HCK := hide (fun X (hR : RowM X v b.ms) => refBCheck_any b v X hR hf)
  have HFM := hide h.choose_spec.choose_spec.2.2.1
  have hb1 := (((Below.refl _ w).alloc (Nat.le_refl _) (Obj.cells (bxC b v) 26)).alloc (by simp) (Obj.cells (chC c vc) 33)).alloc (by simp; omega) (Obj.cells #[.int .u32 0, .int .u64 0, .int .u32 0, .int .u32 0, .slice none 0 0] 26)
  have k0 := ((Blk.new w 26 (bxC b v)).below ((Below.refl _ _).alloc (Nat.le_refl _) (Obj.cells (chC c vc) 33))).below ((Below.refl _ _).alloc (Nat.le_refl _) (Obj.cells #[.int .u32 0, .int .u64 0, .int .u32 0, .int .u32 0, .slice none 0 0] 26))
  have k1 := (Blk.new (w.alloc (Obj.cells (bxC b v) 26)) 33 (chC c vc)).below ((Below.refl _ _).alloc (Nat.le_refl _) (Obj.cells #[.int .u32 0, .int .u64 0, .int .u32 0, .int .u32 0, .slice none 0 0] 26))
  have k2 := Blk.new ((w.alloc (Obj.cells (bxC b v) 26)).alloc (Obj.cells (chC c vc) 33)) 26 #[.int .u32 0, .int .u64 0, .int .u32 0, .int .u32 0, .slice none 0 0]
  simp only [World.size_alloc] at k1 k2
  have K0 := hide k0
  have K1 := hide k1
  have K2 := hide k2
  have HA := hide hb1
  have HRA := hide (h.below hb1)
  have HUA := hide (hu.below hb1)
  clear k0 k1 k2 hb1
  have hlen := okB_len hob
  have hrise := okB_rise hob
  have hhd := okB_head hob
  have e4 : chkB b = 0 := by unfold chkB; rw [hob]; rfl
  rw [e4] at HCK
  have HCP := hide (fun X (hR : RowM X v b.ms) => refCopy_any b v X hR (by omega))
  have HRG := hide (fun X (hR : Row32 X vc c.us) => refBRight_any c vc X hR hfc)
  have e1 : doB b c = b := by unfold doB workB putB; rw [hob, hoc, hk, hful]; rfl
  have e2 : doT b c = [] := by unfold doT workT putT; rw [hob, hoc, hk, hful]; rfl
  have e3 : doE b c = 8 := by unfold doE workE putE; rw [hob, hoc, hk, hful]; rfl
  have e5 : rightC c = 0 := by unfold rightC; rw [hoc]; rfl
  rw [e1, e2, e3]
  rw [e5] at HRG
  have HK := hide hk
  have HFU : Hid (4294967295 < b.nx ∨ b.ms.length = 4096) := hide (by unfold fullB at hful; simpa using hful)
  clear e1 e2 e3 e5 hoc hfc hk hful
  have HLE := hide hlen
  have HRI := hide hrise
  have HHD := hide hhd
  have HR0 := hide h
  have HU0 := hide hu
  obtain ⟨a, cap, rfl, hl, _, _⟩ := h
  obtain ⟨au, cu, rfl, hl2, _, _⟩ := hu
  clear e4 hob hf hlen hrise hhd
  obtain ⟨va, nx, mr, la, ms⟩ := b
  obtain ⟨kd, us, fl, dy, sc, zn, raw⟩ := c
  simp only [bxV, bxC, chV, chC] at *
  obtain ⟨n, hnn⟩ : ∃ n, ms.length = n := ⟨_, rfl⟩
  obtain ⟨un, hun⟩ : ∃ un, us.length = un := ⟨_, rfl⟩
  rw [hnn] at HCK HRA K0 K1 K2 HA HUA HCP HLE HR0 hl ⊢
  rw [hun] at HRG HUA HRA K0 K1 K2 HA HU0 hl2 ⊢
  have HNN := hide hnn
  have HUN := hide hun
  clear hnn hun
  go_enter Tryd.func7, Tryd.ntmps7
  go_wp2_with fail
  refine (unhide HCK _ (unhide HRA)).mono ?_
  rintro e w1 ⟨rfl, b1⟩
  have B1 := hide (belows' (unhide HA) b1)
  have J0 := hide ((unhide K0).below b1)
  have J1 := hide ((unhide K1).below b1)
  have J2 := hide ((unhide K2).below b1)
  have HR1 := hide ((unhide HRA).below b1)
  have HU1 := hide ((unhide HUA).below b1)
  have hs1 := b1.size
  simp only [World.size_alloc] at hs1
  clear b1 K0 K1 K2 HA HRA HUA HCK
  have c0 := (unhide J0).cell 0
  have c1 := (unhide J0).cell 1
  have c2 := (unhide J0).cell 2
  have c3 := (unhide J0).cell 3
  have c4 := (unhide J0).cell 4
  simp only [List.getElem?_toArray, List.getElem?_cons_succ, List.getElem?_cons_zero] at c0 c1 c2 c3 c4
  go_wp2_with fail
  refine (unhide HCP _ (unhide HR1)).mono ?_
  rintro e w2 ⟨⟨vm, rfl, own2⟩, b2⟩
  obtain ⟨am, cm, rfl, _⟩ := own_sliceG own2
  have hA3 : Below w2.heap.size w2 (w2.alloc (.cells #[.int .u32 (va : Int), .int .u64 (nx : Int), .int .u32 (mr : Int), .int .u32 (la : Int), .slice am ms.length cm] 26)) := (Below.refl _ w2).alloc (Nat.le_refl _) _
  have hs2 := b2.size
  have B3 := hide (belows' (belows' (unhide B1) b2) hA3)
  have L0 := hide (((unhide J0).below b2).below hA3)
  have L1 := hide (((unhide J1).below b2).below hA3)
  have L2 := hide (((unhide J2).below b2).below hA3)
  have HU3 := hide (((unhide HU1).below b2).below hA3)
  have HR3 := hide (((unhide HR1).below b2).below hA3)
  have HO3 := hide (own_below own2 hA3)
  have LX := hide (Blk.new w2 26 #[.int .u32 (va : Int), .int .u64 (nx : Int), .int .u32 (mr : Int), .int .u32 (la : Int), .slice am ms.length cm])
  have hs3 : (w2.alloc (.cells #[.int .u32 (va : Int), .int .u64 (nx : Int), .int .u32 (mr : Int), .int .u32 (la : Int), .slice am ms.length cm] 26)).heap.size = w2.heap.size + 1 := by simp
  rw [unhide HNN] at B3 L0 L1 L2 HU3 HR3 HO3 LX hs3
  clear own2 hA3 b2 B1 J0 J1 J2 HU1 HR1 HCP c0 c1 c2 c3 c4
  have d0 := (unhide L1).cell 0
  have d1 := (unhide L1).cell 1
  have d2 := (unhide L1).cell 2
  have d3 := (unhide L1).cell 3
  have d4 := (unhide L1).cell 4
  have d5 := (unhide L1).cell 5
  have d6 := (unhide L1).cell 6
  simp only [List.getElem?_toArray, List.getElem?_cons_succ, List.getElem?_cons_zero] at d0 d1 d2 d3 d4 d5 d6
  go_wp2_with fail
  refine (unhide HRG _ (unhide HU3)).mono ?_
  rintro e w4 ⟨rfl, b4⟩
  have B4 := hide (belows' (unhide B3) b4)
  have M0 := hide ((unhide L0).below b4)
  have M1 := hide ((unhide L1).below b4)
  have M2 := hide ((unhide L2).below b4)
  have MX := hide ((unhide LX).below b4)
  have HU4 := hide ((unhide HU3).below b4)
  have HR4 := hide ((unhide HR3).below b4)
  have HO4 := hide (own_below (unhide HO3) b4)
  have hs4 := b4.size
  rw [hs3] at hs4
  clear b4 L0 L1 L2 LX B3 HU3 HR3 HO3 HRG d0 d1 d2 d3 d4 d5 d6 hs3
  generalize w2.heap.size = P at MX hs2 hs4 ⊢
  have hP : w.heap.size + 1 + 1 + 1 ≤ w1.heap.size ∧ w1.heap.size ≤ P ∧ P < w4.heap.size ∧ w.heap.size + 1 + 1 ≠ P := by omega
  clear hs1 hs2 hs4
  have a0 := (unhide M0).cell 0
  have a1 := (unhide M0).cell 1
  have a2 := (unhide M0).cell 2
  have a3 := (unhide M0).cell 3
  have a4 := (unhide M0).cell 4
  simp only [List.getElem?_toArray, List.getElem?_cons_succ, List.getElem?_cons_zero] at a0 a1 a2 a3 a4
  have m0 := (unhide MX).cell 0
  have m1 := (unhide MX).cell 1
  have m2 := (unhide MX).cell 2
  have m3 := (unhide MX).cell 3
  have m4 := (unhide MX).cell 4
  have g0 := (unhide MX).frozen 0
  have g1 := (unhide MX).frozen 1
  have g2 := (unhide MX).frozen 2
  have g3 := (unhide MX).frozen 3
  have g4 := (unhide MX).frozen 4
  simp only [List.getElem?_toArray, List.getElem?_cons_succ, List.getElem?_cons_zero] at m0 m1 m2 m3 m4
  have d0 := (unhide M1).cell 0
  have d1 := (unhide M1).cell 1
  have d2 := (unhide M1).cell 2
  have d3 := (unhide M1).cell 3
  have d4 := (unhide M1).cell 4
  have d5 := (unhide M1).cell 5
  have d6 := (unhide M1).cell 6
  simp only [List.getElem?_toArray, List.getElem?_cons_succ, List.getElem?_cons_zero] at d0 d1 d2 d3 d4 d5 d6
  have r0 := (unhide M2).cell 0
  have r1 := (unhide M2).cell 1
  have r2 := (unhide M2).cell 2
  have r3 := (unhide M2).cell 3
  have r4 := (unhide M2).cell 4
  have f0 := (unhide M2).frozen 0
  have f1 := (unhide M2).frozen 1
  have f2 := (unhide M2).frozen 2
  have f3 := (unhide M2).frozen 3
  have f4 := (unhide M2).frozen 4
  simp only [List.getElem?_toArray, List.getElem?_cons_succ, List.getElem?_cons_zero] at r0 r1 r2 r3 r4
  rw [unhide HK] at d0
  have HB5 := hide (below5 (s := w.heap.size + 1 + 1) (unhide B4) (by omega))
  have HO5 := hide (own5 (unhide HO4) (unhide M2) (by decide))
  have HLN := hide (show ms.length ≤ 4194304 from by have := unhide HLE; have := unhide HNN; omega)
  have hfu := unhide HFU
  simp only [unhide HNN] at hfu
  by_cases h1 : 4294967295 < nx
  · have d1' : decide ((nx : Int) > 4294967295) = true := decide_eq_true (by omega)
    clear hfu h1 HFU HK
    clear MX M0 M1 M2 HO4 B4 HR4 HU4 HR0 HU0 HLE HRI HHD
    go_wp2
    (try simp only [Exit.inBlock, Exit.then])
    refine bodyPost_ret (v := .tuple #[.agg #[.int .u32 (va : Int), .int .u64 (nx : Int), .int .u32 (mr : Int), .int .u32 (la : Int), .slice am n cm], .slice none 0 0, .int .i64 8]) ?_ rfl ⟨⟨_, .slice none 0 0, rfl, ⟨by rw [unhide HNN]; exact own_zero (unhide HO5 _ _ _ _ _), unhide HFM, unhide HLN⟩, OutT.nil _⟩, unhide HB5 _ _ _ _ _⟩
    rw [results_cell_tmp2 rfl]
    go_simp
  · have d1' : decide ((nx : Int) > 4294967295) = false := decide_eq_false (by omega)
    have d2' : decide ((n : Int) ≥ 4096) = true := decide_eq_true (by omega)
    clear hfu h1 HFU HK
    clear MX M0 M1 M2 HO4 B4 HR4 HU4 HR0 HU0 HLE HRI HHD
    go_wp2
    (try simp only [Exit.inBlock, Exit.then])
    refine bodyPost_ret (v := .tuple #[.agg #[.int .u32 (va : Int), .int .u64 (nx : Int), .int .u32 (mr : Int), .int .u32 (la : Int), .slice am n cm], .slice none 0 0, .int .i64 8]) ?_ rfl ⟨⟨_, .slice none 0 0, rfl, ⟨by rw [unhide HNN]; exact own_zero (unhide HO5 _ _ _ _ _), unhide HFM, unhide HLN⟩, OutT.nil _⟩, unhide HB5 _ _ _ _ _⟩
    rw [results_cell_tmp2 rfl]
    go_simp

end Go.Proofs.YthpjogfclklefaaDoor

/-
  What the document's Do of a box does, over this seat's program: a change that puts a mail.
-/
set_option linter.unusedVariables false
set_option linter.unusedSimpArgs false
namespace Go.Proofs.YthpjogfclklefaaDoor
open Go.RowKit

set_option maxHeartbeats 8000000 in
set_option maxRecDepth 100000 in
theorem refDo_put (b : Bx) (c : Chg) (v vc : Value) (w : World) (h : RowM w v b.ms) (hu : Row32 w vc c.us) (hf : FitB b) (hfc : FitC c) (hob : okB b = true) (hoc : okC c = true) (hk : c.kd = 1) (hful : fullB b = false) :
    Calls Tryd.prog 7 #[bxV b v, chV c vc] w fun e w' => (∃ v' u', e = .returned (.tuple #[bxV (doB b c) v', u', .int .i64 (doE b c : Int)]) ∧ OutM w' v' (doB b c).ms ∧ OutT w' u' (doT b c)) ∧ Below w.heap.size w w' := by
  have HCK := hide (fun X (hR : RowM X v b.ms) => refBCheck_any b v X hR hf)
  have HFM := hide h.choose_spec.choose_spec.2.2.1
  have hb1 := (((Below.refl _ w).alloc (Nat.le_refl _) (Obj.cells (bxC b v) 26)).alloc (by simp) (Obj.cells (chC c vc) 33)).alloc (by simp; omega) (Obj.cells #[.int .u32 0, .int .u64 0, .int .u32 0, .int .u32 0, .slice none 0 0] 26)
  have k0 := ((Blk.new w 26 (bxC b v)).below ((Below.refl _ _).alloc (Nat.le_refl _) (Obj.cells (chC c vc) 33))).below ((Below.refl _ _).alloc (Nat.le_refl _) (Obj.cells #[.int .u32 0, .int .u64 0, .int .u32 0, .int .u32 0, .slice none 0 0] 26))
  have k1 := (Blk.new (w.alloc (Obj.cells (bxC b v) 26)) 33 (chC c vc)).below ((Below.refl _ _).alloc (Nat.le_refl _) (Obj.cells #[.int .u32 0, .int .u64 0, .int .u32 0, .int .u32 0, .slice none 0 0] 26))
  have k2 := Blk.new ((w.alloc (Obj.cells (bxC b v) 26)).alloc (Obj.cells (chC c vc) 33)) 26 #[.int .u32 0, .int .u64 0, .int .u32 0, .int .u32 0, .slice none 0 0]
  simp only [World.size_alloc] at k1 k2
  have K0 := hide k0
  have K1 := hide k1
  have K2 := hide k2
  have HA := hide hb1
  have HRA := hide (h.below hb1)
  have HUA := hide (hu.below hb1)
  clear k0 k1 k2 hb1
  have hlen := okB_len hob
  have hrise := okB_rise hob
  have hhd := okB_head hob
  have e4 : chkB b = 0 := by unfold chkB; rw [hob]; rfl
  rw [e4] at HCK
  have HCP := hide (fun X (hR : RowM X v b.ms) => refCopy_any b v X hR (by omega))
  have HRG := hide (fun X (hR : Row32 X vc c.us) => refBRight_any c vc X hR hfc)
  have e1 : doB b c = ⟨b.va, b.nx + 1, b.mr, b.la, b.ms ++ [newM b c]⟩ := by unfold doB workB putB; rw [hob, hoc, hk, hful]; rfl
  have e2 : doT b c = [b.nx] := by unfold doT workT putT; rw [hob, hoc, hk, hful]; rfl
  have e3 : doE b c = 0 := by unfold doE workE putE; rw [hob, hoc, hk, hful]; rfl
  have e5 : rightC c = 0 := by unfold rightC; rw [hoc]; rfl
  rw [e1, e2, e3]
  rw [e5] at HRG
  have HK := hide hk
  have HFU : Hid (b.nx ≤ 4294967295 ∧ b.ms.length < 4096) := hide (by unfold fullB at hful; simp at hful; omega)
  have HFC := hide hfc
  unfold newM
  clear e1 e2 e3 e5 hoc hfc hk hful
  have HLE := hide hlen
  have HRI := hide hrise
  have HHD := hide hhd
  have HR0 := hide h
  have HU0 := hide hu
  obtain ⟨a, cap, rfl, hl, _, _⟩ := h
  obtain ⟨au, cu, rfl, hl2, _, _⟩ := hu
  clear e4 hob hf hlen hrise hhd
  obtain ⟨va, nx, mr, la, ms⟩ := b
  obtain ⟨kd, us, fl, dy, sc, zn, raw⟩ := c
  simp only [bxV, bxC, chV, chC] at *
  obtain ⟨n, hnn⟩ : ∃ n, ms.length = n := ⟨_, rfl⟩
  obtain ⟨un, hun⟩ : ∃ un, us.length = un := ⟨_, rfl⟩
  rw [hnn] at HCK HRA K0 K1 K2 HA HUA HCP HLE HR0 hl ⊢
  rw [hun] at HRG HUA HRA K0 K1 K2 HA HU0 hl2 ⊢
  have HNN := hide hnn
  have HUN := hide hun
  clear hnn hun
  go_enter Tryd.func7, Tryd.ntmps7
  go_wp2_with fail
  refine (unhide HCK _ (unhide HRA)).mono ?_
  rintro e w1 ⟨rfl, b1⟩
  have B1 := hide (belows' (unhide HA) b1)
  have J0 := hide ((unhide K0).below b1)
  have J1 := hide ((unhide K1).below b1)
  have J2 := hide ((unhide K2).below b1)
  have HR1 := hide ((unhide HRA).below b1)
  have HU1 := hide ((unhide HUA).below b1)
  have hs1 := b1.size
  simp only [World.size_alloc] at hs1
  clear b1 K0 K1 K2 HA HRA HUA HCK
  have c0 := (unhide J0).cell 0
  have c1 := (unhide J0).cell 1
  have c2 := (unhide J0).cell 2
  have c3 := (unhide J0).cell 3
  have c4 := (unhide J0).cell 4
  simp only [List.getElem?_toArray, List.getElem?_cons_succ, List.getElem?_cons_zero] at c0 c1 c2 c3 c4
  go_wp2_with fail
  refine (unhide HCP _ (unhide HR1)).mono ?_
  rintro e w2 ⟨⟨vm, rfl, own2⟩, b2⟩
  obtain ⟨am, cm, rfl, _⟩ := own_sliceG own2
  have hA3 : Below w2.heap.size w2 (w2.alloc (.cells #[.int .u32 (va : Int), .int .u64 (nx : Int), .int .u32 (mr : Int), .int .u32 (la : Int), .slice am ms.length cm] 26)) := (Below.refl _ w2).alloc (Nat.le_refl _) _
  have hs2 := b2.size
  have B3 := hide (belows' (belows' (unhide B1) b2) hA3)
  have L0 := hide (((unhide J0).below b2).below hA3)
  have L1 := hide (((unhide J1).below b2).below hA3)
  have L2 := hide (((unhide J2).below b2).below hA3)
  have HU3 := hide (((unhide HU1).below b2).below hA3)
  have HR3 := hide (((unhide HR1).below b2).below hA3)
  have HO3 := hide (own_below own2 hA3)
  have LX := hide (Blk.new w2 26 #[.int .u32 (va : Int), .int .u64 (nx : Int), .int .u32 (mr : Int), .int .u32 (la : Int), .slice am ms.length cm])
  have hs3 : (w2.alloc (.cells #[.int .u32 (va : Int), .int .u64 (nx : Int), .int .u32 (mr : Int), .int .u32 (la : Int), .slice am ms.length cm] 26)).heap.size = w2.heap.size + 1 := by simp
  rw [unhide HNN] at B3 L0 L1 L2 HU3 HR3 HO3 LX hs3
  clear own2 hA3 b2 B1 J0 J1 J2 HU1 HR1 HCP c0 c1 c2 c3 c4
  have d0 := (unhide L1).cell 0
  have d1 := (unhide L1).cell 1
  have d2 := (unhide L1).cell 2
  have d3 := (unhide L1).cell 3
  have d4 := (unhide L1).cell 4
  have d5 := (unhide L1).cell 5
  have d6 := (unhide L1).cell 6
  simp only [List.getElem?_toArray, List.getElem?_cons_succ, List.getElem?_cons_zero] at d0 d1 d2 d3 d4 d5 d6
  go_wp2_with fail
  refine (unhide HRG _ (unhide HU3)).mono ?_
  rintro e w4 ⟨rfl, b4⟩
  have B4 := hide (belows' (unhide B3) b4)
  have M0 := hide ((unhide L0).below b4)
  have M1 := hide ((unhide L1).below b4)
  have M2 := hide ((unhide L2).below b4)
  have MX := hide ((unhide LX).below b4)
  have HU4 := hide ((unhide HU3).below b4)
  have HR4 := hide ((unhide HR3).below b4)
  have HO4 := hide (own_below (unhide HO3) b4)
  have hs4 := b4.size
  rw [hs3] at hs4
  clear b4 L0 L1 L2 LX B3 HU3 HR3 HO3 HRG d0 d1 d2 d3 d4 d5 d6 hs3
  generalize w2.heap.size = P at MX hs2 hs4 ⊢
  have hP : w.heap.size + 1 + 1 + 1 ≤ w1.heap.size ∧ w1.heap.size ≤ P ∧ P < w4.heap.size ∧ w.heap.size + 1 + 1 ≠ P := by omega
  clear hs1 hs2 hs4
  have a0 := (unhide M0).cell 0
  have a1 := (unhide M0).cell 1
  have a2 := (unhide M0).cell 2
  have a3 := (unhide M0).cell 3
  have a4 := (unhide M0).cell 4
  simp only [List.getElem?_toArray, List.getElem?_cons_succ, List.getElem?_cons_zero] at a0 a1 a2 a3 a4
  have d0 := (unhide M1).cell 0
  have d1 := (unhide M1).cell 1
  have d2 := (unhide M1).cell 2
  have d3 := (unhide M1).cell 3
  have d4 := (unhide M1).cell 4
  have d5 := (unhide M1).cell 5
  have d6 := (unhide M1).cell 6
  simp only [List.getElem?_toArray, List.getElem?_cons_succ, List.getElem?_cons_zero] at d0 d1 d2 d3 d4 d5 d6
  have x0 := (unhide MX).cell 0
  have x1 := (unhide MX).cell 1
  have x2 := (unhide MX).cell 2
  have x3 := (unhide MX).cell 3
  have x4 := (unhide MX).cell 4
  simp only [List.getElem?_toArray, List.getElem?_cons_succ, List.getElem?_cons_zero] at x0 x1 x2 x3 x4
  rw [unhide HK] at d0
  have hfu := unhide HFU
  have hms : ms.length = n := unhide HNN
  have hfc := unhide HFC
  simp only [FitC] at hfc
  have HFN := hide (show FitM (⟨nx, fl, dy, sc, zn, raw⟩ : Msg) from ⟨hfu.1, hfc.2.1, hfc.2.2.1, hfc.2.2.2.1, hfc.2.2.2.2.1, hfc.2.2.2.2.2⟩)
  have d1' : decide ((nx : Int) > 4294967295) = false := decide_eq_false (by omega)
  have d2' : decide ((n : Int) ≥ 4096) = false := decide_eq_false (by omega)
  have hwr : IntKind.u32.wrap (nx : Int) = (nx : Int) := by rw [IntKind.wrap_u32']; omega
  have q2 : (nx : Int) % 4294967296 = (nx : Int) := by omega
  have q3 : ((nx : Int) + 1) % 18446744073709551616 = (nx : Int) + 1 := by omega
  have hA : Below w4.heap.size w4 (w4.alloc (.cells #[.int .u32 (nx : Int), .int .u8 (fl : Int), .int .i64 dy, .int .i64 sc, .int .i64 zn, .string raw] 47)) := (Below.refl _ w4).alloc (Nat.le_refl _) _
  have O1 := own_below (unhide HO4) hA
  have HO1 : (w4.alloc (.cells #[.int .u32 (nx : Int), .int .u8 (fl : Int), .int .i64 dy, .int .i64 sc, .int .i64 zn, .string raw] 47)).ownsRow w1.heap.size 47 6 (.slice am n cm) ms.length (flatG msC ms) := by rw [hms]; exact O1
  obtain ⟨v', Y2, hr, own2, bb2, gr2⟩ := run_appMg (w4.alloc (.cells #[.int .u32 (nx : Int), .int .u8 (fl : Int), .int .i64 dy, .int .i64 sc, .int .i64 zn, .string raw] 47)) w1.heap.size w4.heap.size (.slice am n cm) ms ⟨nx, fl, dy, sc, zn, raw⟩ 24 HO1 (by omega) (by rw [World.size_alloc]; omega) (Blk.new w4 47 _)
  obtain ⟨av, cv, rfl, _⟩ := own_sliceG own2
  have X1 := blk_grownT ((unhide MX).below hA) gr2 (own_neT O1 ((unhide MX).below hA) (by decide))
  have X2 := blk_grownT ((unhide M2).below hA) gr2 (own_neT O1 ((unhide M2).below hA) (by decide))
  have NX := hide X1
  have N2 := hide X2
  have m0 := (unhide NX).cell 0
  have m1 := (unhide NX).cell 1
  have m2 := (unhide NX).cell 2
  have m3 := (unhide NX).cell 3
  have m4 := (unhide NX).cell 4
  have g0 := (unhide NX).frozen 0
  have g1 := (unhide NX).frozen 1
  have g2 := (unhide NX).frozen 2
  have g3 := (unhide NX).frozen 3
  have g4 := (unhide NX).frozen 4
  simp only [List.getElem?_toArray, List.getElem?_cons_succ, List.getElem?_cons_zero] at m0 m1 m2 m3 m4
  generalize hL : (ms ++ [(⟨nx, fl, dy, sc, zn, raw⟩ : Msg)]).length = L at hr own2 ⊢
  have Z1 := X1.set 4 (.slice av L cv)
  have Z2 := Z1.set 1 (.int .u64 ((nx : Int) + 1))
  have hne : w.heap.size + 1 + 1 ≠ P := hP.2.2.2
  have y2 := (X2.other (a := ⟨P, 4, none⟩) hne (.slice av L cv)).other (a := ⟨P, 1, none⟩) hne (.int .u64 ((nx : Int) + 1))
  have oo := own_setT (i := 1) (u := .int .u64 ((nx : Int) + 1)) (own_setT (i := 4) (u := .slice av L cv) own2 X1 (by decide)) Z1 (by decide)
  have bA : Below w.heap.size w Y2 := (belows' (unhide B4) hA).trans (bb2.mono (by omega))
  have bB := (bA.setCell (p := ⟨P, 4, none⟩) (by show w.heap.size ≤ P; omega) (.slice av L cv)).setCell (p := ⟨P, 1, none⟩) (by show w.heap.size ≤ P; omega) (.int .u64 ((nx : Int) + 1))
  have hys := bb2.size
  simp only [World.size_alloc] at hys
  have hq1 : ¬ P = Y2.heap.size := by omega
  have hq2 : ¬ w.heap.size + 1 + 1 = Y2.heap.size := by omega
  have hAl : Below ((Y2.setCell ⟨P, 4, none⟩ (.slice av L cv)).setCell ⟨P, 1, none⟩ (.int .u64 ((nx : Int) + 1))).heap.size ((Y2.setCell ⟨P, 4, none⟩ (.slice av L cv)).setCell ⟨P, 1, none⟩ (.int .u64 ((nx : Int) + 1))) (((Y2.setCell ⟨P, 4, none⟩ (.slice av L cv)).setCell ⟨P, 1, none⟩ (.int .u64 ((nx : Int) + 1))).alloc (.cells #[.int .u32 (nx : Int)] 22)) := (Below.refl _ _).alloc (Nat.le_refl _) _
  have hVs : ((Y2.setCell ⟨P, 4, none⟩ (.slice av L cv)).setCell ⟨P, 1, none⟩ (.int .u64 ((nx : Int) + 1))).heap.size = Y2.heap.size := by simp
  have HB6 := hide (below5 (s := w.heap.size + 1 + 1) (belows' bB hAl) (by omega))
  have HO6 := hide (own5 (own_below oo hAl) (y2.below hAl) (by decide))
  have hT := row32_lit ((Y2.setCell ⟨P, 4, none⟩ (.slice av L cv)).setCell ⟨P, 1, none⟩ (.int .u64 ((nx : Int) + 1))) 0 nx hfu.1 (Nat.zero_le _)
  rw [hVs] at hT
  have HT6 := hide (own5 hT (y2.below hAl) (by decide))
  have Y3 := hide (y2.below hAl)
  have r0 := (unhide Y3).cell 0
  have r1 := (unhide Y3).cell 1
  have r2 := (unhide Y3).cell 2
  have r3 := (unhide Y3).cell 3
  have r4 := (unhide Y3).cell 4
  have f0 := (unhide Y3).frozen 0
  have f1 := (unhide Y3).frozen 1
  have f2 := (unhide Y3).frozen 2
  have f3 := (unhide Y3).frozen 3
  have f4 := (unhide Y3).frozen 4
  simp only [List.getElem?_toArray, List.getElem?_cons_succ, List.getElem?_cons_zero] at r0 r1 r2 r3 r4
  have HLL := hide hL
  have HLN := hide (show L ≤ 4194304 from by rw [← hL, List.length_append]; simp only [List.length_cons, List.length_nil]; omega)
  have HNF := hide hfu.1
  clear hT hVs hAl bB bA oo y2 Z1 Z2 X1 X2 own2 bb2 gr2 hL hA O1 HO1 NX N2 hys hfu hfc hms MX M0 M1 M2 HO4 B4 HR4 HU4 HR0 HU0 HLE HRI HHD HFU HK
  have hp1 : ¬ w.heap.size = P := by omega
  have hp2 : ¬ w.heap.size + 1 = P := by omega
  have hp3 : ¬ P = w.heap.size + 1 + 1 := by omega
  go_wp2_with (at_builtin; refine wpList_append_runB (by rfl) _ _ 24 rfl rfl rfl rfl hr ?_)
  (try simp only [Exit.inBlock, Exit.then])
  have HFA : Hid (∀ m ∈ ms ++ [(⟨nx, fl, dy, sc, zn, raw⟩ : Msg)], FitM m) := hide (fun m hm => by
    rcases List.mem_append.1 hm with hm | hm
    · exact unhide HFM m hm
    · rw [List.mem_singleton.1 hm]; exact unhide HFN)
  refine bodyPost_ret (v := .tuple #[.agg #[.int .u32 (va : Int), .int .u64 ((nx + 1 : Nat) : Int), .int .u32 (mr : Int), .int .u32 (la : Int), .slice av L cv], .slice (some ⟨Y2.heap.size, 0, none⟩) 1 1, .int .i64 0]) ?_ rfl ⟨⟨_, _, rfl, ⟨by rw [unhide HLL]; exact own_zero (unhide HO6 _ _ _ _ _), unhide HFA, by rw [unhide HLL]; exact unhide HLN⟩, ⟨unhide HT6 _ _ _ _ _, by simpa using unhide HNF, by simp⟩⟩, unhide HB6 _ _ _ _ _⟩
  rw [results_cell_tmp2 rfl]
  go_simp
end Go.Proofs.YthpjogfclklefaaDoor
