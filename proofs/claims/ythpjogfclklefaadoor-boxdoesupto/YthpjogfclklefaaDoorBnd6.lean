/-
  What the document's Do of a box does, over this seat's program: a change that takes mails out.
-/
import Derived.Test.YthpjogfclklefaaDoorRxw
import Derived.Test.YthpjogfclklefaaDoorBnd3
import Derived.Test.YthpjogfclklefaaDoorBnd5
import Derived.Test.YthpjogfclklefaaDoorBnd4
import Derived.Deep.RegionHeld3
set_option linter.unusedVariables false
set_option linter.unusedSimpArgs false
namespace Go.Proofs.YthpjogfclklefaaDoor
open Go.RowKit

theorem appM2 {V : World} {C P : Nat} {cs : Array Value} {vt y : Value} {tl : List Nat} {sl : List Msg} (p : Msg) (ty : TypeId)
    (KP : Blk V P 26 cs) (OT : V.ownsRow C 22 1 vt tl.length (flatG cells32 tl)) (OS : V.ownsRow C 47 6 y sl.length (flatG msC sl)) (hC : C ≤ V.heap.size) (hP : C ≤ P) (hl : sl.length ≤ 4194304) :
    ∃ v' Y2, (Builtin.append_ #[24, 24] ty #[y, .slice (some ⟨V.heap.size, 0, none⟩) 1 1]).run Tryd.prog (V.alloc (.cells #[.int .u32 (p.uid : Int), .int .u8 (p.fl : Int), .int .i64 p.dy, .int .i64 p.sc, .int .i64 p.zn, .string p.raw] 47)) = .ok v' Y2 ∧
      Blk Y2 P 26 cs ∧ Blk (Y2.setCell ⟨P, 4, none⟩ v') P 26 (cs.setIfInBounds 4 v') ∧ (Y2.setCell ⟨P, 4, none⟩ v').ownsRow C 22 1 vt tl.length (flatG cells32 tl) ∧ (Y2.setCell ⟨P, 4, none⟩ v').ownsRow C 47 6 v' (sl ++ [p]).length (flatG msC (sl ++ [p])) ∧ Below C V (Y2.setCell ⟨P, 4, none⟩ v') := by
  have hA : Below V.heap.size V (V.alloc (.cells #[.int .u32 (p.uid : Int), .int .u8 (p.fl : Int), .int .i64 p.dy, .int .i64 p.sc, .int .i64 p.zn, .string p.raw] 47)) := (Below.refl _ V).alloc (Nat.le_refl _) _
  have KP1 := KP.below hA
  have OT1 := own_below OT hA
  have OS1 := own_below OS hA
  obtain ⟨v', Y2, hr, own2, bb2, gr2⟩ := run_appMg (V.alloc (.cells #[.int .u32 (p.uid : Int), .int .u8 (p.fl : Int), .int .i64 p.dy, .int .i64 p.sc, .int .i64 p.zn, .string p.raw] 47)) C V.heap.size y sl p ty OS1 hl (by rw [World.size_alloc]; omega) (Blk.new V 47 _)
  have KP2 := blk_grownT KP1 gr2 (own_neT OS1 KP1 (by decide))
  have OT2 := own_grownT OT1 OS1 (by decide) gr2
  exact ⟨v', Y2, hr, KP2, KP2.set 4 v', own_setT OT2 KP2 (by decide), own_setT own2 KP2 (by decide), ((hA.mono hC).trans bb2).setCell (p := ⟨P, 4, none⟩) hP v'⟩
theorem appT2 {V : World} {C P : Nat} {cs : Array Value} {vt y : Value} {tl : List Nat} {sl : List Msg} (u : Nat) (ty : TypeId)
    (KP : Blk V P 26 cs) (OT : V.ownsRow C 22 1 vt tl.length (flatG cells32 tl)) (OS : V.ownsRow C 47 6 y sl.length (flatG msC sl)) (hC : C ≤ V.heap.size) (hl : tl.length ≤ 4194304) :
    ∃ v' Y2, (Builtin.append_ #[28, 28] ty #[vt, .slice (some ⟨V.heap.size, 0, none⟩) 1 1]).run Tryd.prog (V.alloc (.cells #[.int .u32 (u : Int)] 22)) = .ok v' Y2 ∧
      Blk Y2 P 26 cs ∧ Y2.ownsRow C 22 1 v' (tl ++ [u]).length (flatG cells32 (tl ++ [u])) ∧ Y2.ownsRow C 47 6 y sl.length (flatG msC sl) ∧ Below C V Y2 := by
  have hA : Below V.heap.size V (V.alloc (.cells #[.int .u32 (u : Int)] 22)) := (Below.refl _ V).alloc (Nat.le_refl _) _
  have KP1 := KP.below hA
  have OT1 := own_below OT hA
  have OS1 := own_below OS hA
  obtain ⟨v', Y2, hr, own2, bb2, gr2⟩ := run_app32g (V.alloc (.cells #[.int .u32 (u : Int)] 22)) C V.heap.size vt tl u ty OT1 hl (by rw [World.size_alloc]; omega) (Blk.new V 22 #[.int .u32 (u : Int)])
  exact ⟨v', Y2, hr, blk_grownT KP1 gr2 (own_neT OT1 KP1 (by decide)), own2, own_grownT OS1 OT1 (by decide) gr2, (hA.mono hC).trans bb2⟩

set_option maxHeartbeats 8000000 in
set_option maxRecDepth 100000 in
theorem refDo_gone (b : Bx) (c : Chg) (v vc : Value) (w : World) (h : RowM w v b.ms) (hu : Row32 w vc c.us) (hf : FitB b) (hfc : FitC c) (hob : okB b = true) (hoc : okC c = true) (hk : c.kd = 5) :
    Calls Tryd.prog 7 #[bxV b v, chV c vc] w fun e w' => (∃ v' u', e = .returned (.tuple #[bxV (doB b c) v', u', .int .i64 (doE b c : Int)]) ∧ OutM w' v' (doB b c).ms ∧ OutT w' u' (doT b c)) ∧ Below w.heap.size w w' := by
  have HCK := hide (fun X (hR : RowM X v b.ms) => refBCheck_any b v X hR hf)
  have HFM := hide h.choose_spec.choose_spec.2.2.1
  have hb1 := (((Below.refl _ w).alloc (Nat.le_refl _) (Obj.cells (bxC b v) 26)).alloc (by simp) (Obj.cells (chC c vc) 33)).alloc (by simp; omega) (Obj.cells #[.int .u32 0, .int .u64 0, .int .u32 0, .int .u32 0, .slice none 0 0] 26)
  have k0 := ((Blk.new w 26 (bxC b v)).below ((Below.refl _ _).alloc (Nat.le_refl _) (Obj.cells (chC c vc) 33))).below ((Below.refl _ _).alloc (Nat.le_refl _) (Obj.cells #[.int .u32 0, .int .u64 0, .int .u32 0, .int .u32 0, .slice none 0 0] 26))
  have k1 := (Blk.new (w.alloc (Obj.cells (bxC b v) 26)) 33 (chC c vc)).below ((Below.refl _ _).alloc (Nat.le_refl _) (Obj.cells #[.int .u32 0, .int .u64 0, .int .u32 0, .int .u32 0, .slice none 0 0] 26))
  have k2 := Blk.new ((w.alloc (Obj.cells (bxC b v) 26)).alloc (Obj.cells (chC c vc) 33)) 26 #[.int .u32 0, .int .u64 0, .int .u32 0, .int .u32 0, .slice none 0 0]
  simp only [World.size_alloc] at k1 k2
  have K0 := hide k0
  have K1 := hide k1
  have K2 := hide k2
  have HA := hide hb1
  have HRA := hide (h.below hb1)
  have HUA := hide (hu.below hb1)
  clear k0 k1 k2 hb1
  have hlen := okB_len hob
  have hrise := okB_rise hob
  have hhd := okB_head hob
  have e4 : chkB b = 0 := by unfold chkB; rw [hob]; rfl
  rw [e4] at HCK
  have HCP := hide (fun X (hR : RowM X v b.ms) => refCopy_any b v X hR (by omega))
  have HRG := hide (fun X (hR : Row32 X vc c.us) => refBRight_any c vc X hR hfc)
  have e1 : doB b c = ⟨b.va, b.nx, b.mr, b.la, stayL c.us b.ms⟩ := by unfold doB workB; rw [hob, hoc, hk]; rfl
  have e2 : doT b c = goneL c.us b.ms := by unfold doT workT; rw [hob, hoc, hk]; rfl
  have e3 : doE b c = 0 := by unfold doE workE; rw [hob, hoc, hk]; rfl
  have e5 : rightC c = 0 := by unfold rightC; rw [hoc]; rfl
  rw [e1, e2, e3]
  rw [e5] at HRG
  have HK := hide hk
  clear e1 e2 e3 e5 hoc hfc hk
  have HLE := hide hlen
  have HRI := hide hrise
  have HHD := hide hhd
  have HR0 := hide h
  have HU0 := hide hu
  obtain ⟨a, cap, rfl, hl, _, _⟩ := h
  obtain ⟨au, cu, rfl, hl2, _, _⟩ := hu
  clear e4 hob hf hlen hrise hhd
  obtain ⟨va, nx, mr, la, ms⟩ := b
  obtain ⟨kd, us, fl, dy, sc, zn, raw⟩ := c
  simp only [bxV, bxC, chV, chC] at *
  obtain ⟨n, hnn⟩ : ∃ n, ms.length = n := ⟨_, rfl⟩
  obtain ⟨un, hun⟩ : ∃ un, us.length = un := ⟨_, rfl⟩
  rw [hnn] at HCK HRA K0 K1 K2 HA HUA HCP HLE HR0 hl ⊢
  rw [hun] at HRG HUA HRA K0 K1 K2 HA HU0 hl2 ⊢
  have HNN := hide hnn
  have HUN := hide hun
  clear hnn hun
  go_enter Tryd.func7, Tryd.ntmps7
  go_wp2_with fail
  refine (unhide HCK _ (unhide HRA)).mono ?_
  rintro e w1 ⟨rfl, b1⟩
  have B1 := hide (belows' (unhide HA) b1)
  have J0 := hide ((unhide K0).below b1)
  have J1 := hide ((unhide K1).below b1)
  have J2 := hide ((unhide K2).below b1)
  have HR1 := hide ((unhide HRA).below b1)
  have HU1 := hide ((unhide HUA).below b1)
  have hs1 := b1.size
  simp only [World.size_alloc] at hs1
  clear b1 K0 K1 K2 HA HRA HUA HCK
  have c0 := (unhide J0).cell 0
  have c1 := (unhide J0).cell 1
  have c2 := (unhide J0).cell 2
  have c3 := (unhide J0).cell 3
  have c4 := (unhide J0).cell 4
  simp only [List.getElem?_toArray, List.getElem?_cons_succ, List.getElem?_cons_zero] at c0 c1 c2 c3 c4
  go_wp2_with fail
  refine (unhide HCP _ (unhide HR1)).mono ?_
  rintro e w2 ⟨⟨vm, rfl, own2⟩, b2⟩
  obtain ⟨am, cm, rfl, _⟩ := own_sliceG own2
  have hA3 : Below w2.heap.size w2 (w2.alloc (.cells #[.int .u32 (va : Int), .int .u64 (nx : Int), .int .u32 (mr : Int), .int .u32 (la : Int), .slice am ms.length cm] 26)) := (Below.refl _ w2).alloc (Nat.le_refl _) _
  have hs2 := b2.size
  have B3 := hide (belows' (belows' (unhide B1) b2) hA3)
  have L0 := hide (((unhide J0).below b2).below hA3)
  have L1 := hide (((unhide J1).below b2).below hA3)
  have L2 := hide (((unhide J2).below b2).below hA3)
  have HU3 := hide (((unhide HU1).below b2).below hA3)
  have HR3 := hide (((unhide HR1).below b2).below hA3)
  have HO3 := hide (own_below own2 hA3)
  have LX := hide (Blk.new w2 26 #[.int .u32 (va : Int), .int .u64 (nx : Int), .int .u32 (mr : Int), .int .u32 (la : Int), .slice am ms.length cm])
  have hs3 : (w2.alloc (.cells #[.int .u32 (va : Int), .int .u64 (nx : Int), .int .u32 (mr : Int), .int .u32 (la : Int), .slice am ms.length cm] 26)).heap.size = w2.heap.size + 1 := by simp
  rw [unhide HNN] at B3 L0 L1 L2 HU3 HR3 HO3 LX hs3
  clear own2 hA3 b2 B1 J0 J1 J2 HU1 HR1 HCP c0 c1 c2 c3 c4
  have d0 := (unhide L1).cell 0
  have d1 := (unhide L1).cell 1
  have d2 := (unhide L1).cell 2
  have d3 := (unhide L1).cell 3
  have d4 := (unhide L1).cell 4
  have d5 := (unhide L1).cell 5
  have d6 := (unhide L1).cell 6
  simp only [List.getElem?_toArray, List.getElem?_cons_succ, List.getElem?_cons_zero] at d0 d1 d2 d3 d4 d5 d6
  go_wp2_with fail
  refine (unhide HRG _ (unhide HU3)).mono ?_
  rintro e w4 ⟨rfl, b4⟩
  have B4 := hide (belows' (unhide B3) b4)
  have M0 := hide ((unhide L0).below b4)
  have M1 := hide ((unhide L1).below b4)
  have M2 := hide ((unhide L2).below b4)
  have MX := hide ((unhide LX).below b4)
  have HU4 := hide ((unhide HU3).below b4)
  have HR4 := hide ((unhide HR3).below b4)
  have HO4 := hide (own_below (unhide HO3) b4)
  have hs4 := b4.size
  rw [hs3] at hs4
  clear b4 L0 L1 L2 LX B3 HU3 HR3 HO3 HRG d0 d1 d2 d3 d4 d5 d6 hs3
  generalize w2.heap.size = P at MX hs2 hs4 ⊢
  have hP : w.heap.size + 1 + 1 + 1 ≤ w1.heap.size ∧ w1.heap.size ≤ P ∧ P < w4.heap.size ∧ w.heap.size + 1 + 1 ≠ P := by omega
  clear hs1 hs2 hs4
  have a0 := (unhide M0).cell 0
  have a1 := (unhide M0).cell 1
  have a2 := (unhide M0).cell 2
  have a3 := (unhide M0).cell 3
  have a4 := (unhide M0).cell 4
  simp only [List.getElem?_toArray, List.getElem?_cons_succ, List.getElem?_cons_zero] at a0 a1 a2 a3 a4
  have d0 := (unhide M1).cell 0
  have d1 := (unhide M1).cell 1
  have d2 := (unhide M1).cell 2
  have d3 := (unhide M1).cell 3
  have d4 := (unhide M1).cell 4
  have d5 := (unhide M1).cell 5
  have d6 := (unhide M1).cell 6
  simp only [List.getElem?_toArray, List.getElem?_cons_succ, List.getElem?_cons_zero] at d0 d1 d2 d3 d4 d5 d6
  have m0 := (unhide MX).cell 0
  have m1 := (unhide MX).cell 1
  have m2 := (unhide MX).cell 2
  have m3 := (unhide MX).cell 3
  have m4 := (unhide MX).cell 4
  have g0 := (unhide MX).frozen 0
  have g1 := (unhide MX).frozen 1
  have g2 := (unhide MX).frozen 2
  have g3 := (unhide MX).frozen 3
  have g4 := (unhide MX).frozen 4
  simp only [List.getElem?_toArray, List.getElem?_cons_succ, List.getElem?_cons_zero] at m0 m1 m2 m3 m4
  rw [unhide HK] at d0
  have KX1 := hide (show Blk (w4.setCell ⟨P, 4, none⟩ (.slice none 0 0)) P 26 #[.int .u32 (va : Int), .int .u64 (nx : Int), .int .u32 (mr : Int), .int .u32 (la : Int), .slice none 0 0] from (unhide MX).set 4 (.slice none 0 0))
  have bS : Below w1.heap.size w4 (w4.setCell ⟨P, 4, none⟩ (.slice none 0 0)) := (Below.refl _ w4).setCell (p := ⟨P, 4, none⟩) hP.2.1 _
  have b00 : ¬ w.heap.size = P := by omega
  have N0 := hide ((unhide M0).other (a := ⟨P, 4, none⟩) b00 (.slice none 0 0))
  have N1 := hide ((unhide M1).other (a := ⟨P, 4, none⟩) (show w.heap.size + 1 ≠ P by omega) (.slice none 0 0))
  have N2 := hide ((unhide M2).other (a := ⟨P, 4, none⟩) (show w.heap.size + 1 + 1 ≠ P by omega) (.slice none 0 0))
  have B5 := hide ((unhide B4).trans (bS.mono (show w.heap.size ≤ w1.heap.size by omega)))
  have hn4 : n ≤ 4096 := unhide HLE
  have hS5 : w1.heap.size ≤ (w4.setCell ⟨P, 4, none⟩ (.slice none 0 0)).heap.size := by rw [World.size_setCell]; omega
  go_upto_region 17 with (fail)
  generalize w4.setCell ⟨P, 4, none⟩ (.slice none 0 0) = V0 at KX1 N0 N1 N2 B5 hS5 ⊢
  clear bS MX M0 M1 M2 HO4 B4 HR4 HU4 HLE HRI HHD HK a0 a1 a2 a3 a4 d0 d1 d2 d3 d4 d5 d6 m0 m1 m2 m3 m4 g0 g1 g2 g3 g4
  have a0 := (unhide N0).cell 0
  have a1 := (unhide N0).cell 1
  have a2 := (unhide N0).cell 2
  have a3 := (unhide N0).cell 3
  have a4 := (unhide N0).cell 4
  simp only [List.getElem?_toArray, List.getElem?_cons_succ, List.getElem?_cons_zero] at a0 a1 a2 a3 a4
  go_wp2
  go_loopw [9, 11, 71] (fun y _ z wr => ∃ (j : Nat) (yM : Value), z = .int .i64 j ∧ j ≤ n ∧ Hid (Blk wr P 26 #[.int .u32 (va : Int), .int .u64 (nx : Int), .int .u32 (mr : Int), .int .u32 (la : Int), yM]) ∧ Hid (wr.ownsRow w1.heap.size 22 1 y (goneL us (ms.take j)).length (flatG cells32 (goneL us (ms.take j)))) ∧ Hid (wr.ownsRow w1.heap.size 47 6 yM (stayL us (ms.take j)).length (flatG msC (stayL us (ms.take j)))) ∧ Hid (Below w1.heap.size V0 wr)) (fun _ _ z _ => n - (intOf z).toNat)
  case atStart => exact ⟨0, .slice none 0 0, rfl, Nat.zero_le _, KX1, hide (World.ownsRow_nil _ _ _ _), hide (World.ownsRow_nil _ _ _ _), hide (Below.refl _ _)⟩
  case round =>
    obtain ⟨j, yM, rfl, hj, KXJ, OT, OS, BJ⟩ := hrel
    clear KX1 a0 a1 a2 a3 a4
    have BW := hide ((unhide B5).trans ((unhide BJ).mono (show w.heap.size ≤ w1.heap.size by omega)))
    by_cases hlt : j < n
    · have hlt1 : (j : Int) < (n : Int) := by omega
      have hjl : j < ms.length := by rw [unhide HNN]; exact hlt
      obtain ⟨g, off, rfl, hg, hft, d0, d1, d2, d3, d4, d5⟩ := RowM.mail ((unhide HR0).below (unhide BW)) (Below.refl _ _) hjl
      have HTL := hide (goneL_take (us := us) hjl)
      have HSL := hide (stayL_take (us := us) hjl)
      have htl := goneL_len us (ms.take j)
      have hsl := stayL_len us (ms.take j)
      rw [List.length_take] at htl hsl
      obtain ⟨ay, cy, hy, _⟩ := own_sliceG (unhide OS)
      subst hy
      obtain ⟨at_, ct, hvt, _⟩ := own_sliceG (unhide OT)
      subst hvt
      obtain ⟨TL, hTL⟩ : ∃ TL, TL = goneL us (ms.take j) := ⟨_, rfl⟩
      obtain ⟨SL, hSL⟩ : ∃ SL, SL = stayL us (ms.take j) := ⟨_, rfl⟩
      rw [← hTL] at HTL OT htl ⊢
      rw [← hSL] at HSL OS hsl KXJ
      obtain ⟨m, hm⟩ : ∃ m, ms[j] = m := ⟨_, rfl⟩
      rw [hm] at d0 d1 d2 d3 d4 d5 HTL HSL hft
      clear hm hTL hSL
      have hA : Below wr.heap.size wr (wr.alloc (.cells #[.int .u32 (m.uid : Int), .int .u8 (m.fl : Int), .int .i64 m.dy, .int .i64 m.sc, .int .i64 m.zn, .string m.raw] 47)) := (Below.refl _ wr).alloc (Nat.le_refl _) _
      have KMH := hide (Blk.new wr 47 #[.int .u32 (m.uid : Int), .int .u8 (m.fl : Int), .int .i64 m.dy, .int .i64 m.sc, .int .i64 m.zn, .string m.raw])
      have KPH := hide ((unhide KXJ).below hA)
      have OTH := hide (own_below (unhide OT) hA)
      have OSH := hide (own_below (unhide OS) hA)
      have KCH := hide ((blk_belowC (unhide N1) (unhide BJ) (show w.heap.size + 1 < w1.heap.size by omega)).below hA)
      have hws := (unhide BJ).size
      have BJA := hide ((unhide BJ).trans (hA.mono (show w1.heap.size ≤ wr.heap.size by omega)))
      have HUA := hide (((unhide HU0).below (unhide BW)).below hA)
      have hu := hft.1
      have hfl := hft.2.1
      obtain ⟨Ms, hMs⟩ : ∃ q, m.fl &&& 8 = q := ⟨_, rfl⟩
      have hk8 : bits .and .u8 (m.fl : Int) 8 = (Ms : Int) := by
        have := u8_and_nat m.fl 8 (by omega) (by omega)
        rw [← hMs]
        simpa using this
      have hgone : goneP us m = (decide (m.uid ∈ us) && decide (Ms ≠ 0)) := by unfold goneP; rw [hMs]
      have HIN := hide (in_any (.slice au un cu) us m.uid _ (unhide HUA) hu)
      have HGN := hide hgone
      have hszA : w1.heap.size ≤ (wr.alloc (.cells #[.int .u32 (m.uid : Int), .int .u8 (m.fl : Int), .int .i64 m.dy, .int .i64 m.sc, .int .i64 m.zn, .string m.raw] 47)).heap.size := by rw [World.size_alloc]; omega
      clear hft hgone hMs KXJ OT OS BJ BW hfl hA HUA
      obtain ⟨mu, mf, md, msc, mz, mraw⟩ := m
      simp only at d0 d1 d2 d3 d4 d5 HTL HSL hk8 HIN HGN hu KPH OTH OSH KCH KMH BJA hszA
      obtain ⟨asked, hask⟩ : ∃ q, decide (mu ∈ us) = q := ⟨_, rfl⟩
      rw [hask] at HIN HGN
      clear hask
      have z0 := (unhide KMH).cell 0
      have z1 := (unhide KMH).cell 1
      have z2 := (unhide KMH).cell 2
      have z3 := (unhide KMH).cell 3
      have z4 := (unhide KMH).cell 4
      have z5 := (unhide KMH).cell 5
      have c1 := (unhide KCH).cell 1
      have x4 := (unhide KPH).cell 4
      simp only [List.getElem?_toArray, List.getElem?_cons_succ, List.getElem?_cons_zero] at z0 z1 z2 z3 z4 z5 c1 x4
      go_wp2_with fail
      refine (unhide HIN).mono ?_
      rintro e w2' ⟨rfl, hw2⟩
      subst hw2
      clear d0 d1 d2 d3 d4 d5 HIN
      cases asked with
      | false =>
        have hg0 : goneP us ⟨mu, mf, md, msc, mz, mraw⟩ = false := by rw [unhide HGN]; rfl
        rw [hg0] at HTL HSL
        simp only [Bool.false_eq_true, if_false, List.append_nil] at HTL HSL
        clear hg0
        obtain ⟨v', Y2, hrun, q0, q1, q2, q3, q4⟩ := appM2 (⟨mu, mf, md, msc, mz, mraw⟩ : Msg) 24 (unhide KPH) (unhide OTH) (unhide OSH) hszA hP.2.1 (by omega)
        have x0 := q0.cell 4
        have f0 := q0.frozen 4
        simp only [List.getElem?_toArray, List.getElem?_cons_succ, List.getElem?_cons_zero] at x0
        simp only [List.setIfInBounds_toArray, List.set_cons_succ, List.set_cons_zero] at q1
        have Q1 := hide q1
        have Q2 : Hid ((Y2.setCell ⟨P, 4, none⟩ v').ownsRow w1.heap.size 22 1 (.slice at_ TL.length ct) (goneL us (ms.take (j + 1))).length (flatG cells32 (goneL us (ms.take (j + 1))))) := hide (by rw [unhide HTL]; exact q2)
        have Q3 : Hid ((Y2.setCell ⟨P, 4, none⟩ v').ownsRow w1.heap.size 47 6 v' (stayL us (ms.take (j + 1))).length (flatG msC (stayL us (ms.take (j + 1))))) := hide (by rw [unhide HSL]; exact q3)
        have Q4 := hide ((unhide BJA).trans q4)
        obtain ⟨av, cv, hv2, _⟩ := own_sliceG (unhide Q3)
        obtain ⟨n9, hn9⟩ : ∃ n9, (stayL us (ms.take (j + 1))).length = n9 := ⟨_, rfl⟩
        have HN9 := hide hn9
        rw [hn9] at hv2
        subst hv2
        clear hn9 q0 q1 q2 q3 q4 HTL HSL KPH OTH OSH KCH KMH HGN htl hsl BJA hszA
        simp only [World.size_alloc] at hrun
        generalize SL.length = SLn at hrun x0 x4
        generalize TL.length = TLn at Q2 ⊢
        go_wp2_with (at_builtin; refine wpList_append_runB (by rfl) _ _ 24 rfl rfl rfl rfl hrun ?_)
        exact ⟨⟨j + 1, _, by go_num, by omega, Q1, Q2, Q3, Q4⟩, by simp [intOf]; omega⟩
      | true =>
        by_cases hM0 : Ms = 0
        · have hb8 : ((Ms : Int) != 0) = false := by simp; omega
          have hg0 : goneP us ⟨mu, mf, md, msc, mz, mraw⟩ = false := by rw [unhide HGN]; simp; omega
          clear hM0
          rw [hg0] at HTL HSL
          simp only [Bool.false_eq_true, if_false, List.append_nil] at HTL HSL
          clear hg0
          obtain ⟨v', Y2, hrun, q0, q1, q2, q3, q4⟩ := appM2 (⟨mu, mf, md, msc, mz, mraw⟩ : Msg) 24 (unhide KPH) (unhide OTH) (unhide OSH) hszA hP.2.1 (by omega)
          have x0 := q0.cell 4
          have f0 := q0.frozen 4
          simp only [List.getElem?_toArray, List.getElem?_cons_succ, List.getElem?_cons_zero] at x0
          simp only [List.setIfInBounds_toArray, List.set_cons_succ, List.set_cons_zero] at q1
          have Q1 := hide q1
          have Q2 : Hid ((Y2.setCell ⟨P, 4, none⟩ v').ownsRow w1.heap.size 22 1 (.slice at_ TL.length ct) (goneL us (ms.take (j + 1))).length (flatG cells32 (goneL us (ms.take (j + 1))))) := hide (by rw [unhide HTL]; exact q2)
          have Q3 : Hid ((Y2.setCell ⟨P, 4, none⟩ v').ownsRow w1.heap.size 47 6 v' (stayL us (ms.take (j + 1))).length (flatG msC (stayL us (ms.take (j + 1))))) := hide (by rw [unhide HSL]; exact q3)
          have Q4 := hide ((unhide BJA).trans q4)
          obtain ⟨av, cv, hv2, _⟩ := own_sliceG (unhide Q3)
          obtain ⟨n9, hn9⟩ : ∃ n9, (stayL us (ms.take (j + 1))).length = n9 := ⟨_, rfl⟩
          have HN9 := hide hn9
          rw [hn9] at hv2
          subst hv2
          clear hn9 q0 q1 q2 q3 q4 HTL HSL KPH OTH OSH KCH KMH HGN htl hsl BJA hszA
          simp only [World.size_alloc] at hrun
          generalize SL.length = SLn at hrun x0 x4
          generalize TL.length = TLn at Q2 ⊢
          go_wp2_with (at_builtin; refine wpList_append_runB (by rfl) _ _ 24 rfl rfl rfl rfl hrun ?_)
          exact ⟨⟨j + 1, _, by go_num, by omega, Q1, Q2, Q3, Q4⟩, by simp [intOf]; omega⟩
        · have hb8 : ((Ms : Int) != 0) = true := by simp; omega
          have hg1 : goneP us ⟨mu, mf, md, msc, mz, mraw⟩ = true := by rw [unhide HGN]; simp; omega
          clear hM0
          rw [hg1] at HTL HSL
          simp only [if_true, List.append_nil] at HTL HSL
          clear hg1
          obtain ⟨v', Y2, hrun, q1, q2, q3, q4⟩ := appT2 mu 28 (unhide KPH) (unhide OTH) (unhide OSH) hszA (by omega)
          have Q1 := hide q1
          have Q2 : Hid (Y2.ownsRow w1.heap.size 22 1 v' (goneL us (ms.take (j + 1))).length (flatG cells32 (goneL us (ms.take (j + 1))))) := hide (by rw [unhide HTL]; exact q2)
          have Q3 : Hid (Y2.ownsRow w1.heap.size 47 6 (.slice ay SL.length cy) (stayL us (ms.take (j + 1))).length (flatG msC (stayL us (ms.take (j + 1))))) := hide (by rw [unhide HSL]; exact q3)
          have Q4 := hide ((unhide BJA).trans q4)
          clear q1 q2 q3 q4 HTL HSL KPH OTH OSH KCH KMH HGN htl hsl BJA hszA
          simp only [World.size_alloc] at hrun
          generalize TL.length = TLn at hrun ⊢
          generalize SL.length = SLn at Q1 Q3 x4 ⊢
          go_wp2_with (at_builtin; refine wpList_append_runB (by rfl) _ _ 28 rfl rfl rfl rfl hrun ?_)
          exact ⟨⟨j + 1, _, by go_num, by omega, Q1, Q2, Q3, Q4⟩, by simp [intOf]; omega⟩
    · have hlt1 : ¬ (j : Int) < (n : Int) := by omega
      have hT : ms.take j = ms := List.take_of_length_le (by rw [unhide HNN]; omega)
      rw [hT] at OT OS
      obtain ⟨ay, cy, hy, _⟩ := own_sliceG (unhide OS)
      subst hy
      obtain ⟨at_, ct, hvt, _⟩ := own_sliceG (unhide OT)
      subst hvt
      clear hT hlt
      have M2 := hide (blk_belowC (unhide N2) (unhide BJ) (show w.heap.size + 1 + 1 < w1.heap.size by omega))
      have m0 := (unhide KXJ).cell 0
      have m1 := (unhide KXJ).cell 1
      have m2 := (unhide KXJ).cell 2
      have m3 := (unhide KXJ).cell 3
      have m4 := (unhide KXJ).cell 4
      simp only [List.getElem?_toArray, List.getElem?_cons_succ, List.getElem?_cons_zero] at m0 m1 m2 m3 m4
      have r0 := (unhide M2).cell 0
      have r1 := (unhide M2).cell 1
      have r2 := (unhide M2).cell 2
      have r3 := (unhide M2).cell 3
      have r4 := (unhide M2).cell 4
      have f0 := (unhide M2).frozen 0
      have f1 := (unhide M2).frozen 1
      have f2 := (unhide M2).frozen 2
      have f3 := (unhide M2).frozen 3
      have f4 := (unhide M2).frozen 4
      simp only [List.getElem?_toArray, List.getElem?_cons_succ, List.getElem?_cons_zero] at r0 r1 r2 r3 r4
      have HB5 := hide (below5 (s := w.heap.size + 1 + 1) (unhide BW) (by omega))
      have HO5 := hide (own5 (unhide OS) (unhide M2) (by decide))
      have HT5 := hide (own5 (unhide OT) (unhide M2) (by decide))
      have HSF : Hid (∀ m ∈ stayL us ms, FitM m) := hide (fun m hm => unhide HFM m ((List.mem_filter.1 hm).1))
      have HGF : Hid (∀ u ∈ goneL us ms, u ≤ 4294967295) := hide (fun u hu => by
        unfold goneL uidsM at hu
        obtain ⟨m, hm, rfl⟩ := List.mem_map.1 hu
        exact (unhide HFM m ((List.mem_filter.1 hm).1)).1)
      have HSN := hide (show (stayL us ms).length ≤ 4194304 from by have := stayL_len us ms; have := unhide HNN; omega)
      have HGM := hide (show (goneL us ms).length ≤ 4194304 from by have := goneL_len us ms; have := unhide HNN; omega)
      clear KXJ OT OS BJ BW N0 N1 N2 M2 HFM B5 HR0 HU0 hn4 hS5 hj
      generalize hSL : (stayL us ms).length = SLn at HO5 HSN m4 ⊢
      generalize hGL : (goneL us ms).length = GLn at HT5 HGM ⊢
      have HSL := hide hSL
      have HGL := hide hGL
      clear hSL hGL
      go_wp2
      (try simp only [Exit.inBlock, Exit.then])
      refine bodyPost_ret (v := .tuple #[.agg #[.int .u32 (va : Int), .int .u64 (nx : Int), .int .u32 (mr : Int), .int .u32 (la : Int), .slice ay SLn cy], .slice at_ GLn ct, .int .i64 0]) ?_ rfl ⟨⟨_, _, rfl, ⟨by rw [unhide HSL]; exact own_zero (unhide HO5 _ _ _ _ _), unhide HSF, by rw [unhide HSL]; exact unhide HSN⟩, ⟨by rw [unhide HGL]; exact own_zero (unhide HT5 _ _ _ _ _), unhide HGF, by rw [unhide HGL]; exact unhide HGM⟩⟩, unhide HB5 _ _ _ _ _⟩
      rw [results_cell_tmp2 rfl]
      go_simp
end Go.Proofs.YthpjogfclklefaaDoor

/-
  What the document's Do of a box does, over this seat's program: a change that marks.
-/
set_option linter.unusedVariables false
set_option linter.unusedSimpArgs false
namespace Go.Proofs.YthpjogfclklefaaDoor
open Go.RowKit

theorem run_append_row32R (w : World) (B : Nat) (v x : Value) (k l : List Nat) (ty : TypeId) (hown : w.ownsRow B 22 1 v k.length (flatG cells32 k)) (hx : Row32 w x l) (hkl : k.length + l.length ≤ 4194304) (hB : B ≤ w.heap.size) :
    ∃ v' w', (Builtin.append_ #[28, 28] ty #[v, x]).run Tryd.prog w = .ok v' w' ∧ w'.ownsRow B 22 1 v' (k ++ l).length (flatG cells32 (k ++ l)) ∧ Below B w w' := by
  obtain ⟨i0, hi, hz0, hz1, hz2⟩ := info_parts u32Info
  obtain ⟨a, cap, rfl, hl, hr, hc⟩ := hx
  cases a with
  | none =>
    have hl : l = [] := by
      rcases hc with hc | ⟨b, off, ha, _⟩
      · exact hc
      · cases ha
    subst hl
    exact ⟨v, w, run_append_none0 (P := Tryd.prog) (w := w) B 28 ty 22 i0 1 cap Tryd.underlying28 hi v _ _ hown, by simpa using hown, Below.refl _ _⟩
  | some ad =>
    have hnews : ∀ j u, (flatG cells32 l)[j]? = some u → w.cell? (ad.add j) = some u := by
      intro j u hj
      rcases hc with hc | ⟨b, off, ha, hlt, hc⟩
      · subst hc; simp [flatG] at hj
      · obtain rfl := Option.some.inj ha
        rw [addN]
        exact hc j u hj
    obtain ⟨v', w', hrun, h2, h3, h4⟩ := run_append_own (P := Tryd.prog) w B 28 ty 22 i0 _ 1 4 Tryd.underlying28 hi hz0 hz1 hz2 rfl (by decide) v k.length (flatG cells32 k) hown ad l.length cap (flatG cells32 l) (flatG_length cells32_len l) hnews (by intro u hu; simp [flatG, cells32] at hu; obtain ⟨n, _, rfl⟩ := hu; rfl) (by unfold maxLen; omega) (by omega) hB
    exact ⟨v', w', hrun, by rw [List.length_append, flatG_append]; exact h2, below_own (Below.refl _ _) hown h3 hB⟩
/-- The mails where the first are marked. -/
def mks (c : Chg) (j : Nat) (l : List Msg) : List Msg := (l.take j).map (markM c) ++ l.drop j
theorem mks_len (c : Chg) (j : Nat) (l : List Msg) : (mks c j l).length = l.length := by unfold mks; simp; omega
theorem mks_get (c : Chg) {j : Nat} {l : List Msg} (h : j < l.length) : (mks c j l)[j]? = some l[j] := by
  unfold mks
  rw [List.getElem?_append_right (by simp; omega)]
  simp [List.length_take, Nat.min_eq_left (Nat.le_of_lt h), h]
theorem mks_succ (c : Chg) {j : Nat} {l : List Msg} (h : j < l.length) : mks c (j + 1) l = (mks c j l).set j (markM c l[j]) := by
  unfold mks
  rw [List.take_succ_eq_append_getElem h, List.map_append, List.drop_eq_getElem_cons h]
  have hl : ((l.take j).map (markM c)).length = j := by simp; omega
  rw [List.set_append_right _ _ (by omega), hl]
  simp only [Nat.sub_self, List.set_cons_zero, List.map_cons, List.map_nil, List.append_assoc, List.singleton_append]
theorem mks_all (c : Chg) (l : List Msg) : mks c l.length l = l.map (markM c) := by unfold mks; simp

set_option maxHeartbeats 8000000 in
set_option maxRecDepth 100000 in
theorem refDo_mark (b : Bx) (c : Chg) (v vc : Value) (w : World) (h : RowM w v b.ms) (hu : Row32 w vc c.us) (hf : FitB b) (hfc : FitC c) (hob : okB b = true) (hoc : okC c = true) (hk : c.kd = 2 ∨ c.kd = 3 ∨ c.kd = 4) :
    Calls Tryd.prog 7 #[bxV b v, chV c vc] w fun e w' => (∃ v' u', e = .returned (.tuple #[bxV (doB b c) v', u', .int .i64 (doE b c : Int)]) ∧ OutM w' v' (doB b c).ms ∧ OutT w' u' (doT b c)) ∧ Below w.heap.size w w' := by
  have HCK := hide (fun X (hR : RowM X v b.ms) => refBCheck_any b v X hR hf)
  have HFM := hide h.choose_spec.choose_spec.2.2.1
  have hb1 := (((Below.refl _ w).alloc (Nat.le_refl _) (Obj.cells (bxC b v) 26)).alloc (by simp) (Obj.cells (chC c vc) 33)).alloc (by simp; omega) (Obj.cells #[.int .u32 0, .int .u64 0, .int .u32 0, .int .u32 0, .slice none 0 0] 26)
  have k0 := ((Blk.new w 26 (bxC b v)).below ((Below.refl _ _).alloc (Nat.le_refl _) (Obj.cells (chC c vc) 33))).below ((Below.refl _ _).alloc (Nat.le_refl _) (Obj.cells #[.int .u32 0, .int .u64 0, .int .u32 0, .int .u32 0, .slice none 0 0] 26))
  have k1 := (Blk.new (w.alloc (Obj.cells (bxC b v) 26)) 33 (chC c vc)).below ((Below.refl _ _).alloc (Nat.le_refl _) (Obj.cells #[.int .u32 0, .int .u64 0, .int .u32 0, .int .u32 0, .slice none 0 0] 26))
  have k2 := Blk.new ((w.alloc (Obj.cells (bxC b v) 26)).alloc (Obj.cells (chC c vc) 33)) 26 #[.int .u32 0, .int .u64 0, .int .u32 0, .int .u32 0, .slice none 0 0]
  simp only [World.size_alloc] at k1 k2
  have K0 := hide k0
  have K1 := hide k1
  have K2 := hide k2
  have HA := hide hb1
  have HRA := hide (h.below hb1)
  have HUA := hide (hu.below hb1)
  clear k0 k1 k2 hb1
  have hlen := okB_len hob
  have hrise := okB_rise hob
  have hhd := okB_head hob
  have e4 : chkB b = 0 := by unfold chkB; rw [hob]; rfl
  rw [e4] at HCK
  have HCP := hide (fun X (hR : RowM X v b.ms) => refCopy_any b v X hR (by omega))
  have HRG := hide (fun X (hR : Row32 X vc c.us) => refBRight_any c vc X hR hfc)
  have e5 : rightC c = 0 := by unfold rightC; rw [hoc]; rfl
  rw [e5] at HRG
  have HMB := hide (show (allIn b c = true → doB b c = ⟨b.va, b.nx, b.mr, b.la, b.ms.map (markM c)⟩ ∧ doT b c = c.us ∧ doE b c = 0) ∧ (allIn b c = false → doB b c = b ∧ doT b c = [] ∧ doE b c = 3) from by
    have h1 : ¬ c.kd = 1 := by omega
    have h5 : ¬ c.kd = 5 := by omega
    have h6 : ¬ c.kd = 6 := by omega
    unfold doB doT doE workB workT workE markB markT markE
    simp only [hob, hoc, if_true, h1, h5, h6, if_false]
    exact ⟨fun h => by simp [h], fun h => by simp [h]⟩)
  have HALL := hide (show ((∀ u ∈ c.us, u ∈ uidsM b.ms) → allIn b c = true) ∧ (∀ u ∈ c.us, u ∉ uidsM b.ms → allIn b c = false) from by
    unfold allIn
    refine ⟨fun h => by simpa using h, fun u hu hn => ?_⟩
    rw [Bool.eq_false_iff]
    intro ht
    exact hn (by simpa using (List.all_eq_true.1 ht) u hu))
  have HUI := hide (fun X (hX : RowM X v b.ms) => refBUids_any b v X hX hf)
  rw [e4, okB_above hob] at HUI
  have HK := hide hk
  have HFC := hide hfc
  have HUL := hide (okC_rise hoc).2
  generalize doB b c = DB at HMB ⊢
  generalize doT b c = DT at HMB ⊢
  generalize doE b c = DE at HMB ⊢
  generalize allIn b c = AI at HMB HALL
  clear e5 hoc hfc hk
  have HLE := hide hlen
  have HRI := hide hrise
  have HHD := hide hhd
  have HR0 := hide h
  have HU0 := hide hu
  obtain ⟨a, cap, rfl, hl, _, _⟩ := h
  obtain ⟨au, cu, rfl, hl2, _, _⟩ := hu
  clear e4 hob hf hlen hrise hhd
  obtain ⟨va, nx, mr, la, ms⟩ := b
  obtain ⟨kd, us, fl, dy, sc, zn, raw⟩ := c
  simp only [bxV, bxC, chV, chC] at *
  obtain ⟨n, hnn⟩ : ∃ n, ms.length = n := ⟨_, rfl⟩
  obtain ⟨un, hun⟩ : ∃ un, us.length = un := ⟨_, rfl⟩
  rw [hnn] at HCK HRA K0 K1 K2 HA HUA HCP HLE HR0 hl ⊢
  rw [hun] at HRG HUA HRA K0 K1 K2 HA HU0 hl2 ⊢
  have HNN := hide hnn
  have HUN := hide hun
  clear hnn hun
  go_enter Tryd.func7, Tryd.ntmps7
  go_wp2_with fail
  refine (unhide HCK _ (unhide HRA)).mono ?_
  rintro e w1 ⟨rfl, b1⟩
  have B1 := hide (belows' (unhide HA) b1)
  have J0 := hide ((unhide K0).below b1)
  have J1 := hide ((unhide K1).below b1)
  have J2 := hide ((unhide K2).below b1)
  have HR1 := hide ((unhide HRA).below b1)
  have HU1 := hide ((unhide HUA).below b1)
  have hs1 := b1.size
  simp only [World.size_alloc] at hs1
  clear b1 K0 K1 K2 HA HRA HUA HCK
  have c0 := (unhide J0).cell 0
  have c1 := (unhide J0).cell 1
  have c2 := (unhide J0).cell 2
  have c3 := (unhide J0).cell 3
  have c4 := (unhide J0).cell 4
  simp only [List.getElem?_toArray, List.getElem?_cons_succ, List.getElem?_cons_zero] at c0 c1 c2 c3 c4
  go_wp2_with fail
  refine (unhide HCP _ (unhide HR1)).mono ?_
  rintro e w2 ⟨⟨vm, rfl, own2⟩, b2⟩
  obtain ⟨am, cm, rfl, _⟩ := own_sliceG own2
  have hA3 : Below w2.heap.size w2 (w2.alloc (.cells #[.int .u32 (va : Int), .int .u64 (nx : Int), .int .u32 (mr : Int), .int .u32 (la : Int), .slice am ms.length cm] 26)) := (Below.refl _ w2).alloc (Nat.le_refl _) _
  have hs2 := b2.size
  have B3 := hide (belows' (belows' (unhide B1) b2) hA3)
  have L0 := hide (((unhide J0).below b2).below hA3)
  have L1 := hide (((unhide J1).below b2).below hA3)
  have L2 := hide (((unhide J2).below b2).below hA3)
  have HU3 := hide (((unhide HU1).below b2).below hA3)
  have HR3 := hide (((unhide HR1).below b2).below hA3)
  have HO3 := hide (own_below own2 hA3)
  have LX := hide (Blk.new w2 26 #[.int .u32 (va : Int), .int .u64 (nx : Int), .int .u32 (mr : Int), .int .u32 (la : Int), .slice am ms.length cm])
  have hs3 : (w2.alloc (.cells #[.int .u32 (va : Int), .int .u64 (nx : Int), .int .u32 (mr : Int), .int .u32 (la : Int), .slice am ms.length cm] 26)).heap.size = w2.heap.size + 1 := by simp
  rw [unhide HNN] at B3 L0 L1 L2 HU3 HR3 HO3 LX hs3
  clear own2 hA3 b2 B1 J0 J1 J2 HU1 HR1 HCP c0 c1 c2 c3 c4
  have d0 := (unhide L1).cell 0
  have d1 := (unhide L1).cell 1
  have d2 := (unhide L1).cell 2
  have d3 := (unhide L1).cell 3
  have d4 := (unhide L1).cell 4
  have d5 := (unhide L1).cell 5
  have d6 := (unhide L1).cell 6
  simp only [List.getElem?_toArray, List.getElem?_cons_succ, List.getElem?_cons_zero] at d0 d1 d2 d3 d4 d5 d6
  go_wp2_with fail
  refine (unhide HRG _ (unhide HU3)).mono ?_
  rintro e w4 ⟨rfl, b4⟩
  have B4 := hide (belows' (unhide B3) b4)
  have M0 := hide ((unhide L0).below b4)
  have M1 := hide ((unhide L1).below b4)
  have M2 := hide ((unhide L2).below b4)
  have MX := hide ((unhide LX).below b4)
  have HU4 := hide ((unhide HU3).below b4)
  have HR4 := hide ((unhide HR3).below b4)
  have HO4 := hide (own_below (unhide HO3) b4)
  have hs4 := b4.size
  rw [hs3] at hs4
  clear b4 L0 L1 L2 LX B3 HU3 HR3 HO3 HRG d0 d1 d2 d3 d4 d5 d6 hs3
  generalize w2.heap.size = P at MX hs2 hs4 ⊢
  have hP : w.heap.size + 1 + 1 + 1 ≤ w1.heap.size ∧ w1.heap.size ≤ P ∧ P < w4.heap.size ∧ w.heap.size + 1 + 1 ≠ P := by omega
  clear hs1 hs2 hs4
  rw [unhide HNN] at HUI
  have a0 := (unhide M0).cell 0
  have a1 := (unhide M0).cell 1
  have a2 := (unhide M0).cell 2
  have a3 := (unhide M0).cell 3
  have a4 := (unhide M0).cell 4
  simp only [List.getElem?_toArray, List.getElem?_cons_succ, List.getElem?_cons_zero] at a0 a1 a2 a3 a4
  have d0 := (unhide M1).cell 0
  have d1 := (unhide M1).cell 1
  have d2 := (unhide M1).cell 2
  have d3 := (unhide M1).cell 3
  have d4 := (unhide M1).cell 4
  have d5 := (unhide M1).cell 5
  have d6 := (unhide M1).cell 6
  simp only [List.getElem?_toArray, List.getElem?_cons_succ, List.getElem?_cons_zero] at d0 d1 d2 d3 d4 d5 d6
  have hk := unhide HK
  have e1 : ((kd : Int) == 1) = false := by simp; omega
  have e5 : ((kd : Int) == 5) = false := by simp; omega
  have e6 : ((kd : Int) == 6) = false := by simp; omega
  clear hk
  go_wp2_with fail
  refine (unhide HUI _ (unhide HR4)).mono ?_
  rintro e w5 ⟨⟨vA, rfl, oA⟩, b5⟩
  obtain ⟨aA, cA, rfl, _⟩ := own_sliceG oA.1
  have HRA := hide oA.row
  have N1 := hide ((unhide M1).below b5)
  have N2 := hide ((unhide M2).below b5)
  have NX := hide ((unhide MX).below b5)
  have B5 := hide (belows' (unhide B4) b5)
  have HU5 := hide ((unhide HU4).below b5)
  have HO5 := hide (own_below (unhide HO4) b5)
  have hs5 := b5.size
  generalize hnA : (uidsM ms).length = nA at HRA ⊢
  clear a0 a1 a2 a3 a4 d0 d1 d2 d3 d4 d5 d6 b5 oA M0 M1 M2 MX B4 HR4 HU4 HO4 HUI hnA
  have d0 := (unhide N1).cell 0
  have d1 := (unhide N1).cell 1
  have d2 := (unhide N1).cell 2
  have d3 := (unhide N1).cell 3
  have d4 := (unhide N1).cell 4
  have d5 := (unhide N1).cell 5
  have d6 := (unhide N1).cell 6
  simp only [List.getElem?_toArray, List.getElem?_cons_succ, List.getElem?_cons_zero] at d0 d1 d2 d3 d4 d5 d6
  have m0 := (unhide NX).cell 0
  have m1 := (unhide NX).cell 1
  have m2 := (unhide NX).cell 2
  have m3 := (unhide NX).cell 3
  have m4 := (unhide NX).cell 4
  simp only [List.getElem?_toArray, List.getElem?_cons_succ, List.getElem?_cons_zero] at m0 m1 m2 m3 m4
  have r0 := (unhide N2).cell 0
  have r1 := (unhide N2).cell 1
  have r2 := (unhide N2).cell 2
  have r3 := (unhide N2).cell 3
  have r4 := (unhide N2).cell 4
  have f0 := (unhide N2).frozen 0
  have f1 := (unhide N2).frozen 1
  have f2 := (unhide N2).frozen 2
  have f3 := (unhide N2).frozen 3
  have f4 := (unhide N2).frozen 4
  simp only [List.getElem?_toArray, List.getElem?_cons_succ, List.getElem?_cons_zero] at r0 r1 r2 r3 r4
  go_wp2
  go_loopw [15, 119] (fun _ z wr => ∃ j : Nat, z = .int .i64 j ∧ j ≤ un ∧ wr = w5 ∧ Hid (∀ u ∈ us.take j, u ∈ uidsM ms)) (fun _ z _ => un - (intOf z).toNat)
  case atStart => exact ⟨0, rfl, Nat.zero_le _, rfl, hide (by simp)⟩
  case round =>
    obtain ⟨j, rfl, hj, hwr, HT⟩ := hrel
    subst hwr
    by_cases hlt : j < un
    · have hlt1 : (j : Int) < (un : Int) := by omega
      have hjl : j < us.length := by rw [unhide HUN]; exact hlt
      obtain ⟨g, off, cp, hvv, hg, hcell⟩ := RowG.at cells32_len (unhide HU5) (j := j) hjl
      injection hvv with e1' e2' e3'
      subst e1'
      have c0 := hcell 0 (by omega)
      simp only [cells32, List.getElem?_cons_zero, Nat.add_zero, Nat.mul_one] at c0
      have hu4 := (unhide HU5).choose_spec.choose_spec.2.2.1 _ (List.getElem_mem hjl)
      have HIN := hide (in_any (.slice aA nA cA) (uidsM ms) us[j] _ (unhide HRA) hu4)
      have HTK : Hid (us.take (j + 1) = us.take j ++ [us[j]]) := hide (by rw [List.take_succ_eq_append_getElem hjl])
      have HMU := hide (List.getElem_mem hjl)
      clear hcell e2' e3'
      generalize us[j] = u at c0 HIN HTK HMU hu4
      by_cases hin : u ∈ uidsM ms
      · rw [decide_eq_true hin] at HIN
        have HT2 : Hid (∀ x ∈ us.take (j + 1), x ∈ uidsM ms) := hide (fun x hx => by
          rw [unhide HTK] at hx
          rcases List.mem_append.1 hx with hx | hx
          · exact unhide HT x hx
          · rw [List.mem_singleton.1 hx]; exact hin)
        clear hin HT HTK HMU
        go_wp2_with fail
        refine (unhide HIN).mono ?_
        rintro e w6 ⟨rfl, h6⟩
        subst h6
        clear HIN
        go_wp2
        exact ⟨⟨j + 1, by go_num, by omega, trivial, HT2⟩, by simp [intOf]; omega⟩
      · rw [decide_eq_false hin] at HIN
        have haf := (unhide HALL).2 u (unhide HMU) hin
        obtain ⟨r1', r2', r3'⟩ := (unhide HMB).2 haf
        subst r1' r2' r3'
        have HB5 := hide (below5 (s := w.heap.size + 1 + 1) (unhide B5) (by omega))
        have HO6 := hide (own5 (unhide HO5) (unhide N2) (by decide))
        have HLN := hide (show ms.length ≤ 4194304 from by have := unhide HLE; have := unhide HNN; omega)
        clear hin HT HTK HMU HO5 B5 N1 N2 NX HR0 HU0 HLE HRI HHD HMB HALL haf HK
        go_wp2_with fail
        refine (unhide HIN).mono ?_
        rintro e w6 ⟨rfl, h6⟩
        subst h6
        clear HIN
        go_wp2
        (try simp only [Exit.inBlock, Exit.then])
        refine bodyPost_ret (v := .tuple #[.agg #[.int .u32 (va : Int), .int .u64 (nx : Int), .int .u32 (mr : Int), .int .u32 (la : Int), .slice am n cm], .slice none 0 0, .int .i64 3]) ?_ rfl ⟨⟨_, .slice none 0 0, rfl, ⟨by rw [unhide HNN]; exact own_zero (unhide HO6 _ _ _ _ _), unhide HFM, unhide HLN⟩, OutT.nil _⟩, unhide HB5 _ _ _ _ _⟩
        rw [results_cell_tmp2 rfl]
        go_simp
    · have hlt1 : ¬ (j : Int) < (un : Int) := by omega
      have hall := (unhide HALL).1 (fun u hu => unhide HT u (by rw [List.take_of_length_le (by rw [unhide HUN]; omega)]; exact hu))
      obtain ⟨r1', r2', r3'⟩ := (unhide HMB).1 hall
      replace r2' := r2'.symm
      subst r1' r2' r3'
      clear HT hall HMB HALL
      go_wp2
      obtain ⟨V5, hV5⟩ : ∃ V5, V5 = wr := ⟨_, rfl⟩
      subst hV5
      have hnx9 : n ≤ 4096 := unhide HLE
      clear hlt1 hlt hj
      have hB0 : w1.heap.size ≤ V5.heap.size := by omega
      have HKX : Hid (V5.ownsRow w1.heap.size 47 6 (.slice am n cm) n (flatG msC (mks (⟨kd, us, fl, dy, sc, zn, raw⟩ : Chg) 0 ms))) := hide (by unfold mks; simpa using unhide HO5)
      go_loopw [16, 17, 132] (fun _ _ z wx => ∃ j : Nat, z = .int .i64 j ∧ j ≤ n ∧ Hid (Blk wx P 26 #[.int .u32 (va : Int), .int .u64 (nx : Int), .int .u32 (mr : Int), .int .u32 (la : Int), .slice am n cm]) ∧ Hid (wx.ownsRow w1.heap.size 47 6 (.slice am n cm) n (flatG msC (mks (⟨kd, us, fl, dy, sc, zn, raw⟩ : Chg) j ms))) ∧ Hid (Below w1.heap.size V5 wx)) (fun _ _ z _ => n - (intOf z).toNat)
      case atStart => exact ⟨0, rfl, Nat.zero_le _, NX, HKX, hide (Below.refl _ _)⟩
      case round =>
        obtain ⟨j, rfl, hj, KXJ, OS, BJ⟩ := hrel
        have BW := hide ((unhide B5).trans ((unhide BJ).mono (show w.heap.size ≤ w1.heap.size by omega)))
        by_cases hlt : j < n
        · have hlt1 : (j : Int) < (n : Int) := by omega
          have hjl : j < ms.length := by rw [unhide HNN]; exact hlt
          have hjm : j < (mks (⟨kd, us, fl, dy, sc, zn, raw⟩ : Chg) j ms).length := by rw [mks_len]; exact hjl
          have hln : (mks (⟨kd, us, fl, dy, sc, zn, raw⟩ : Chg) j ms).length = n := by rw [mks_len]; exact unhide HNN
          have hel : (mks (⟨kd, us, fl, dy, sc, zn, raw⟩ : Chg) j ms)[j] = ms[j] := by
            have := mks_get (⟨kd, us, fl, dy, sc, zn, raw⟩ : Chg) hjl
            rw [List.getElem?_eq_getElem hjm] at this
            exact Option.some.inj this
          have hA : Below wr.heap.size wr (wr.alloc (.cells (msC ms[j]).toArray 47)) := (Below.refl _ wr).alloc (Nat.le_refl _) _
          have OV := own_below (unhide OS) hA
          have os := unhide OS
          rw [← hln] at os
          obtain ⟨g, cpm, hvm, hBg, hgm, hcm2, hfz⟩ := ownG_at msC_len os hjm
          rw [hln] at hvm
          injection hvm with e1' e2' e3'
          subst e1'
          have ov := OV
          rw [← hln] at ov
          obtain ⟨g', cpm', hvm', _, _, hcm3, hfz3⟩ := ownG_at msC_len ov hjm
          rw [hln] at hvm'
          injection hvm' with e4' e5' e6'
          obtain rfl : g = g' := by injection e4' with e; injection e
          have d0 := hcm2 0 (by omega)
          have d1 := hcm2 1 (by omega)
          have d2 := hcm2 2 (by omega)
          have d3 := hcm2 3 (by omega)
          have d4 := hcm2 4 (by omega)
          have d5 := hcm2 5 (by omega)
          have y1 := hcm3 1 (by omega)
          have yf := hfz3 (j * 6 + 1)
          rw [hel] at d0 d1 d2 d3 d4 d5 y1
          simp only [msC, List.getElem?_cons_succ, List.getElem?_cons_zero, Nat.add_zero] at d0 d1 d2 d3 d4 d5 y1
          have HSU := hide (mks_succ (⟨kd, us, fl, dy, sc, zn, raw⟩ : Chg) hjl)
          have hft := unhide HFM _ (List.getElem_mem hjl)
          have hgP : g ≠ P := fun e => own_neT os (unhide KXJ) (by decide) (by rw [← e]; rfl)
          have HST := hide (fun (h1 : Nat) => show (flatG msC (mks (⟨kd, us, fl, dy, sc, zn, raw⟩ : Chg) j ms)).set (j * 6 + 1) (.int .u8 (h1 : Int)) = flatG msC ((mks (⟨kd, us, fl, dy, sc, zn, raw⟩ : Chg) j ms).set j ⟨ms[j].uid, h1, ms[j].dy, ms[j].sc, ms[j].zn, ms[j].raw⟩) from flatG_set msC_len _ j hjm _ 1 (by omega) _ (by rw [hel]; rfl))
          have HSM : Hid ((mks (⟨kd, us, fl, dy, sc, zn, raw⟩ : Chg) j ms).set j ms[j] = mks (⟨kd, us, fl, dy, sc, zn, raw⟩ : Chg) j ms) := hide (by rw [← hel]; exact List.set_getElem_self hjm)
          have KMH := hide (Blk.new wr 47 (msC ms[j]).toArray)
          have KPH := hide ((unhide KXJ).below hA)
          have KCH := hide ((blk_belowC (unhide N1) (unhide BJ) (show w.heap.size + 1 < w1.heap.size by omega)).below hA)
          have hws := (unhide BJ).size
          have BJA := hide ((unhide BJ).trans (hA.mono (show w1.heap.size ≤ wr.heap.size by omega)))
          have HUA := ((unhide HU0).below (unhide BW)).below hA
          have HIN := hide (in_any (.slice au un cu) us ms[j].uid _ HUA hft.1)
          have OVH := hide OV
          clear e2' e3' e4' e5' e6' hcm2 hcm3 hfz hfz3 os ov OV HUA hA hel hln hjm BW
          obtain ⟨m, hm⟩ : ∃ m, ms[j] = m := ⟨_, rfl⟩
          rw [hm] at d0 d1 d2 d3 d4 d5 y1 yf HSU hft HST HSM KMH KPH KCH BJA HIN OVH
          clear hm
          obtain ⟨mu, mf, md, msc, mz, mraw⟩ := m
          simp only [msC] at d0 d1 d2 d3 d4 d5 y1 yf HSU hft HST HSM KMH KPH KCH BJA HIN OVH
          have hmf : mf ≤ 255 := hft.2.1
          have HM := hide (show markM (⟨kd, us, fl, dy, sc, zn, raw⟩ : Chg) ⟨mu, mf, md, msc, mz, mraw⟩ = if mu ∈ us then ⟨mu, markF kd mf fl, md, msc, mz, mraw⟩ else ⟨mu, mf, md, msc, mz, mraw⟩ from rfl)
          have z0 := (unhide KMH).cell 0
          have z1 := (unhide KMH).cell 1
          have z2 := (unhide KMH).cell 2
          have z3 := (unhide KMH).cell 3
          have z4 := (unhide KMH).cell 4
          have z5 := (unhide KMH).cell 5
          have c0 := (unhide KCH).cell 0
          have c1 := (unhide KCH).cell 1
          have c2 := (unhide KCH).cell 2
          have x4 := (unhide KPH).cell 4
          simp only [List.getElem?_toArray, List.getElem?_cons_succ, List.getElem?_cons_zero] at z0 z1 z2 z3 z4 z5 c0 c1 c2 x4
          clear hft
          by_cases hin : mu ∈ us
          · rw [decide_eq_true hin] at HIN
            rw [if_pos hin] at HM
            rw [unhide HM] at HSU
            have hfl : fl ≤ 255 := (unhide HFC).2.1
            have o1 := u8_or_nat mf fl (by omega) (by omega)
            have o2 := u8_andNot_nat mf fl (by omega) (by omega)
            have hkk : kd = 2 ∨ kd = 3 ∨ kd = 4 := unhide HK
            have NXT : Hid (∀ h1 : Nat, markF kd mf fl = h1 → (Blk ((wr.setCell ⟨g, j * 6 + 1, none⟩ (.int .u8 (h1 : Int))).alloc (.cells #[.int .u32 (mu : Int), .int .u8 (mf : Int), .int .i64 md, .int .i64 msc, .int .i64 mz, .string mraw] 47)) P 26 #[.int .u32 (va : Int), .int .u64 (nx : Int), .int .u32 (mr : Int), .int .u32 (la : Int), .slice (some ⟨g, 0, none⟩) n cm]) ∧ ((wr.setCell ⟨g, j * 6 + 1, none⟩ (.int .u8 (h1 : Int))).alloc (.cells #[.int .u32 (mu : Int), .int .u8 (mf : Int), .int .i64 md, .int .i64 msc, .int .i64 mz, .string mraw] 47)).ownsRow w1.heap.size 47 6 (.slice (some ⟨g, 0, none⟩) n cm) n (flatG msC (mks (⟨kd, us, fl, dy, sc, zn, raw⟩ : Chg) (j + 1) ms)) ∧ Below w1.heap.size V5 ((wr.setCell ⟨g, j * 6 + 1, none⟩ (.int .u8 (h1 : Int))).alloc (.cells #[.int .u32 (mu : Int), .int .u8 (mf : Int), .int .i64 md, .int .i64 msc, .int .i64 mz, .string mraw] 47))) := hide (fun h1 hh => by
              have hA2 : Below (wr.setCell ⟨g, j * 6 + 1, none⟩ (.int .u8 (h1 : Int))).heap.size (wr.setCell ⟨g, j * 6 + 1, none⟩ (.int .u8 (h1 : Int))) ((wr.setCell ⟨g, j * 6 + 1, none⟩ (.int .u8 (h1 : Int))).alloc (.cells #[.int .u32 (mu : Int), .int .u8 (mf : Int), .int .i64 md, .int .i64 msc, .int .i64 mz, .string mraw] 47)) := (Below.refl _ _).alloc (Nat.le_refl _) _
              refine ⟨((unhide KXJ).other (a := ⟨g, j * 6 + 1, none⟩) (fun e => hgP e.symm) _).below hA2, ?_, ((unhide BJ).setCell (p := ⟨g, j * 6 + 1, none⟩) hBg _).trans (hA2.mono (by rw [World.size_setCell]; omega))⟩
              have hst := ((unhide OS).stored (j * 6 + 1) (.int .u8 (h1 : Int))).1
              rw [unhide HST, ← hh, ← unhide HSU] at hst
              rw [hh] at hst
              exact own_below hst hA2)
            clear hin HSU HST HSM KMH KPH KCH BJA OVH HM KXJ OS BJ
            rcases hkk with hkk | hkk | hkk
            · have k2 : ((kd : Int) == 2) = true := by simp; omega
              have NX1 := unhide NXT fl (by unfold markF; rw [if_neg (by omega), if_neg (by omega)])
              have G1 := hide NX1.1
              have G2 := hide NX1.2.1
              have G3 := hide NX1.2.2
              clear NX1 NXT hkk o1 o2
              go_wp2_with fail
              refine (unhide HIN).mono ?_
              rintro e w6 ⟨rfl, h6⟩
              subst h6
              clear HIN
              go_wp2
              exact ⟨⟨j + 1, by go_num, by omega, G1, G2, G3⟩, by simp [intOf]; omega⟩
            · have k2 : ((kd : Int) == 2) = false := by simp; omega
              have k3 : ((kd : Int) == 3) = true := by simp; omega
              have NX1 := unhide NXT (mf ||| fl) (by unfold markF; rw [if_pos (by omega)])
              have G1 := hide NX1.1
              have G2 := hide NX1.2.1
              have G3 := hide NX1.2.2
              generalize mf ||| fl = h1 at o1 G1 G2 G3
              clear NX1 NXT hkk o2
              go_wp2_with fail
              refine (unhide HIN).mono ?_
              rintro e w6 ⟨rfl, h6⟩
              subst h6
              clear HIN
              go_wp2
              exact ⟨⟨j + 1, by go_num, by omega, G1, G2, G3⟩, by simp [intOf]; omega⟩
            · have k2 : ((kd : Int) == 2) = false := by simp; omega
              have k3 : ((kd : Int) == 3) = false := by simp; omega
              have NX1 := unhide NXT (mf &&& (255 - fl)) (by unfold markF; rw [if_neg (by omega), if_pos (by omega)])
              have G1 := hide NX1.1
              have G2 := hide NX1.2.1
              have G3 := hide NX1.2.2
              generalize mf &&& (255 - fl) = h1 at o2 G1 G2 G3
              clear NX1 NXT hkk o1
              go_wp2_with fail
              refine (unhide HIN).mono ?_
              rintro e w6 ⟨rfl, h6⟩
              subst h6
              clear HIN
              go_wp2
              exact ⟨⟨j + 1, by go_num, by omega, G1, G2, G3⟩, by simp [intOf]; omega⟩
          · rw [decide_eq_false hin] at HIN
            rw [if_neg hin] at HM
            rw [unhide HM, unhide HSM] at HSU
            have OS2 : Hid ((wr.alloc (.cells #[.int .u32 (mu : Int), .int .u8 (mf : Int), .int .i64 md, .int .i64 msc, .int .i64 mz, .string mraw] 47)).ownsRow w1.heap.size 47 6 (.slice (some ⟨g, 0, none⟩) n cm) n (flatG msC (mks (⟨kd, us, fl, dy, sc, zn, raw⟩ : Chg) (j + 1) ms))) := hide (by rw [unhide HSU]; exact unhide OVH)
            clear hin HSU HST HSM KMH KCH OVH HM KXJ OS BJ
            go_wp2_with fail
            refine (unhide HIN).mono ?_
            rintro e w6 ⟨rfl, h6⟩
            subst h6
            clear HIN
            go_wp2
            exact ⟨⟨j + 1, by go_num, by omega, KPH, OS2, BJA⟩, by simp [intOf]; omega⟩
        · have hlt1 : ¬ (j : Int) < (n : Int) := by omega
          have hjn : j = ms.length := by rw [unhide HNN]; omega
          have hmk : mks (⟨kd, us, fl, dy, sc, zn, raw⟩ : Chg) j ms = ms.map (markM (⟨kd, us, fl, dy, sc, zn, raw⟩ : Chg)) := by rw [hjn]; exact mks_all _ _
          rw [hmk] at OS
          have M1 := blk_belowC (unhide N1) (unhide BJ) (show w.heap.size + 1 < w1.heap.size by omega)
          have M2 := blk_belowC (unhide N2) (unhide BJ) (show w.heap.size + 1 + 1 < w1.heap.size by omega)
          have HUW := (unhide HU0).below (unhide BW)
          have hD : Below wr.heap.size wr wr.drew := below_drewB (Below.refl _ _)
          have hDA : Below wr.heap.size wr (wr.drew.alloc (.cells #[] 22)) := hD.trans ((Below.refl _ wr.drew).alloc (Nat.le_refl _) _)
          have hown0 : (wr.drew.alloc (.cells #[] 22)).ownsRow wr.heap.size 22 1 (.slice (some ⟨wr.heap.size, 0, none⟩) 0 0) ([] : List Nat).length (flatG cells32 []) := World.ownsRow_lit wr.drew #[] 0 (Nat.le_refl _) (by unfold maxLen; omega) rfl
          have hul : us.length ≤ 65536 := unhide HUL
          have hln4 : ms.length ≤ 4096 := by rw [unhide HNN]; omega
          obtain ⟨v', Y2, hr, o2, bY⟩ := run_append_row32R (wr.drew.alloc (.cells #[] 22)) wr.heap.size (.slice (some ⟨wr.heap.size, 0, none⟩) 0 0) (.slice au un cu) [] us 28 hown0 (HUW.below hDA) (by simp; omega) hDA.size
          simp only [List.nil_append] at o2
          obtain ⟨av, cv, rfl, _⟩ := own_sliceG o2
          have hb1 := hDA.trans bY
          have HS := hide (fun X (hX : Blk X P 26 #[.int .u32 (va : Int), .int .u64 (nx : Int), .int .u32 (mr : Int), .int .u32 (la : Int), .slice am n cm]) (hX2 : Blk X (w.heap.size + 1) 33 #[.int .u8 (kd : Int), .slice au un cu, .int .u8 (fl : Int), .int .i64 dy, .int .i64 sc, .int .i64 zn, .string raw]) => show (X.cell? ⟨P, 0, none⟩ = some (.int .u32 (va : Int)) ∧ X.cell? ⟨P, 1, none⟩ = some (.int .u64 (nx : Int)) ∧ X.cell? ⟨P, 2, none⟩ = some (.int .u32 (mr : Int)) ∧ X.cell? ⟨P, 3, none⟩ = some (.int .u32 (la : Int)) ∧ X.cell? ⟨P, 4, none⟩ = some (.slice am n cm) ∧ X.cell? ⟨w.heap.size + 1, 1, none⟩ = some (.slice au un cu)) from ⟨hX.cell 0, hX.cell 1, hX.cell 2, hX.cell 3, hX.cell 4, hX2.cell 1⟩)
          have S1 := hide (unhide HS _ ((unhide KXJ).below hD) (M1.below hD))
          have S2 := hide (unhide HS _ ((unhide KXJ).below hDA) (M1.below hDA))
          have S3 := hide (unhide HS _ ((unhide KXJ).below hb1) (M1.below hb1))
          have hne : P ≠ w.heap.size + 1 + 1 := fun e => hP.2.2.2 e.symm
          have S4 := hide (fun u0 u1 u2 u3 u4 => unhide HS _ (blk5 ((unhide KXJ).below hb1) hne u0 u1 u2 u3 u4) (blk5 (M1.below hb1) (show w.heap.size + 1 ≠ w.heap.size + 1 + 1 by omega) u0 u1 u2 u3 u4))
          have R2 := hide (M2.below hb1)
          have HB5 := hide (below5 (s := w.heap.size + 1 + 1) ((unhide BW).trans (hb1.mono (show w.heap.size ≤ wr.heap.size by have := (unhide BW).size; omega))) (by omega))
          have HO6 := hide (own5 (own_below (unhide OS) hb1) (M2.below hb1) (by decide))
          have HT6 := hide (own5 (own_zero o2) (M2.below hb1) (by decide))
          have HMF : Hid (∀ m ∈ ms.map (markM (⟨kd, us, fl, dy, sc, zn, raw⟩ : Chg)), FitM m) := hide (fun m hm => by
            obtain ⟨m', hm', rfl⟩ := List.mem_map.1 hm
            unfold markM
            split
            · exact mkM_fit (unhide HFC).2.1 (unhide HFM _ hm')
            · exact unhide HFM _ hm')
          have HML := hide (show (ms.map (markM (⟨kd, us, fl, dy, sc, zn, raw⟩ : Chg))).length = n from by rw [List.length_map]; exact unhide HNN)
          have HUF : Hid (∀ u ∈ us, u ≤ 4294967295) := hide HUW.choose_spec.choose_spec.2.2.1
          have HUN2 := hide (show us.length ≤ 4194304 by omega)
          have r0 := (unhide R2).cell 0
          have f0 := (unhide R2).frozen 0
          have r1 := (unhide R2).cell 1
          have f1 := (unhide R2).frozen 1
          have r2 := (unhide R2).cell 2
          have f2 := (unhide R2).frozen 2
          have r3 := (unhide R2).cell 3
          have f3 := (unhide R2).frozen 3
          have r4 := (unhide R2).cell 4
          have f4 := (unhide R2).frozen 4
          simp only [List.getElem?_toArray, List.getElem?_cons_succ, List.getElem?_cons_zero] at r0 r1 r2 r3 r4
          clear hjn hmk M1 M2 HUW hD hDA hown0 o2 bY hb1 HS hne KXJ OS BJ BW N1 N2 NX HR0 HU0 HLE HRI HHD HFM HK HKX HO5 B5 HRA HU5 hj hlt R2 hln4 hul
          go_upto_region 47 with (fail)
          refine wp_region_held_drew (S := (fun w' => (w'.cell? ⟨P, 0, none⟩ = some (.int .u32 (va : Int)) ∧ w'.cell? ⟨P, 1, none⟩ = some (.int .u64 (nx : Int)) ∧ w'.cell? ⟨P, 2, none⟩ = some (.int .u32 (mr : Int)) ∧ w'.cell? ⟨P, 3, none⟩ = some (.int .u32 (la : Int)) ∧ w'.cell? ⟨P, 4, none⟩ = some (.slice am n cm) ∧ w'.cell? ⟨w.heap.size + 1, 1, none⟩ = some (.slice au un cu)))) (by kernel_rfl) ?_ (fun hHeld => ?_)
          · exact unhide S1
          refine wpAnyH_take (i := 0) (v := .agg #[.int .u32 (va : Int), .int .u64 (nx : Int), .int .u32 (mr : Int), .int .u32 (la : Int), .slice am n cm]) rfl (by kernel_rfl) (by kernel_rfl) (by kernel_rfl) (fun _ _ _ h => h) (Or.inl ⟨by kernel_rfl, fun wS hSw => ?_⟩) (by assumption) ?_
          · (try dsimp only at hSw); go_simp
          (try simp only [Act.put, List.setIfInBounds_toArray, List.set_cons_zero, List.set_cons_succ])
          refine wpAnyH_take (i := 2) (v := .pointer (some ⟨w.heap.size + 1, 1, none⟩)) rfl (by kernel_rfl) (by kernel_rfl) (by kernel_rfl) (fun _ _ _ h => h) (Or.inl ⟨by kernel_rfl, fun wS hSw => ?_⟩) (by assumption) ?_
          · (try dsimp only at hSw); go_simp
          (try simp only [Act.put, List.setIfInBounds_toArray, List.set_cons_zero, List.set_cons_succ])
          refine wpAnyH_take (i := 3) (v := .slice au un cu) rfl (by kernel_rfl) (by kernel_rfl) (by kernel_rfl) (fun _ _ _ h => h) (Or.inl ⟨by kernel_rfl, fun wS hSw => ?_⟩) (by assumption) ?_
          · (try dsimp only at hSw); go_simp
          (try simp only [Act.put, List.setIfInBounds_toArray, List.set_cons_zero, List.set_cons_succ])
          refine wpAnyH_ready (rs := [1]) (by kernel_rfl) (by simp) ?_
          refine AllReadyH.cons rfl (fun K hK => ?_) AllReadyH.nil
          go_simp
          refine hK.out _ _ ?_ (fun hHeld => ?_)
          · exact unhide S2
          clear hK K
          (try simp only [Act.put, List.setIfInBounds_toArray, List.set_cons_zero, List.set_cons_succ])
          refine wpAnyH_ready (rs := [4]) (by kernel_rfl) (by simp) ?_
          refine AllReadyH.cons rfl (fun K hK => ?_) AllReadyH.nil
          refine step_append_runB rfl (.tmp 178) (.tmp 180) 28 28 rfl _ _ _ (by simp [Act.eval]) (by simp [Act.eval]) hr ?_
          refine hK.out _ _ ?_ (fun hHeld => ?_)
          · exact unhide S3
          clear hK K
          (try simp only [Act.put, List.setIfInBounds_toArray, List.set_cons_zero, List.set_cons_succ])
          refine wpAnyH_ready (rs := [5]) (by kernel_rfl) (by simp) ?_
          refine AllReadyH.cons rfl (fun K hK => ?_) AllReadyH.nil
          go_simp
          refine hK.out _ _ ?_ (fun hHeld => ?_)
          · exact unhide S4 _ _ _ _ _
          clear hK K
          (try simp only [Act.put, List.setIfInBounds_toArray, List.set_cons_zero, List.set_cons_succ])
          refine wpAnyH_take (i := 6) (v := .slice av us.length cv) rfl (by kernel_rfl) (by kernel_rfl) (by kernel_rfl) (fun _ _ _ h => h) (Or.inl ⟨by kernel_rfl, fun wS hSw => ?_⟩) (by assumption) ?_
          · (try dsimp only at hSw); go_simp
          (try simp only [Act.put, List.setIfInBounds_toArray, List.set_cons_zero, List.set_cons_succ])
          refine wpAnyH_take (i := 7) (v := .int .i64 0) rfl (by kernel_rfl) (by kernel_rfl) (by kernel_rfl) (fun _ _ _ h => h) (Or.inl ⟨by kernel_rfl, fun wS hSw => ?_⟩) (by assumption) ?_
          · (try dsimp only at hSw); go_simp
          (try simp only [Act.put, List.setIfInBounds_toArray, List.set_cons_zero, List.set_cons_succ])
          refine wpAnyH_done (by kernel_rfl) ?_ _
          clear hHeld S1 S2 S3 S4
          go_wp2
          (try simp only [Exit.inBlock, Exit.then])
          refine bodyPost_ret (v := .tuple #[.agg #[.int .u32 (va : Int), .int .u64 (nx : Int), .int .u32 (mr : Int), .int .u32 (la : Int), .slice am n cm], .slice av us.length cv, .int .i64 0]) ?_ rfl ⟨⟨_, _, rfl, ⟨by rw [unhide HML]; exact own_zero (unhide HO6 _ _ _ _ _), unhide HMF, by rw [unhide HML]; omega⟩, ⟨unhide HT6 _ _ _ _ _, unhide HUF, unhide HUN2⟩⟩, unhide HB5 _ _ _ _ _⟩
          rw [results_cell_tmp2 rfl]
          go_simp
end Go.Proofs.YthpjogfclklefaaDoor

/-
  What the document's Do of a box does, over this seat's program: what the program's own tells.
-/
set_option linter.unusedVariables false
namespace Go.Proofs.YthpjogfclklefaaDoor
open Go.RowKit

theorem refBDo_any (b : Bx) (c : Chg) (v vc : Value) (w : World) (h : RowM w v b.ms) (hu : Row32 w vc c.us) (hf : FitB b) (hfc : FitC c) :
    Calls Tryd.prog 7 #[bxV b v, chV c vc] w fun e w' => (∃ v' u', e = .returned (.tuple #[bxV (doB b c) v', u', .int .i64 (doE b c : Int)]) ∧ OutM w' v' (doB b c).ms ∧ OutT w' u' (doT b c)) ∧ Below w.heap.size w w' := by
  cases hob : okB b with
  | false => exact refDo_badB b c v vc w h hu hf hfc hob
  | true =>
    cases hoc : okC c with
    | false => exact refDo_badC b c v vc w h hu hf hfc hob hoc
    | true =>
      rcases okC_kind hoc with hk | hk | hk | hk
      · cases hful : fullB b with
        | false => exact refDo_put b c v vc w h hu hf hfc hob hoc hk hful
        | true => exact refDo_full b c v vc w h hu hf hfc hob hoc hk hful
      · exact refDo_gone b c v vc w h hu hf hfc hob hoc hk
      · exact refDo_sel b c v vc w h hu hf hfc hob hoc hk
      · exact refDo_mark b c v vc w h hu hf hfc hob hoc hk
end Go.Proofs.YthpjogfclklefaaDoor

/-
  What missivelaw19.BoxDoes does, over this seat's program: it answers true.
-/
set_option linter.unusedVariables false
set_option linter.unusedSimpArgs false
namespace Go.Proofs.YthpjogfclklefaaDoor
open Go.RowKit

set_option maxHeartbeats 8000000 in
set_option maxRecDepth 100000 in
theorem boxDoes_walk (b : Bx) (c : Chg) (v vc : Value) (u : Nat) (w : World) (ht : LTab w) (h : RowM w v b.ms) (hc : Row32 w vc c.us) (hf : FitB b) (hfc : FitC c) (hu : u ≤ 4294967295) (hn : b.ms.length ≤ 4194304) :
    Calls Tryd.prog 3 #[bxV b v, chV c vc, .int .u32 (u : Int)] w fun e w' => e = .returned (.bool true) ∧ Below w.heap.size w w' := by
  have C1 := hide (fun X (hR : RowM X v b.ms) => refCopy_any b v X hR hn)
  have C2 := hide (fun x X (hX : LTab X) (hR : RowM X x b.ms) (hU : Row32 X vc c.us) => bdo_any b c x vc X hX hR hU hf hfc)
  have C3 := hide (fun X (hR : RowM X v b.ms) (hU : Row32 X vc c.us) => refBDo_any b c v vc X hR hU hf hfc)
  have C4 := hide (fun X => bmake_any u X)
  have C5 := hide (fun X => refBMake_any u X)
  have HL := hide (fun X (hX : LTab X) => livesB_any X hX)
  have C6 := hide (fun x X (hX : LTab X) (hR : RowM X x b.ms) => bcheck_any b x X hX hR hf)
  have C7 := hide (fun X (hR : RowM X v b.ms) => refBCheck_any b v X hR hf)
  have C8 := hide (fun X (hX : LTab X) (hU : Row32 X vc c.us) => bright_any c vc X hX hU hfc)
  have C9 := hide (fun X (hU : Row32 X vc c.us) => refBRight_any c vc X hU hfc)
  have HFM := hide h.choose_spec.choose_spec.2.2.1
  have hmk : (makeB u).ms = [] := by unfold makeB; split <;> rfl
  have HMN := hide (fun X => show RowM X (.slice none 0 0) (makeB u).ms from by rw [hmk]; exact (OutM.nil X).row)
  have HSM := hide (fun x X (hR : RowM X x b.ms) (hR' : RowM X v b.ms) => sameB_one b x v X hR hR')
  have HSD := hide (fun x y X (hR : RowM X x (doB b c).ms) (hR' : RowM X y (doB b c).ms) => sameB_one (doB b c) x y X hR hR')
  have HSK := hide (fun X => sameB_one (makeB u) (.slice none 0 0) (.slice none 0 0) X (unhide HMN X) (unhide HMN X))
  have HSU := hide (fun x y X (hU : Row32 X x (doT b c)) (hU' : Row32 X y (doT b c)) => same32_any x y (doT b c) (doT b c) X hU hU')
  simp only [decide_true] at HSU
  obtain ⟨a, cap, rfl, _, _, _⟩ := id h
  obtain ⟨au, cu, rfl, _, _, _⟩ := id hc
  have hA := ((Below.refl _ w).alloc (Nat.le_refl _) (Obj.cells (bxC b (.slice a b.ms.length cap)) 26)).alloc (by simp) (Obj.cells (chC c (.slice au c.us.length cu)) 33)
  have K0 := hide ((Blk.new w 26 (bxC b (.slice a b.ms.length cap))).below ((Below.refl _ _).alloc (Nat.le_refl _) (Obj.cells (chC c (.slice au c.us.length cu)) 33)))
  have K1 := hide (Blk.new (w.alloc (Obj.cells (bxC b (.slice a b.ms.length cap)) 26)) 33 (chC c (.slice au c.us.length cu)))
  have T := hide (ht.below hA)
  have R := hide (h.below hA)
  have U := hide (hc.below hA)
  have H := hide hA
  clear h hc ht hA hf hfc hmk
  generalize hDB : doB b c = DB at C2 C3 HSD
  generalize doT b c = DT at C2 C3 HSU
  generalize doE b c = DE at C2 C3
  generalize makeB u = MB at C4 C5 HSK HMN
  generalize (if u = 0 then 1 else 0 : Int) = ME at C4 C5
  generalize chkB b = CB at C6 C7
  generalize rightC c = CR at C8 C9
  clear hDB
  have qE : ((DE : Int) == (DE : Int)) = true := by simp
  have qM : (ME == ME) = true := by simp
  have qB : ((CB : Int) == (CB : Int)) = true := by simp
  have qR : ((CR : Int) == (CR : Int)) = true := by simp
  simp only [bxV, bxC, chV, chC, World.size_alloc] at *
  generalize hbl : b.ms.length = n at *
  generalize hcl : c.us.length = un at *
  go_enter Tryd.func3, Tryd.ntmps3
  go_upto_region 1 with (fail)
  generalize (w.alloc (.cells #[.int .u32 (b.va : Int), .int .u64 (b.nx : Int), .int .u32 (b.mr : Int), .int .u32 (b.la : Int), .slice a n cap] 26)).alloc (.cells #[.int .u8 (c.kd : Int), .slice au un cu, .int .u8 (c.fl : Int), .int .i64 c.dy, .int .i64 c.sc, .int .i64 c.zn, .string c.raw] 33) = x0 at K0 K1 T R U H ⊢
  have a0 := (unhide K0).cell 0
  have a1 := (unhide K0).cell 1
  have a2 := (unhide K0).cell 2
  have a3 := (unhide K0).cell 3
  have a4 := (unhide K0).cell 4
  simp only [List.getElem?_toArray, List.getElem?_cons_succ, List.getElem?_cons_zero] at a0 a1 a2 a3 a4
  go_wp2_with fail
  refine (unhide C1 _ (unhide R)).mono ?_
  rintro e w1 ⟨⟨v1, rfl, o1⟩, b1⟩
  replace K0 := hide ((unhide K0).below b1)
  replace K1 := hide ((unhide K1).below b1)
  replace T := hide ((unhide T).below b1)
  replace R := hide ((unhide R).below b1)
  replace U := hide ((unhide U).below b1)
  replace H := hide (belows' (unhide H) b1)
  have o1' := o1
  rw [← hbl] at o1'
  have RX := hide (rowG_of_own (Fit := FitM) msC_len o1' (by omega) (unhide HFM))
  obtain ⟨av1, cv1, rfl, _⟩ := own_sliceG o1
  clear o1'
  clear b1 o1 a0 a1 a2 a3 a4
  go_upto_region 2 with (fail)
  have ha := (Below.refl _ w1).alloc (Nat.le_refl _) (Obj.cells #[.int .u32 (b.va : Int), .int .u64 (b.nx : Int), .int .u32 (b.mr : Int), .int .u32 (b.la : Int), .slice av1 n cv1] 26)
  have K7 := hide (Blk.new w1 26 #[.int .u32 (b.va : Int), .int .u64 (b.nx : Int), .int .u32 (b.mr : Int), .int .u32 (b.la : Int), .slice av1 n cv1])
  replace K0 := hide ((unhide K0).below ha)
  replace K1 := hide ((unhide K1).below ha)
  replace T := hide ((unhide T).below ha)
  replace R := hide ((unhide R).below ha)
  replace U := hide ((unhide U).below ha)
  replace RX := hide ((unhide RX).below ha)
  replace H := hide (belows' (unhide H) ha)
  clear ha
  generalize w1.alloc (.cells #[.int .u32 (b.va : Int), .int .u64 (b.nx : Int), .int .u32 (b.mr : Int), .int .u32 (b.la : Int), .slice av1 n cv1] 26) = x1 at K7 K0 K1 T R U RX H ⊢
  have a0 := (unhide K7).cell 0
  have a1 := (unhide K7).cell 1
  have a2 := (unhide K7).cell 2
  have a3 := (unhide K7).cell 3
  have a4 := (unhide K7).cell 4
  have d0 := (unhide K1).cell 0
  have d1 := (unhide K1).cell 1
  have d2 := (unhide K1).cell 2
  have d3 := (unhide K1).cell 3
  have d4 := (unhide K1).cell 4
  have d5 := (unhide K1).cell 5
  have d6 := (unhide K1).cell 6
  simp only [List.getElem?_toArray, List.getElem?_cons_succ, List.getElem?_cons_zero] at a0 a1 a2 a3 a4 d0 d1 d2 d3 d4 d5 d6
  go_wp2_with fail
  refine (unhide C2 _ _ (unhide T) (unhide RX) (unhide U)).mono ?_
  rintro e w2 ⟨⟨v2, u2, rfl, o2, p2⟩, b2⟩
  replace K0 := hide ((unhide K0).below b2)
  replace K1 := hide ((unhide K1).below b2)
  replace T := hide ((unhide T).below b2)
  replace R := hide ((unhide R).below b2)
  replace U := hide ((unhide U).below b2)
  replace RX := hide ((unhide RX).below b2)
  replace K7 := hide ((unhide K7).below b2)
  replace H := hide (belows' (unhide H) b2)
  have R2 := hide o2.row
  have U2 := hide p2.row
  obtain ⟨av2, cv2, rfl, _⟩ := own_sliceG o2.1
  obtain ⟨n2, hn2⟩ : ∃ n2, DB.ms.length = n2 := ⟨_, rfl⟩
  rw [hn2] at R2 ⊢
  clear b2 o2 p2 a0 a1 a2 a3 a4 d0 d1 d2 d3 d4 d5 d6
  go_upto_region 3 with (fail)
  have ha := (Below.refl _ w2).alloc (Nat.le_refl _) (Obj.cells #[.int .u32 (DB.va : Int), .int .u64 (DB.nx : Int), .int .u32 (DB.mr : Int), .int .u32 (DB.la : Int), .slice av2 n2 cv2] 26)
  have K8 := hide (Blk.new w2 26 #[.int .u32 (DB.va : Int), .int .u64 (DB.nx : Int), .int .u32 (DB.mr : Int), .int .u32 (DB.la : Int), .slice av2 n2 cv2])
  replace K0 := hide ((unhide K0).below ha)
  replace K1 := hide ((unhide K1).below ha)
  replace T := hide ((unhide T).below ha)
  replace R := hide ((unhide R).below ha)
  replace U := hide ((unhide U).below ha)
  replace RX := hide ((unhide RX).below ha)
  replace K7 := hide ((unhide K7).below ha)
  replace R2 := hide ((unhide R2).below ha)
  replace U2 := hide ((unhide U2).below ha)
  replace H := hide (belows' (unhide H) ha)
  clear ha
  generalize w2.alloc (.cells #[.int .u32 (DB.va : Int), .int .u64 (DB.nx : Int), .int .u32 (DB.mr : Int), .int .u32 (DB.la : Int), .slice av2 n2 cv2] 26) = x2 at K8 K0 K1 T R U RX K7 R2 U2 H ⊢
  have a0 := (unhide K0).cell 0
  have a1 := (unhide K0).cell 1
  have a2 := (unhide K0).cell 2
  have a3 := (unhide K0).cell 3
  have a4 := (unhide K0).cell 4
  have d0 := (unhide K1).cell 0
  have d1 := (unhide K1).cell 1
  have d2 := (unhide K1).cell 2
  have d3 := (unhide K1).cell 3
  have d4 := (unhide K1).cell 4
  have d5 := (unhide K1).cell 5
  have d6 := (unhide K1).cell 6
  simp only [List.getElem?_toArray, List.getElem?_cons_succ, List.getElem?_cons_zero] at a0 a1 a2 a3 a4 d0 d1 d2 d3 d4 d5 d6
  go_wp2_with fail
  refine (unhide C3 _ (unhide R) (unhide U)).mono ?_
  rintro e w3 ⟨⟨v3, u3, rfl, o3, p3⟩, b3⟩
  replace K0 := hide ((unhide K0).below b3)
  replace K1 := hide ((unhide K1).below b3)
  replace T := hide ((unhide T).below b3)
  replace R := hide ((unhide R).below b3)
  replace U := hide ((unhide U).below b3)
  replace RX := hide ((unhide RX).below b3)
  replace K7 := hide ((unhide K7).below b3)
  replace R2 := hide ((unhide R2).below b3)
  replace U2 := hide ((unhide U2).below b3)
  replace K8 := hide ((unhide K8).below b3)
  replace H := hide (belows' (unhide H) b3)
  have R3 := hide o3.row
  have U3 := hide p3.row
  obtain ⟨av3, cv3, rfl, _⟩ := own_sliceG o3.1
  rw [hn2] at R3 ⊢
  clear b3 o3 p3 a0 a1 a2 a3 a4 d0 d1 d2 d3 d4 d5 d6
  go_upto_region 4 with (fail)
  have ha := (Below.refl _ w3).alloc (Nat.le_refl _) (Obj.cells #[.int .u32 (DB.va : Int), .int .u64 (DB.nx : Int), .int .u32 (DB.mr : Int), .int .u32 (DB.la : Int), .slice av3 n2 cv3] 26)
  have K11 := hide (Blk.new w3 26 #[.int .u32 (DB.va : Int), .int .u64 (DB.nx : Int), .int .u32 (DB.mr : Int), .int .u32 (DB.la : Int), .slice av3 n2 cv3])
  replace K0 := hide ((unhide K0).below ha)
  replace K1 := hide ((unhide K1).below ha)
  replace T := hide ((unhide T).below ha)
  replace R := hide ((unhide R).below ha)
  replace U := hide ((unhide U).below ha)
  replace RX := hide ((unhide RX).below ha)
  replace K7 := hide ((unhide K7).below ha)
  replace R2 := hide ((unhide R2).below ha)
  replace U2 := hide ((unhide U2).below ha)
  replace K8 := hide ((unhide K8).below ha)
  replace R3 := hide ((unhide R3).below ha)
  replace U3 := hide ((unhide U3).below ha)
  replace H := hide (belows' (unhide H) ha)
  clear ha
  generalize w3.alloc (.cells #[.int .u32 (DB.va : Int), .int .u64 (DB.nx : Int), .int .u32 (DB.mr : Int), .int .u32 (DB.la : Int), .slice av3 n2 cv3] 26) = x3 at K11 K0 K1 T R U RX K7 R2 U2 K8 R3 U3 H ⊢
  go_wp2_with fail
  refine (unhide C4 _).mono ?_
  rintro e w4 ⟨rfl, b4⟩
  replace K0 := hide ((unhide K0).below b4)
  replace K1 := hide ((unhide K1).below b4)
  replace T := hide ((unhide T).below b4)
  replace R := hide ((unhide R).below b4)
  replace U := hide ((unhide U).below b4)
  replace RX := hide ((unhide RX).below b4)
  replace K7 := hide ((unhide K7).below b4)
  replace R2 := hide ((unhide R2).below b4)
  replace U2 := hide ((unhide U2).below b4)
  replace K8 := hide ((unhide K8).below b4)
  replace R3 := hide ((unhide R3).below b4)
  replace U3 := hide ((unhide U3).below b4)
  replace K11 := hide ((unhide K11).below b4)
  replace H := hide (belows' (unhide H) b4)
  clear b4
  go_upto_region 5 with (fail)
  have ha := (Below.refl _ w4).alloc (Nat.le_refl _) (Obj.cells #[.int .u32 (MB.va : Int), .int .u64 (MB.nx : Int), .int .u32 (MB.mr : Int), .int .u32 (MB.la : Int), .slice none 0 0] 26)
  have K14 := hide (Blk.new w4 26 #[.int .u32 (MB.va : Int), .int .u64 (MB.nx : Int), .int .u32 (MB.mr : Int), .int .u32 (MB.la : Int), .slice none 0 0])
  replace K0 := hide ((unhide K0).below ha)
  replace K1 := hide ((unhide K1).below ha)
  replace T := hide ((unhide T).below ha)
  replace R := hide ((unhide R).below ha)
  replace U := hide ((unhide U).below ha)
  replace RX := hide ((unhide RX).below ha)
  replace K7 := hide ((unhide K7).below ha)
  replace R2 := hide ((unhide R2).below ha)
  replace U2 := hide ((unhide U2).below ha)
  replace K8 := hide ((unhide K8).below ha)
  replace R3 := hide ((unhide R3).below ha)
  replace U3 := hide ((unhide U3).below ha)
  replace K11 := hide ((unhide K11).below ha)
  replace H := hide (belows' (unhide H) ha)
  clear ha
  generalize w4.alloc (.cells #[.int .u32 (MB.va : Int), .int .u64 (MB.nx : Int), .int .u32 (MB.mr : Int), .int .u32 (MB.la : Int), .slice none 0 0] 26) = x4 at K14 K0 K1 T R U RX K7 R2 U2 K8 R3 U3 K11 H ⊢
  go_wp2_with fail
  refine (unhide C5 _).mono ?_
  rintro e w5 ⟨rfl, b5⟩
  replace K0 := hide ((unhide K0).below b5)
  replace K1 := hide ((unhide K1).below b5)
  replace T := hide ((unhide T).below b5)
  replace R := hide ((unhide R).below b5)
  replace U := hide ((unhide U).below b5)
  replace RX := hide ((unhide RX).below b5)
  replace K7 := hide ((unhide K7).below b5)
  replace R2 := hide ((unhide R2).below b5)
  replace U2 := hide ((unhide U2).below b5)
  replace K8 := hide ((unhide K8).below b5)
  replace R3 := hide ((unhide R3).below b5)
  replace U3 := hide ((unhide U3).below b5)
  replace K11 := hide ((unhide K11).below b5)
  replace K14 := hide ((unhide K14).below b5)
  replace H := hide (belows' (unhide H) b5)
  clear b5
  go_upto_region 6 with (fail)
  have ha := (Below.refl _ w5).alloc (Nat.le_refl _) (Obj.cells #[.int .u32 (MB.va : Int), .int .u64 (MB.nx : Int), .int .u32 (MB.mr : Int), .int .u32 (MB.la : Int), .slice none 0 0] 26)
  have K16 := hide (Blk.new w5 26 #[.int .u32 (MB.va : Int), .int .u64 (MB.nx : Int), .int .u32 (MB.mr : Int), .int .u32 (MB.la : Int), .slice none 0 0])
  replace K0 := hide ((unhide K0).below ha)
  replace K1 := hide ((unhide K1).below ha)
  replace T := hide ((unhide T).below ha)
  replace R := hide ((unhide R).below ha)
  replace U := hide ((unhide U).below ha)
  replace RX := hide ((unhide RX).below ha)
  replace K7 := hide ((unhide K7).below ha)
  replace R2 := hide ((unhide R2).below ha)
  replace U2 := hide ((unhide U2).below ha)
  replace K8 := hide ((unhide K8).below ha)
  replace R3 := hide ((unhide R3).below ha)
  replace U3 := hide ((unhide U3).below ha)
  replace K11 := hide ((unhide K11).below ha)
  replace K14 := hide ((unhide K14).below ha)
  replace H := hide (belows' (unhide H) ha)
  clear ha
  generalize w5.alloc (.cells #[.int .u32 (MB.va : Int), .int .u64 (MB.nx : Int), .int .u32 (MB.mr : Int), .int .u32 (MB.la : Int), .slice none 0 0] 26) = x5 at K16 K0 K1 T R U RX K7 R2 U2 K8 R3 U3 K11 K14 H ⊢
  have HX : Hid (∀ W, Below x5.heap.size x5 W → (W.cell? ⟨w.heap.size, 0, none⟩ = some (.int .u32 (b.va : Int)) ∧ W.cell? ⟨w.heap.size, 1, none⟩ = some (.int .u64 (b.nx : Int)) ∧ W.cell? ⟨w.heap.size, 2, none⟩ = some (.int .u32 (b.mr : Int)) ∧ W.cell? ⟨w.heap.size, 3, none⟩ = some (.int .u32 (b.la : Int)) ∧ W.cell? ⟨w.heap.size, 4, none⟩ = some (.slice a n cap) ∧ W.cell? ⟨w.heap.size + 1, 0, none⟩ = some (.int .u8 (c.kd : Int)) ∧ W.cell? ⟨w.heap.size + 1, 1, none⟩ = some (.slice au un cu) ∧ W.cell? ⟨w.heap.size + 1, 2, none⟩ = some (.int .u8 (c.fl : Int)) ∧ W.cell? ⟨w.heap.size + 1, 3, none⟩ = some (.int .i64 c.dy) ∧ W.cell? ⟨w.heap.size + 1, 4, none⟩ = some (.int .i64 c.sc) ∧ W.cell? ⟨w.heap.size + 1, 5, none⟩ = some (.int .i64 c.zn) ∧ W.cell? ⟨w.heap.size + 1, 6, none⟩ = some (.string c.raw) ∧ W.cell? ⟨w1.heap.size, 0, none⟩ = some (.int .u32 (b.va : Int)) ∧ W.cell? ⟨w1.heap.size, 1, none⟩ = some (.int .u64 (b.nx : Int)) ∧ W.cell? ⟨w1.heap.size, 2, none⟩ = some (.int .u32 (b.mr : Int)) ∧ W.cell? ⟨w1.heap.size, 3, none⟩ = some (.int .u32 (b.la : Int)) ∧ W.cell? ⟨w1.heap.size, 4, none⟩ = some (.slice av1 n cv1) ∧ W.cell? ⟨w2.heap.size, 0, none⟩ = some (.int .u32 (DB.va : Int)) ∧ W.cell? ⟨w2.heap.size, 1, none⟩ = some (.int .u64 (DB.nx : Int)) ∧ W.cell? ⟨w2.heap.size, 2, none⟩ = some (.int .u32 (DB.mr : Int)) ∧ W.cell? ⟨w2.heap.size, 3, none⟩ = some (.int .u32 (DB.la : Int)) ∧ W.cell? ⟨w2.heap.size, 4, none⟩ = some (.slice av2 n2 cv2) ∧ W.cell? ⟨w3.heap.size, 0, none⟩ = some (.int .u32 (DB.va : Int)) ∧ W.cell? ⟨w3.heap.size, 1, none⟩ = some (.int .u64 (DB.nx : Int)) ∧ W.cell? ⟨w3.heap.size, 2, none⟩ = some (.int .u32 (DB.mr : Int)) ∧ W.cell? ⟨w3.heap.size, 3, none⟩ = some (.int .u32 (DB.la : Int)) ∧ W.cell? ⟨w3.heap.size, 4, none⟩ = some (.slice av3 n2 cv3) ∧ W.cell? ⟨w4.heap.size, 0, none⟩ = some (.int .u32 (MB.va : Int)) ∧ W.cell? ⟨w4.heap.size, 1, none⟩ = some (.int .u64 (MB.nx : Int)) ∧ W.cell? ⟨w4.heap.size, 2, none⟩ = some (.int .u32 (MB.mr : Int)) ∧ W.cell? ⟨w4.heap.size, 3, none⟩ = some (.int .u32 (MB.la : Int)) ∧ W.cell? ⟨w4.heap.size, 4, none⟩ = some (.slice none 0 0) ∧ W.cell? ⟨w5.heap.size, 0, none⟩ = some (.int .u32 (MB.va : Int)) ∧ W.cell? ⟨w5.heap.size, 1, none⟩ = some (.int .u64 (MB.nx : Int)) ∧ W.cell? ⟨w5.heap.size, 2, none⟩ = some (.int .u32 (MB.mr : Int)) ∧ W.cell? ⟨w5.heap.size, 3, none⟩ = some (.int .u32 (MB.la : Int)) ∧ W.cell? ⟨w5.heap.size, 4, none⟩ = some (.slice none 0 0))) := hide (fun W hW => ⟨((unhide K0).below hW).cell 0, ((unhide K0).below hW).cell 1, ((unhide K0).below hW).cell 2, ((unhide K0).below hW).cell 3, ((unhide K0).below hW).cell 4, ((unhide K1).below hW).cell 0, ((unhide K1).below hW).cell 1, ((unhide K1).below hW).cell 2, ((unhide K1).below hW).cell 3, ((unhide K1).below hW).cell 4, ((unhide K1).below hW).cell 5, ((unhide K1).below hW).cell 6, ((unhide K7).below hW).cell 0, ((unhide K7).below hW).cell 1, ((unhide K7).below hW).cell 2, ((unhide K7).below hW).cell 3, ((unhide K7).below hW).cell 4, ((unhide K8).below hW).cell 0, ((unhide K8).below hW).cell 1, ((unhide K8).below hW).cell 2, ((unhide K8).below hW).cell 3, ((unhide K8).below hW).cell 4, ((unhide K11).below hW).cell 0, ((unhide K11).below hW).cell 1, ((unhide K11).below hW).cell 2, ((unhide K11).below hW).cell 3, ((unhide K11).below hW).cell 4, ((unhide K14).below hW).cell 0, ((unhide K14).below hW).cell 1, ((unhide K14).below hW).cell 2, ((unhide K14).below hW).cell 3, ((unhide K14).below hW).cell 4, ((unhide K16).below hW).cell 0, ((unhide K16).below hW).cell 1, ((unhide K16).below hW).cell 2, ((unhide K16).below hW).cell 3, ((unhide K16).below hW).cell 4⟩)
  have HD : Hid (Below x5.heap.size x5 x5.drew) := hide ⟨rfl, rfl, rfl, Nat.le_refl _, fun _ _ => rfl⟩
  have qx := unhide HX _ (Below.refl _ _)
  clear K0 K1 K7 K8 K11 K14 K16 C1 C2 C3 C4 C5 HFM HMN
  go_region_held3 (fun w' => w'.cell? ⟨w.heap.size, 0, none⟩ = some (.int .u32 (b.va : Int)) ∧ w'.cell? ⟨w.heap.size, 1, none⟩ = some (.int .u64 (b.nx : Int)) ∧ w'.cell? ⟨w.heap.size, 2, none⟩ = some (.int .u32 (b.mr : Int)) ∧ w'.cell? ⟨w.heap.size, 3, none⟩ = some (.int .u32 (b.la : Int)) ∧ w'.cell? ⟨w.heap.size, 4, none⟩ = some (.slice a n cap) ∧ w'.cell? ⟨w.heap.size + 1, 0, none⟩ = some (.int .u8 (c.kd : Int)) ∧ w'.cell? ⟨w.heap.size + 1, 1, none⟩ = some (.slice au un cu) ∧ w'.cell? ⟨w.heap.size + 1, 2, none⟩ = some (.int .u8 (c.fl : Int)) ∧ w'.cell? ⟨w.heap.size + 1, 3, none⟩ = some (.int .i64 c.dy) ∧ w'.cell? ⟨w.heap.size + 1, 4, none⟩ = some (.int .i64 c.sc) ∧ w'.cell? ⟨w.heap.size + 1, 5, none⟩ = some (.int .i64 c.zn) ∧ w'.cell? ⟨w.heap.size + 1, 6, none⟩ = some (.string c.raw) ∧ w'.cell? ⟨w1.heap.size, 0, none⟩ = some (.int .u32 (b.va : Int)) ∧ w'.cell? ⟨w1.heap.size, 1, none⟩ = some (.int .u64 (b.nx : Int)) ∧ w'.cell? ⟨w1.heap.size, 2, none⟩ = some (.int .u32 (b.mr : Int)) ∧ w'.cell? ⟨w1.heap.size, 3, none⟩ = some (.int .u32 (b.la : Int)) ∧ w'.cell? ⟨w1.heap.size, 4, none⟩ = some (.slice av1 n cv1) ∧ w'.cell? ⟨w2.heap.size, 0, none⟩ = some (.int .u32 (DB.va : Int)) ∧ w'.cell? ⟨w2.heap.size, 1, none⟩ = some (.int .u64 (DB.nx : Int)) ∧ w'.cell? ⟨w2.heap.size, 2, none⟩ = some (.int .u32 (DB.mr : Int)) ∧ w'.cell? ⟨w2.heap.size, 3, none⟩ = some (.int .u32 (DB.la : Int)) ∧ w'.cell? ⟨w2.heap.size, 4, none⟩ = some (.slice av2 n2 cv2) ∧ w'.cell? ⟨w3.heap.size, 0, none⟩ = some (.int .u32 (DB.va : Int)) ∧ w'.cell? ⟨w3.heap.size, 1, none⟩ = some (.int .u64 (DB.nx : Int)) ∧ w'.cell? ⟨w3.heap.size, 2, none⟩ = some (.int .u32 (DB.mr : Int)) ∧ w'.cell? ⟨w3.heap.size, 3, none⟩ = some (.int .u32 (DB.la : Int)) ∧ w'.cell? ⟨w3.heap.size, 4, none⟩ = some (.slice av3 n2 cv3) ∧ w'.cell? ⟨w4.heap.size, 0, none⟩ = some (.int .u32 (MB.va : Int)) ∧ w'.cell? ⟨w4.heap.size, 1, none⟩ = some (.int .u64 (MB.nx : Int)) ∧ w'.cell? ⟨w4.heap.size, 2, none⟩ = some (.int .u32 (MB.mr : Int)) ∧ w'.cell? ⟨w4.heap.size, 3, none⟩ = some (.int .u32 (MB.la : Int)) ∧ w'.cell? ⟨w4.heap.size, 4, none⟩ = some (.slice none 0 0) ∧ w'.cell? ⟨w5.heap.size, 0, none⟩ = some (.int .u32 (MB.va : Int)) ∧ w'.cell? ⟨w5.heap.size, 1, none⟩ = some (.int .u64 (MB.nx : Int)) ∧ w'.cell? ⟨w5.heap.size, 2, none⟩ = some (.int .u32 (MB.mr : Int)) ∧ w'.cell? ⟨w5.heap.size, 3, none⟩ = some (.int .u32 (MB.la : Int)) ∧ w'.cell? ⟨w5.heap.size, 4, none⟩ = some (.slice none 0 0)) (first | exact unhide HX _ g8 | exact unhide HX _ g7 | exact unhide HX _ g6 | exact unhide HX _ g5 | exact unhide HX _ g4 | exact unhide HX _ g3 | exact unhide HX _ g2 | exact unhide HX _ g1 | exact unhide HX _ g0 | exact unhide HX _ (unhide HD)) (first
    | (go_at_call 10; refine (unhide HL _ (by exact (unhide T).below (unhide HD))).mono ?_; rintro e y0 ⟨rfl, s0⟩; have g0 := belows' (unhide HD) s0)
    | (go_at_call_of 11 (Value.agg #[.int .u32 (DB.va : Int), .int .u64 (DB.nx : Int), .int .u32 (DB.mr : Int), .int .u32 (DB.la : Int), .slice av2 n2 cv2]); refine (unhide HSD _ _ _ (by exact (unhide R2).below g0) (by exact (unhide R3).below g0)).mono ?_; rintro e y1 ⟨rfl, s1⟩; have g1 := belows' g0 s1)
    | (go_at_call 12; refine (unhide HSU _ _ _ (by exact (unhide U2).below g1) (by exact (unhide U3).below g1)).mono ?_; rintro e y2 ⟨rfl, s2⟩; have g2 := belows' g1 s2)
    | (go_at_call_of 11 (Value.agg #[.int .u32 (MB.va : Int), .int .u64 (MB.nx : Int), .int .u32 (MB.mr : Int), .int .u32 (MB.la : Int), .slice none 0 0]); refine (unhide HSK _).mono ?_; rintro e y3 ⟨rfl, s3⟩; have g3 := belows' g2 s3)
    | (go_at_call 13; refine (unhide C6 _ _ (by exact (unhide T).below g3) (by exact (unhide RX).below g3)).mono ?_; rintro e y4 ⟨rfl, s4⟩; have g4 := belows' g3 s4)
    | (go_at_call 14; refine (unhide C7 _ (by exact (unhide R).below g4)).mono ?_; rintro e y5 ⟨rfl, s5⟩; have g5 := belows' g4 s5)
    | (go_at_call 15; refine (unhide C8 _ (by exact (unhide T).below g5) (by exact (unhide U).below g5)).mono ?_; rintro e y6 ⟨rfl, s6⟩; have g6 := belows' g5 s6)
    | (go_at_call 16; refine (unhide C9 _ (by exact (unhide U).below g6)).mono ?_; rintro e y7 ⟨rfl, s7⟩; have g7 := belows' g6 s7)
    | (go_at_call_of 11 (Value.agg #[.int .u32 (b.va : Int), .int .u64 (b.nx : Int), .int .u32 (b.mr : Int), .int .u32 (b.la : Int), .slice av1 n cv1]); refine (unhide HSM _ _ (by exact (unhide RX).below g7) (by exact (unhide R).below g7)).mono ?_; rintro e y8 ⟨rfl, s8⟩; have g8 := belows' g7 s8))
  all_goals
    have HZ := hide (belows' (unhide H) g8)
    go_simp
    go_wp2
    go_ret
    exact ⟨rfl, unhide HZ⟩
end Go.Proofs.YthpjogfclklefaaDoor
