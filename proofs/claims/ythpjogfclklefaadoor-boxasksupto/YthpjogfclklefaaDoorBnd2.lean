/-
  What (*box.work).mark does, over this seat's program.
-/
import Derived.Test.YthpjogfclklefaaDoorBnd1
set_option linter.unusedVariables false
set_option linter.unusedSimpArgs false
namespace Go.Proofs.YthpjogfclklefaaDoor
open Go.RowKit

theorem modify_set {l : List Msg} {i : Nat} {f : Msg → Msg} (h : i < l.length) : l.modify i f = l.set i (f l[i]) := by
  apply List.ext_getElem (by simp)
  intro k h1 h2
  rw [List.getElem_modify, List.getElem_set]
  split <;> simp_all

set_option maxHeartbeats 8000000 in
set_option maxRecDepth 100000 in
theorem mark_any (P C0 B : Nat) (b : Bx) (c : Chg) (vm vc : Value) (W : World)
    (KP : Blk W P 57 (wkC b vm (.slice none 0 0)))
    (OM : W.ownsRow C0 47 6 vm b.ms.length (flatG msC b.ms)) (hfm : ∀ m ∈ b.ms, FitM m) (hn : b.ms.length ≤ 4096) (hr : (uidsM b.ms).Pairwise (· < ·))
    (hfc : FitC c) (HU0 : ∀ X, Below B W X → Row32 X vc c.us) (hus : c.us.Pairwise (· < ·)) (hul : c.us.length ≤ 65536) (hP : B ≤ P) (hC : B ≤ C0) (hB : B ≤ W.heap.size) :
    Calls Tryd.prog 40 #[.pointer (some ⟨P, 0, none⟩), chV c vc] W fun e W' => e = .returned (.int .i64 (markE b c : Int)) ∧ ∃ vm' vt', Blk W' P 57 (wkC (markB b c) vm' vt') ∧ OutM W' vm' (markB b c).ms ∧ OutT W' vt' (markT b c) ∧ Below B W W' := by
  have HFC := hide hfc
  obtain ⟨hkd, hfl, _⟩ := hfc
  have hvc := HU0 W (Below.refl _ _)
  have HUF := hide hvc.choose_spec.choose_spec.2.2.1
  obtain ⟨au, cu, rfl, _, _, _⟩ := hvc
  obtain ⟨am, cm, rfl, hcm⟩ := own_sliceG OM
  have hPW := KP.lt
  have HMAP : Hid (∀ pl : List Nat, pl.length = c.us.length → (∀ i (h : i < pl.length), ∃ u, c.us[i]? = some u ∧ AtU b.ms pl[i] u) → mkL c b.ms pl = b.ms.map (markM c)) := hide (fun pl h1 h2 => mkL_all hr hus h1 h2)
  have HALL : Hid ((∀ pl : List Nat, pl.length = c.us.length → (∀ i (h : i < pl.length), ∃ u, c.us[i]? = some u ∧ AtU b.ms pl[i] u) → allIn b c = true) ∧ (∀ u ∈ c.us, u ∉ uidsM b.ms → allIn b c = false)) := hide (by
    constructor
    · intro pl h1 h2
      unfold allIn
      rw [List.all_eq_true]
      intro u hu
      obtain ⟨k, hk, rfl⟩ := List.getElem_of_mem hu
      obtain ⟨v, hv, m, hm, hmu⟩ := h2 k (by omega)
      rw [List.getElem?_eq_getElem hk] at hv
      injection hv with hv
      rw [decide_eq_true_eq, hv]
      exact List.mem_map.2 ⟨m, List.mem_of_getElem? hm, hmu⟩
    · intro u hu hnot
      unfold allIn
      rw [List.all_eq_false]
      exact ⟨u, hu, by simpa using hnot⟩)
  have HMB : Hid ((allIn b c = true → markE b c = 0 ∧ markT b c = c.us ∧ markB b c = ⟨b.va, b.nx, b.mr, b.la, b.ms.map (markM c)⟩) ∧ (allIn b c = false → markE b c = 3 ∧ markT b c = [] ∧ markB b c = b)) := hide (by
    unfold markE markT markB
    exact ⟨fun h => by rw [h]; exact ⟨rfl, rfl, rfl⟩, fun h => by rw [h]; exact ⟨rfl, rfl, rfl⟩⟩)
  have HLF : Hid (∀ (r : List Nat) (m : Msg), m ∈ mkL c b.ms r → FitM m) := hide (fun r m hm => mkL_fit hfl r hfm m hm)
  have HLL : Hid (∀ r : List Nat, (mkL c b.ms r).length = b.ms.length) := hide (fun r => mkL_len c r _)
  have HSN : Hid (∀ (r : List Nat) (i : Nat), mkL c b.ms (r ++ [i]) = (mkL c b.ms r).modify i (mkM c)) := hide (fun r i => mkL_snoc c r _ i)
  have HMK : Hid (∀ m : Msg, mkM c m = ⟨m.uid, markF c.kd m.fl c.fl, m.dy, m.sc, m.zn, m.raw⟩) := hide (fun m => rfl)
  have HMF := hide (fun (h : Nat) (X : World) (hh : h ≤ 255) => marked_any c.kd h c.fl X hkd hh hfl)
  have HL0 : Hid (mkL c b.ms [] = b.ms) := hide rfl
  obtain ⟨va, nx, mr, la, ms⟩ := b
  simp only at OM hfm hn hr HMAP HLF HLL HSN HL0 KP HALL
  simp only [wkC] at KP
  have HFD := hide (fun X v u (hR : RowM X v ms) (hu : u ≤ 4294967295) (hp : P < X.heap.size) (hc : X.cell? ⟨P, 4, none⟩ = some v) => wfind_any P v ms u X hR hu (by omega) hr hp hc)
  generalize hG : (⟨va, nx, mr, la, ms⟩ : Bx) = bb at HMB HALL ⊢
  have HBB := hide hG
  clear hG
  generalize hE : markE bb c = ME at HMB ⊢
  generalize hT : markT bb c = MT at HMB ⊢
  generalize hBM : markB bb c = MB at HMB ⊢
  clear hE hT hBM
  generalize allIn bb c = AI at HMB HALL
  have hA : Below W.heap.size W (W.alloc (.cells #[.int .u8 (c.kd : Int), .slice au c.us.length cu, .int .u8 (c.fl : Int), .int .i64 c.dy, .int .i64 c.sc, .int .i64 c.zn, .string c.raw] 33)) := (Below.refl _ W).alloc (Nat.le_refl _) _
  have KQ := Blk.new W 33 #[.int .u8 (c.kd : Int), .slice au c.us.length cu, .int .u8 (c.fl : Int), .int .i64 c.dy, .int .i64 c.sc, .int .i64 c.zn, .string c.raw]
  have KP1 := hide (KP.below hA)
  have OM1 := hide (own_below OM hA)
  have HUV : Hid (∀ X, Below B (W.alloc (.cells #[.int .u8 (c.kd : Int), .slice au c.us.length cu, .int .u8 (c.fl : Int), .int .i64 c.dy, .int .i64 c.sc, .int .i64 c.zn, .string c.raw] 33)) X → Row32 X (.slice au c.us.length cu) c.us) := hide (fun X hX => HU0 X ((hA.mono hB).trans hX))
  have HAA := hide (hA.mono hB)
  have hQ : P ≠ W.heap.size := by omega
  have hBQ : B ≤ W.heap.size := hB
  obtain ⟨kd, us, fl, dy, sc, zn, raw⟩ := c
  simp only [chV, chC]
  simp only at HUV HMAP HALL HMB HMK HMF hul hus HUF KQ KP1 OM1 HAA hkd hfl
  obtain ⟨un, hun⟩ : ∃ un, us.length = un := ⟨_, rfl⟩
  obtain ⟨n, hnn⟩ : ∃ n, ms.length = n := ⟨_, rfl⟩
  rw [hun] at HUV KQ KP1 OM1 HAA hul HMAP HALL ⊢
  rw [hnn] at KP1 OM1 hn HLL hcm
  have HUN := hide hun
  have HNN := hide hnn
  have HKQ := hide KQ
  have k1 := KQ.cell 1
  simp only [List.getElem?_toArray, List.getElem?_cons_succ, List.getElem?_cons_zero] at k1
  clear hun hnn KQ KP OM hA hr hus hfm HU0
  go_enter Tryd.func40, Tryd.ntmps40
  go_upto_region 2 with (fail)
  generalize hV : W.alloc (.cells #[.int .u8 (kd : Int), .slice au un cu, .int .u8 (fl : Int), .int .i64 dy, .int .i64 sc, .int .i64 zn, .string raw] 33) = V at k1 HKQ KP1 OM1 HUV HAA ⊢
  have hVs : V.heap.size = W.heap.size + 1 := by rw [← hV, World.size_alloc]
  generalize W.heap.size = Q at HKQ k1 hVs hQ hBQ hPW ⊢
  clear hV
  have HCO : Hid (∀ X, Below V.heap.size V X → OutM X (.slice am n cm) ms) := hide (fun X hX => ⟨own_zero (by have h := own_below (unhide OM1) hX; rw [← unhide HNN] at h ⊢; exact h), (fun m hm => unhide HLF [] m (by rw [unhide HL0]; exact hm)), by have := unhide HNN; omega⟩)
  have HCV : Hid (∀ X, Below V.heap.size V X → RowM X (.slice am n cm) ms) := hide (fun X hX => (unhide HCO X hX).row)
  go_wp2
  go_loopw [5, 7, 8, 9, 16] (fun y _ _ _ z wr => ∃ (k : Nat) (pl : List Nat), z = .int .i64 k ∧ k ≤ un ∧ Hid (pl.length = k) ∧ Hid (∀ i (h : i < pl.length), ∃ u, us[i]? = some u ∧ AtU ms pl[i] u) ∧ Hid (wr.ownsRow V.heap.size 3 1 y pl.length (flatG cellsI pl)) ∧ Hid (Below V.heap.size V wr)) (fun _ _ _ _ z _ => un - (intOf z).toNat)
  case atStart => exact ⟨0, [], rfl, Nat.zero_le _, hide rfl, hide (fun i h => by simp at h), hide (World.ownsRow_nil _ _ _ _), hide (Below.refl _ _)⟩
  case round =>
    obtain ⟨k, pl, rfl, hk, HPL, HAT, OY, BV⟩ := hrel
    obtain ⟨ay, cy, hy, _⟩ := own_sliceG (unhide OY)
    subst hy
    have hbs := (unhide BV).size
    by_cases hlt : k < un
    · have hlt1 : (k : Int) < (un : Int) := by omega
      have hkl : k < us.length := by rw [unhide HUN]; exact hlt
      obtain ⟨g, off, cap', hv1, hgl, hcell⟩ := RowG.at cells32_len (unhide HUV wr ((unhide BV).mono (by omega))) (j := k) hkl
      injection hv1 with e1 e2 e3
      subst e1
      have c0 := hcell 0 (by omega)
      simp only [cells32, List.getElem?_cons_zero, Nat.add_zero, Nat.mul_one] at c0
      clear e2 e3 hcell
      have hu := unhide HUF us[k] (List.getElem_mem hkl)
      have HUK := hide (List.getElem?_eq_getElem hkl)
      have HUM := hide (List.getElem_mem hkl)
      have q4 := ((unhide KP1).below (unhide BV)).cell 4
      simp only [List.getElem?_toArray, List.getElem?_cons_succ, List.getElem?_cons_zero] at q4
      have HF1 := hide (unhide HFD wr (.slice am n cm) us[k] (unhide HCV wr (unhide BV)) hu (by omega) q4)
      generalize us[k] = u at c0 hu HUK HUM HF1
      generalize hpn : pl.length = pn at OY ⊢
      have HPN := hide hpn
      clear hpn
      go_wp2_with fail
      refine (unhide HF1).mono ?_
      rintro e w2 ⟨⟨i, rfl, HI⟩, b2⟩
      have HIH := hide HI
      have BV2 := hide (belows' (unhide BV) b2)
      have OY2 := hide (own_below (unhide OY) b2)
      have hs2 := (unhide BV2).size
      clear HI b2 BV OY HF1 q4
      by_cases hin : u ∈ uidsM ms
      · rw [decide_eq_true hin]
        have HAI := hide (unhide HIH hin)
        rw [← unhide HPN] at OY2
        obtain ⟨v', Y2, hrun, o2, bb2⟩ := run_appI w2 V.heap.size (.slice ay pl.length cy) pl i 77 (unhide OY2) (by have := unhide HPL; omega) hs2
        have O3 := hide o2
        have B3 := hide ((unhide BV2).trans bb2)
        have HPL2 : Hid ((pl ++ [i]).length = k + 1) := hide (by rw [List.length_append, unhide HPL]; rfl)
        have HAT2 : Hid (∀ i' (h : i' < (pl ++ [i]).length), ∃ u, us[i']? = some u ∧ AtU ms (pl ++ [i])[i'] u) := hide (by
          intro i' h
          rcases Nat.lt_or_ge i' pl.length with h1 | h1
          · rw [List.getElem_append_left h1]; exact unhide HAT i' h1
          · have hik : i' = k := by rw [unhide HPL2] at h; have := unhide HPL; omega
            subst hik
            rw [List.getElem_append_right h1]
            simp only [List.getElem_singleton]
            exact ⟨u, unhide HUK, unhide HAI⟩)
        rw [unhide HPN] at hrun
        clear o2 bb2 hin HIH HAI OY2 BV2 HAT HPL HUK HUM
        go_wp2_with (at_builtin; refine wpList_append_runB (by rfl) _ _ 77 rfl rfl rfl rfl hrun ?_)
        exact ⟨⟨k + 1, pl ++ [i], by go_num, by omega, HPL2, HAT2, O3, B3⟩, by simp [intOf]; omega⟩
      · rw [decide_eq_false hin]
        have haf := (unhide HALL).2 u (unhide HUM) hin
        obtain ⟨r1, r2, r3⟩ := (unhide HMB).2 haf
        subst r1 r2 r3
        have R1 := hide (unhide HCO w2 (unhide BV2))
        have R0 := hide ((unhide KP1).below (unhide BV2))
        have R3 := hide ((unhide HAA).trans ((unhide BV2).mono (by omega)))
        clear hin HIH OY2 BV2 haf HAT HPL HUK HUM
        go_wp2
        go_ret
        rw [← unhide HBB]
        exact ⟨rfl, _, _, unhide R0, unhide R1, OutT.nil _, unhide R3⟩
    · have hlt1 : ¬ (k : Int) < (un : Int) := by omega
      have hke : k = un := by omega
      have hpu : pl.length = un := by rw [unhide HPL]; exact hke
      have hat := (unhide HALL).1 pl (by rw [hpu]) (unhide HAT)
      obtain ⟨r1, r2, r3⟩ := (unhide HMB).1 hat
      replace r2 := r2.symm
      subst r1 r2 r3
      have HMP := hide (unhide HMAP pl (by rw [hpu]) (unhide HAT))
      have HPLT : Hid (∀ i (h : i < pl.length), pl[i] < n) := hide (fun i h => by
        obtain ⟨u, _, m, hm, _⟩ := unhide HAT i h
        have := (List.getElem?_eq_some_iff.1 hm).1
        rw [unhide HNN] at this
        exact this)
      have KPA := hide ((unhide KP1).below (unhide BV))
      have KQA := hide ((unhide HKQ).below (unhide BV))
      have OMA := hide (own_below (unhide OM1) (unhide BV))
      have BWA := hide ((unhide HAA).trans ((unhide BV).mono (by omega)))
      have HUA : Hid (∀ X, Below B wr X → Row32 X (.slice au un cu) us) := hide (fun X hX => unhide HUV X (((unhide BV).mono (by omega)).trans hX))
      rw [hpu] at OY ⊢
      have HPU := hide hpu
      clear hpu hke hat HAT HMAP HALL HMB KP1 HKQ OM1 BV HUV HAA HCV HCO HFD HPL k1
      clear hk hlt hbs
      generalize V.heap.size = VS at OY hVs
      go_wp2
      clear hlt1
      generalize wr = V2 at KPA KQA OMA BWA HUA OY ⊢
      go_loopw [11, 12, 35] (fun _ _ z wx => ∃ k : Nat, z = .int .i64 k ∧ k ≤ un ∧ Hid (Blk wx P 57 #[.int .u32 (va : Int), .int .u64 (nx : Int), .int .u32 (mr : Int), .int .u32 (la : Int), .slice am n cm, .slice none 0 0]) ∧ Hid (Blk wx Q 33 #[.int .u8 (kd : Int), .slice au un cu, .int .u8 (fl : Int), .int .i64 dy, .int .i64 sc, .int .i64 zn, .string raw]) ∧ Hid (wx.ownsRow C0 47 6 (.slice am n cm) n (flatG msC (mkL ⟨kd, us, fl, dy, sc, zn, raw⟩ ms (pl.take k)))) ∧ Hid (wx.ownsRow VS 3 1 (.slice ay un cy) un (flatG cellsI pl)) ∧ Hid (Below B V2 wx)) (fun _ _ z _ => un - (intOf z).toNat)
      case atStart => exact ⟨0, rfl, Nat.zero_le _, KPA, KQA, hide (by rw [List.take_zero, unhide HL0]; exact unhide OMA), OY, hide (Below.refl _ _)⟩
      case round =>
        obtain ⟨k, rfl, hk, KPX, KQX, OMX, OYX, BX⟩ := hrel
        clear KPA KQA OMA OY
        by_cases hlt : k < un
        · have hlt1 : (k : Int) < (un : Int) := by omega
          have hkp : k < pl.length := by rw [unhide HPU]; exact hlt
          have oy := unhide OYX
          rw [← unhide HPU] at oy
          obtain ⟨gp, cpp, hvp, _, hgp, hcp, _⟩ := ownG_at cellsI_len oy hkp
          rw [unhide HPU] at hvp
          injection hvp with e1 e2 e3
          subst e1
          have c0 := hcp 0 (by omega)
          simp only [cellsI, List.getElem?_cons_zero, Nat.add_zero, Nat.mul_one] at c0
          have hpn := unhide HPLT k hkp
          have HTK : Hid (pl.take (k + 1) = pl.take k ++ [pl[k]]) := hide (by rw [List.take_succ_eq_append_getElem hkp])
          clear hcp oy e2 e3
          generalize pl[k] = p at c0 hpn HTK
          have HSK := hide (unhide HSN (pl.take k) p)
          rw [← unhide HTK] at HSK
          have hll := unhide HLL (pl.take k)
          have hfl2 := unhide HLF (pl.take k)
          have HFK := hide hfl2
          generalize hLK : mkL (⟨kd, us, fl, dy, sc, zn, raw⟩ : Chg) ms (pl.take k) = LK at OMX HSK hll HFK
          clear hLK hfl2
          have hpl : p < LK.length := by omega
          have om := unhide OMX
          rw [← hll] at om
          obtain ⟨g, cpm, hvm, hBg, hgm, hcm2, hfz⟩ := ownG_at msC_len om hpl
          rw [hll] at hvm
          injection hvm with e1 e2 e3
          subst e1
          have d1 := hcm2 1 (by omega)
          have f1 := hfz (p * 6 + 1)
          have hmf := (unhide HFK _ (List.getElem_mem hpl)).2.1
          have HGET := hide (show ∀ u, (flatG msC LK).set (p * 6 + 1) (.int .u8 (u : Nat)) = flatG msC (LK.set p ⟨LK[p].uid, u, LK[p].dy, LK[p].sc, LK[p].zn, LK[p].raw⟩) from fun u => flatG_set msC_len LK p hpl _ 1 (by omega) _ rfl)
          have HMD : Hid (LK.modify p (mkM ⟨kd, us, fl, dy, sc, zn, raw⟩) = LK.set p ⟨LK[p].uid, markF kd LK[p].fl fl, LK[p].dy, LK[p].sc, LK[p].zn, LK[p].raw⟩) := hide (by
            rw [modify_set hpl]
            rfl)
          have d1b : wr.cell? ⟨g, p * 6 + 1, none⟩ = some (.int .u8 (LK[p].fl : Int)) := d1
          have HMC := hide (fun X => unhide HMF LK[p].fl X hmf)
          have HGE2 := hide (unhide HGET (markF kd LK[p].fl fl))
          rw [← unhide HMD, ← unhide HSK] at HGE2
          have hmle := markF_le (k := kd) hmf hfl
          generalize LK[p].fl = h0 at d1b HMC HGE2 hmle
          generalize markF kd h0 fl = h1 at HMC HGE2 hmle
          have hgP : g ≠ P := fun e => own_neT om (unhide KPX) (by decide) (by rw [← e]; rfl)
          have hgQ : g ≠ Q := fun e => own_neT om (unhide KQX) (by decide) (by rw [← e]; rfl)
          have hst := ((unhide OMX).stored (p * 6 + 1) (.int .u8 (h1 : Int))).1
          rw [unhide HGE2] at hst
          have HST := hide hst
          have hoy := (unhide OYX).kept (w' := wr.setCell ⟨g, p * 6 + 1, none⟩ (.int .u8 (h1 : Int))) (row := some g) ⟨rfl, rfl, rfl, by simp, fun k hk hne2 => Below.heap_setCell _ _ _ _ (fun e => hne2 (by rw [e]))⟩ (own_two (unhide OYX) (unhide OMX) (by decide))
          have HOY := hide hoy
          have KP2 := hide ((unhide KPX).other (a := ⟨g, p * 6 + 1, none⟩) (fun e => hgP e.symm) (.int .u8 (h1 : Int)))
          have KQ2 := hide ((unhide KQX).other (a := ⟨g, p * 6 + 1, none⟩) (fun e => hgQ e.symm) (.int .u8 (h1 : Int)))
          have BX2 := hide ((unhide BX).setCell (p := ⟨g, p * 6 + 1, none⟩) (show B ≤ g by omega) (.int .u8 (h1 : Int)))
          have q4 := (unhide KPX).cell 4
          have s0 := (unhide KQX).cell 0
          have s2 := (unhide KQX).cell 2
          simp only [List.getElem?_toArray, List.getElem?_cons_succ, List.getElem?_cons_zero] at q4 s0 s2
          have s0b := (unhide KQ2).cell 0
          have s2b := (unhide KQ2).cell 2
          simp only [List.getElem?_toArray, List.getElem?_cons_succ, List.getElem?_cons_zero] at s0b s2b
          have hpi : (p : Int) < (n : Int) := by omega
          clear hst hoy om hcm2 hfz d1 HGET HGE2 HMD hgP hgQ HSK HFK hll OMX OYX KPX KQX BX hmf hpl
          go_upto_region 14 with (fail)
          refine wp_region_held_drew (S := (fun w' => (w'.cell? ⟨Q, 0, none⟩ = some (.int .u8 (kd : Int)) ∧ w'.cell? ⟨Q, 2, none⟩ = some (.int .u8 (fl : Int))))) (by kernel_rfl) ?_ (fun hHeld => ?_)
          · exact ⟨s0, s2⟩
          refine wpAnyH_take (i := 0) (v := .pointer (some ⟨g, p * 6, none⟩)) rfl (by kernel_rfl) (by kernel_rfl) (by kernel_rfl) (fun _ _ _ h => h) (Or.inl ⟨by kernel_rfl, fun wS hSw => ?_⟩) (by assumption) ?_
          · (try dsimp only at hSw); go_simp
          (try simp only [Act.put, List.setIfInBounds_toArray, List.set_cons_zero, List.set_cons_succ])
          refine wpAnyH_take (i := 1) (v := .pointer (some ⟨Q, 0, none⟩)) rfl (by kernel_rfl) (by kernel_rfl) (by kernel_rfl) (fun _ _ _ h => h) (Or.inl ⟨by kernel_rfl, fun wS hSw => ?_⟩) (by assumption) ?_
          · (try dsimp only at hSw); go_simp
          (try simp only [Act.put, List.setIfInBounds_toArray, List.set_cons_zero, List.set_cons_succ])
          refine wpAnyH_take (i := 2) (v := .int .u8 (kd : Int)) rfl (by kernel_rfl) (by kernel_rfl) (by kernel_rfl) (fun _ _ _ h => h) (Or.inl ⟨by kernel_rfl, fun wS hSw => ?_⟩) (by assumption) ?_
          · (try dsimp only at hSw); go_simp
          (try simp only [Act.put, List.setIfInBounds_toArray, List.set_cons_zero, List.set_cons_succ])
          refine wpAnyH_take (i := 3) (v := .pointer (some ⟨g, p * 6, none⟩)) rfl (by kernel_rfl) (by kernel_rfl) (by kernel_rfl) (fun _ _ _ h => h) (Or.inl ⟨by kernel_rfl, fun wS hSw => ?_⟩) (by assumption) ?_
          · (try dsimp only at hSw); go_simp
          (try simp only [Act.put, List.setIfInBounds_toArray, List.set_cons_zero, List.set_cons_succ])
          refine wpAnyH_take (i := 4) (v := .pointer (some ⟨g, p * 6, none⟩)) rfl (by kernel_rfl) (by kernel_rfl) (by kernel_rfl) (fun _ _ _ h => h) (Or.inl ⟨by kernel_rfl, fun wS hSw => ?_⟩) (by assumption) ?_
          · (try dsimp only at hSw); go_simp
          (try simp only [Act.put, List.setIfInBounds_toArray, List.set_cons_zero, List.set_cons_succ])
          refine wpAnyH_take (i := 5) (v := .pointer (some ⟨g, p * 6 + 1, none⟩)) rfl (by kernel_rfl) (by kernel_rfl) (by kernel_rfl) (fun _ _ _ h => h) (Or.inl ⟨by kernel_rfl, fun wS hSw => ?_⟩) (by assumption) ?_
          · (try dsimp only at hSw); go_simp
          (try simp only [Act.put, List.setIfInBounds_toArray, List.set_cons_zero, List.set_cons_succ])
          refine wpAnyH_take (i := 7) (v := .pointer (some ⟨Q, 2, none⟩)) rfl (by kernel_rfl) (by kernel_rfl) (by kernel_rfl) (fun _ _ _ h => h) (Or.inl ⟨by kernel_rfl, fun wS hSw => ?_⟩) (by assumption) ?_
          · (try dsimp only at hSw); go_simp
          (try simp only [Act.put, List.setIfInBounds_toArray, List.set_cons_zero, List.set_cons_succ])
          refine wpAnyH_take (i := 8) (v := .int .u8 (fl : Int)) rfl (by kernel_rfl) (by kernel_rfl) (by kernel_rfl) (fun _ _ _ h => h) (Or.inl ⟨by kernel_rfl, fun wS hSw => ?_⟩) (by assumption) ?_
          · (try dsimp only at hSw); go_simp
          (try simp only [Act.put, List.setIfInBounds_toArray, List.set_cons_zero, List.set_cons_succ])
          refine wpAnyH_ready (rs := [6]) (by kernel_rfl) (by simp) ?_
          refine AllReadyH.cons rfl (fun K hK => ?_) AllReadyH.nil
          go_simp
          refine hK.out _ _ ?_ (fun hHeld => ?_)
          · exact ⟨s0, s2⟩
          clear hK K
          (try simp only [Act.put, List.setIfInBounds_toArray, List.set_cons_zero, List.set_cons_succ])
          refine wpAnyH_ready (rs := [9]) (by kernel_rfl) (by simp) ?_
          refine AllReadyH.cons rfl (fun K hK => ?_) AllReadyH.nil
          go_simp
          refine (unhide HMC _).mono ?_
          rintro e w6 ⟨rfl, h6⟩
          subst h6
          go_wp2_with fail
          refine hK.out _ _ ?_ (fun hHeld => ?_)
          · exact ⟨s0, s2⟩
          clear hK K
          (try simp only [Act.put, List.setIfInBounds_toArray, List.set_cons_zero, List.set_cons_succ])
          refine wpAnyH_take (i := 10) (v := .pointer (some ⟨g, p * 6, none⟩)) rfl (by kernel_rfl) (by kernel_rfl) (by kernel_rfl) (fun _ _ _ h => h) (Or.inl ⟨by kernel_rfl, fun wS hSw => ?_⟩) (by assumption) ?_
          · (try dsimp only at hSw); go_simp
          (try simp only [Act.put, List.setIfInBounds_toArray, List.set_cons_zero, List.set_cons_succ])
          refine wpAnyH_take (i := 11) (v := .pointer (some ⟨g, p * 6 + 1, none⟩)) rfl (by kernel_rfl) (by kernel_rfl) (by kernel_rfl) (fun _ _ _ h => h) (Or.inl ⟨by kernel_rfl, fun wS hSw => ?_⟩) (by assumption) ?_
          · (try dsimp only at hSw); go_simp
          (try simp only [Act.put, List.setIfInBounds_toArray, List.set_cons_zero, List.set_cons_succ])
          refine wpAnyH_ready (rs := [12]) (by kernel_rfl) (by simp) ?_
          refine AllReadyH.cons rfl (fun K hK => ?_) AllReadyH.nil
          go_simp
          refine hK.out _ _ ?_ (fun hHeld => ?_)
          · exact ⟨s0b, s2b⟩
          clear hK K
          (try simp only [Act.put, List.setIfInBounds_toArray, List.set_cons_zero, List.set_cons_succ])
          refine wpAnyH_done (by kernel_rfl) ?_ _
          clear hHeld
          go_wp2
          exact ⟨⟨k + 1, by go_num, by omega, KP2, KQ2, HST, HOY, hide ⟨(unhide BX2).os, (unhide BX2).tape, (unhide BX2).output, (unhide BX2).size, (unhide BX2).block⟩⟩, by simp [intOf]; omega⟩
        · have hlt1 : ¬ (k : Int) < (un : Int) := by omega
          have hke : k = un := by omega
          have htk : pl.take k = pl := List.take_of_length_le (by rw [unhide HPU]; omega)
          rw [htk, unhide HMP] at OMX
          have q1 := (unhide KQX).cell 1
          simp only [List.getElem?_toArray, List.getElem?_cons_succ, List.getElem?_cons_zero] at q1
          have HCL := hide (bclone32_any (.slice au un cu) us wr (by have := unhide HUN; omega) (unhide HUA wr (unhide BX)))
          have hbx := (unhide BX).size
          clear hke htk hlt OYX
          go_wp2_with fail
          refine (unhide HCL).mono ?_
          rintro e w5 ⟨v5, rfl, o5, b5⟩
          obtain ⟨a5, c5, rfl, _⟩ := own_sliceG o5
          have k5 := (unhide KPX).below b5
          have m5 := own_below (unhide OMX) b5
          have t0 := k5.cell 5
          have t1 := k5.frozen 5
          simp only [List.getElem?_toArray, List.getElem?_cons_succ, List.getElem?_cons_zero] at t0
          rw [unhide HUN]
          have R0 := hide (k5.set 5 (.slice a5 un c5))
          have m6 := own_setT (i := 5) (u := .slice a5 un c5) m5 k5 (by decide)
          have o6 := own_setT (i := 5) (u := .slice a5 un c5) o5 k5 (by decide)
          have hlm : (ms.map (markM ⟨kd, us, fl, dy, sc, zn, raw⟩)).length = n := by rw [List.length_map]; exact unhide HNN
          rw [← hlm] at m6
          have R1 := hide (show OutM _ _ (ms.map (markM ⟨kd, us, fl, dy, sc, zn, raw⟩)) from ⟨own_zero m6, (fun m hm => unhide HLF pl m (by rw [unhide HMP]; exact hm)), by rw [hlm]; omega⟩)
          rw [hlm] at R1
          have R2 := hide (show OutT _ _ us from ⟨own_zero o6, unhide HUF, by rw [unhide HUN]; omega⟩)
          rw [unhide HUN] at R2
          have R3 := hide (((unhide BWA).trans ((unhide BX).trans (b5.mono (by have := (unhide BWA).size; omega)))).setCell (p := ⟨P, 5, none⟩) hP (.slice a5 un c5))
          clear o5 b5 k5 m5 m6 o6 hlm HCL KPX KQX OMX BX
          go_wp2
          go_ret
          rw [← unhide HBB]
          exact ⟨rfl, _, _, unhide R0, unhide R1, unhide R2, unhide R3⟩
end Go.Proofs.YthpjogfclklefaaDoor

/-
  What (*box.work).do does, over this seat's program.
-/
set_option linter.unusedVariables false
set_option linter.unusedSimpArgs false
namespace Go.Proofs.YthpjogfclklefaaDoor
open Go.RowKit

theorem bchk_rise {l : List Nat} (h : chk l = 0) : l.Pairwise (· < ·) ∧ l.length ≤ 65536 := by
  unfold chk at h
  by_cases h1 : Go.Proofs.Dct.rises 0 l = true
  · rw [if_pos h1] at h
    have hlen : l.length ≤ 65536 := by
      rcases Nat.lt_or_ge 65536 l.length with h2 | h2
      · rw [if_neg (by omega)] at h; omega
      · exact h2
    refine ⟨?_, hlen⟩
    have key := (Go.Proofs.Dct.rises_iff l 0).1 h1
    rw [List.pairwise_iff_getElem]
    intro i j hi hj hij
    obtain ⟨d, rfl⟩ : ∃ d, j = i + d + 1 := ⟨j - i - 1, by omega⟩
    clear hij
    induction d with
    | zero => exact key.2 i hj
    | succ d ih => exact Nat.lt_trans (ih (by omega)) (key.2 (i + d + 1) hj)
  · rw [if_neg h1] at h
    omega
theorem okC_rise {c : Chg} (h : okC c = true) : c.us.Pairwise (· < ·) ∧ c.us.length ≤ 65536 := by
  unfold okC at h
  split at h
  · simp only [Bool.and_eq_true, decide_eq_true_eq] at h
    have : c.us = [] := List.eq_nil_of_length_eq_zero h.1
    rw [this]
    exact ⟨List.Pairwise.nil, by simp⟩
  · simp only [Bool.and_eq_true, decide_eq_true_eq] at h
    exact bchk_rise h.2.2.2.1
theorem okC_kind {c : Chg} (h : okC c = true) : c.kd = 1 ∨ c.kd = 5 ∨ c.kd = 6 ∨ c.kd = 2 ∨ c.kd = 3 ∨ c.kd = 4 := by
  unfold okC at h
  split at h
  · omega
  · simp only [Bool.and_eq_true, decide_eq_true_eq] at h
    omega

def workB (b : Bx) (c : Chg) : Bx := if c.kd = 1 then putB b c else if c.kd = 5 then ⟨b.va, b.nx, b.mr, b.la, stayL c.us b.ms⟩ else if c.kd = 6 then ⟨b.va, b.nx, b.la, b.nx - 1, b.ms⟩ else markB b c
def workT (b : Bx) (c : Chg) : List Nat := if c.kd = 1 then putT b else if c.kd = 5 then goneL c.us b.ms else if c.kd = 6 then [] else markT b c
def workE (b : Bx) (c : Chg) : Nat := if c.kd = 1 then putE b else if c.kd = 5 then 0 else if c.kd = 6 then 0 else markE b c

set_option maxHeartbeats 8000000 in
set_option maxRecDepth 100000 in
theorem do_any (P C0 B : Nat) (b : Bx) (c : Chg) (vm vc : Value) (W : World)
    (KP : Blk W P 57 (wkC b vm (.slice none 0 0)))
    (OM : W.ownsRow C0 47 6 vm b.ms.length (flatG msC b.ms)) (hfm : ∀ m ∈ b.ms, FitM m) (hn : b.ms.length ≤ 4096) (hr : (uidsM b.ms).Pairwise (· < ·))
    (hnx : 1 ≤ b.nx ∧ b.nx ≤ 4294967296) (hfc : FitC c) (HU0 : ∀ X, Below B W X → Row32 X vc c.us) (hus : c.us.Pairwise (· < ·)) (hul : c.us.length ≤ 65536) (hP : B ≤ P) (hC : B ≤ C0) (hC2 : C0 ≤ W.heap.size) :
    Calls Tryd.prog 26 #[.pointer (some ⟨P, 0, none⟩), chV c vc] W fun e W' => e = .returned (.int .i64 (workE b c : Int)) ∧ ∃ vm' vt', Blk W' P 57 (wkC (workB b c) vm' vt') ∧ OutM W' vm' (workB b c).ms ∧ OutT W' vt' (workT b c) ∧ Below B W W' := by
  have hvc := HU0 W (Below.refl _ _)
  obtain ⟨au, cu, rfl, _, _, _⟩ := hvc
  have hPW := KP.lt
  obtain ⟨Q, hQ⟩ : ∃ Q, W.heap.size = Q := ⟨_, rfl⟩
  obtain ⟨V, hV⟩ : ∃ V, W.alloc (.cells (chC c (.slice au c.us.length cu)) 33) = V := ⟨_, rfl⟩
  have hA : Below W.heap.size W V := by rw [← hV]; exact (Below.refl _ W).alloc (Nat.le_refl _) _
  have KQ : Blk V Q 33 (chC c (.slice au c.us.length cu)) := by rw [← hV, ← hQ]; exact Blk.new W 33 _
  have KP1 := KP.below hA
  have OM1 := own_below OM hA
  have hVs : V.heap.size = W.heap.size + 1 := by rw [← hV, World.size_alloc]
  have hB1 : Below B W V := hA.mono (by omega)
  have HU1 : ∀ X, Below B V X → Row32 X (.slice au c.us.length cu) c.us := fun X hX => HU0 X (hB1.trans hX)
  have HBV := hide hB1
  by_cases h1 : c.kd = 1
  · have d1 : ((c.kd : Int) == 1) = true := by rw [h1]; rfl
    have HP := hide (put_any P C0 B b c vm (.slice au c.us.length cu) V KP1 OM1 hfm hn hnx hfc ⟨_, _, _, rfl⟩ hP hC (by omega))
    have e1 : workE b c = putE b := by unfold workE; rw [if_pos h1]
    have e2 : workT b c = putT b := by unfold workT; rw [if_pos h1]
    have e3 : workB b c = putB b c := by unfold workB; rw [if_pos h1]
    rw [e1, e2, e3]
    generalize putE b = E0 at HP ⊢
    generalize putT b = T0 at HP ⊢
    generalize putB b c = B0 at HP ⊢
    clear e1 e2 e3 hfm hr hnx hfc HU0 HU1 hus h1 OM OM1 KP KP1 hA hB1
    obtain ⟨kd, us, fl, dy, sc, zn, raw⟩ := c
    simp only [chV, chC] at *
    subst hV hQ
    go_enter Tryd.func26, Tryd.ntmps26
    go_wp2_with fail
    refine (unhide HP).mono ?_
    rintro e w1 ⟨rfl, vm', vt', q1, q2, q3, q4⟩
    have R0 := hide q1
    have R1 := hide q2
    have R2 := hide q3
    have R3 := hide ((unhide HBV).trans q4)
    clear q1 q2 q3 q4 HP HBV KQ
    go_wp2
    go_ret
    exact ⟨rfl, _, _, unhide R0, unhide R1, unhide R2, unhide R3⟩
  · have d1 : ((c.kd : Int) == 1) = false := by simp; omega
    by_cases h5 : c.kd = 5
    · have d5 : ((c.kd : Int) == 5) = true := by rw [h5]; rfl
      have HP := hide (expunge_any P C0 B b vm (.slice au c.us.length cu) c.us V KP1 OM1 hfm (by omega) HU1 hus hul hP (by omega))
      have e1 : workE b c = 0 := by unfold workE; rw [if_neg h1, if_pos h5]
      have e2 : workT b c = goneL c.us b.ms := by unfold workT; rw [if_neg h1, if_pos h5]
      have e3 : workB b c = ⟨b.va, b.nx, b.mr, b.la, stayL c.us b.ms⟩ := by unfold workB; rw [if_neg h1, if_pos h5]
      rw [e1, e2, e3]
      generalize goneL c.us b.ms = T0 at HP ⊢
      generalize stayL c.us b.ms = S0 at HP ⊢
      have hBs : B ≤ V.heap.size := by omega
      clear e1 e2 e3 hfm hr hnx hfc HU0 HU1 hus h1 h5 OM OM1 KP KP1 hA hB1
      obtain ⟨kd, us, fl, dy, sc, zn, raw⟩ := c
      simp only [chV, chC] at *
      subst hV hQ
      go_enter Tryd.func26, Tryd.ntmps26
      go_wp2_with fail
      refine (unhide HP).mono ?_
      rintro e w1 ⟨rfl, vm', vt', q1, q2, q3, q4⟩
      have R0 := hide q1
      have R1 := hide q2
      have R2 := hide q3
      have R3 := hide ((unhide HBV).trans (q4.to hP hBs))
      clear q1 q2 q3 q4 HP HBV KQ
      go_wp2
      go_ret
      exact ⟨rfl, _, _, unhide R0, unhide R1, unhide R2, unhide R3⟩
    · have d5 : ((c.kd : Int) == 5) = false := by simp; omega
      by_cases h6 : c.kd = 6
      · have d6 : ((c.kd : Int) == 6) = true := by rw [h6]; rfl
        have e1 : workE b c = 0 := by unfold workE; rw [if_neg h1, if_neg h5, if_pos h6]
        have e2 : workT b c = [] := by unfold workT; rw [if_neg h1, if_neg h5, if_pos h6]
        have e3 : workB b c = ⟨b.va, b.nx, b.la, b.nx - 1, b.ms⟩ := by unfold workB; rw [if_neg h1, if_neg h5, if_pos h6]
        rw [e1, e2, e3]
        have KPH := hide KP1
        have OMH := hide OM1
        have HFM := hide hfm
        clear e1 e2 e3 hfm hr hfc HU0 HU1 hus h1 h5 h6 OM OM1 KP KP1 hA hB1
        obtain ⟨kd, us, fl, dy, sc, zn, raw⟩ := c
        obtain ⟨va, nx, mr, la, ms⟩ := b
        simp only [chV, chC, wkC] at *
        subst hV hQ
        obtain ⟨nn, hnn⟩ : ∃ nn, nx = nn + 1 := ⟨nx - 1, by omega⟩
        subst hnn
        simp only [Nat.add_sub_cancel]
        have c1 := (unhide KPH).cell 1
        have c2 := (unhide KPH).cell 2
        have c3 := (unhide KPH).cell 3
        have f2 := (unhide KPH).frozen 2
        have f3 := (unhide KPH).frozen 3
        simp only [List.getElem?_toArray, List.getElem?_cons_succ, List.getElem?_cons_zero] at c1 c2 c3
        have hw1 : IntKind.u64.wrap (((nn + 1 : Nat) : Int) - 1) = (nn : Int) := by rw [IntKind.wrap_u64]; omega
        have hw1b : IntKind.u64.wrap ((nn : Int) + 1 - 1) = (nn : Int) := by rw [IntKind.wrap_u64]; omega
        have hw2 : IntKind.u32.wrap (nn : Int) = (nn : Int) := by rw [IntKind.wrap_u32']; omega
        have R0 := hide (((unhide KPH).set 2 (.int .u32 (la : Int))).set 3 (.int .u32 (nn : Int)))
        have m1 := own_setT (i := 2) (u := .int .u32 (la : Int)) (unhide OMH) (unhide KPH) (by decide)
        have m2 := own_setT (i := 3) (u := .int .u32 (nn : Int)) m1 ((unhide KPH).set 2 (.int .u32 (la : Int))) (by decide)
        have R1 := hide (show OutM _ _ ms from ⟨own_zero m2, unhide HFM, by omega⟩)
        have R3 := hide (((unhide HBV).setCell (p := ⟨P, 2, none⟩) hP (.int .u32 (la : Int))).setCell (p := ⟨P, 3, none⟩) hP (.int .u32 (nn : Int)))
        clear m1 m2 KPH OMH HBV
        go_enter Tryd.func26, Tryd.ntmps26
        go_upto_region 8 with (fail)
        generalize W.alloc (.cells #[.int .u8 (kd : Int), .slice au us.length cu, .int .u8 (fl : Int), .int .i64 dy, .int .i64 sc, .int .i64 zn, .string raw] 33) = V at c1 c2 c3 f2 f3 R0 R1 R3 ⊢
        go_wp2
        go_ret
        exact ⟨rfl, _, _, unhide R0, unhide R1, OutT.nil _, unhide R3⟩
      · have d6 : ((c.kd : Int) == 6) = false := by simp; omega
        have HP := hide (mark_any P C0 B b c vm (.slice au c.us.length cu) V KP1 OM1 hfm hn hr hfc HU1 hus hul hP hC (by omega))
        have e1 : workE b c = markE b c := by unfold workE; rw [if_neg h1, if_neg h5, if_neg h6]
        have e2 : workT b c = markT b c := by unfold workT; rw [if_neg h1, if_neg h5, if_neg h6]
        have e3 : workB b c = markB b c := by unfold workB; rw [if_neg h1, if_neg h5, if_neg h6]
        rw [e1, e2, e3]
        generalize markE b c = E0 at HP ⊢
        generalize markT b c = T0 at HP ⊢
        generalize markB b c = B0 at HP ⊢
        clear e1 e2 e3 hfm hr hnx hfc HU0 HU1 hus h1 h5 h6 OM OM1 KP KP1 hA hB1
        obtain ⟨kd, us, fl, dy, sc, zn, raw⟩ := c
        simp only [chV, chC] at *
        subst hV hQ
        go_enter Tryd.func26, Tryd.ntmps26
        go_wp2_with fail
        refine (unhide HP).mono ?_
        rintro e w1 ⟨rfl, vm', vt', q1, q2, q3, q4⟩
        have R0 := hide q1
        have R1 := hide q2
        have R2 := hide q3
        have R3 := hide ((unhide HBV).trans q4)
        clear q1 q2 q3 q4 HP HBV KQ
        go_wp2
        go_ret
        exact ⟨rfl, _, _, unhide R0, unhide R1, unhide R2, unhide R3⟩
end Go.Proofs.YthpjogfclklefaaDoor

/-
  What is kept where a struct of five cells is written; over this seat's program.
-/
set_option linter.unusedVariables false
set_option linter.unusedSimpArgs false
namespace Go.Proofs.YthpjogfclklefaaDoor
open Go.RowKit

theorem blk_belowC {w w' : World} {P C t : Nat} {cs : Array Value} (h : Blk w P t cs) (hb : Below C w w') (hC : P < C) : Blk w' P t cs := by
  unfold Blk at *
  rw [hb.block P hC]
  exact h
theorem outM5 {w : World} {v : Value} {l : List Msg} {S t : Nat} {cs : Array Value} (h : OutM w v l) (hb : Blk w S t cs) (hne : t ≠ 47) : ∀ u0 u1 u2 u3 u4, OutM (((((w.setCell ⟨S, 0, none⟩ u0).setCell ⟨S, 1, none⟩ u1).setCell ⟨S, 2, none⟩ u2).setCell ⟨S, 3, none⟩ u3).setCell ⟨S, 4, none⟩ u4) v l := by
  intro u0 u1 u2 u3 u4
  have b1 := hb.set 0 u0
  have b2 := b1.set 1 u1
  have b3 := b2.set 2 u2
  have b4 := b3.set 3 u3
  exact ((((h.set hb hne).set b1 hne).set b2 hne).set b3 hne).set b4 hne
theorem outT5 {w : World} {v : Value} {l : List Nat} {S t : Nat} {cs : Array Value} (h : OutT w v l) (hb : Blk w S t cs) (hne : t ≠ 22) : ∀ u0 u1 u2 u3 u4, OutT (((((w.setCell ⟨S, 0, none⟩ u0).setCell ⟨S, 1, none⟩ u1).setCell ⟨S, 2, none⟩ u2).setCell ⟨S, 3, none⟩ u3).setCell ⟨S, 4, none⟩ u4) v l := by
  intro u0 u1 u2 u3 u4
  have b1 := hb.set 0 u0
  have b2 := b1.set 1 u1
  have b3 := b2.set 2 u2
  have b4 := b3.set 3 u3
  exact ((((h.set hb hne).set b1 hne).set b2 hne).set b3 hne).set b4 hne
theorem blk5 {w : World} {S P t : Nat} {cs : Array Value} (h : Blk w P t cs) (hne : P ≠ S) : ∀ u0 u1 u2 u3 u4, Blk (((((w.setCell ⟨S, 0, none⟩ u0).setCell ⟨S, 1, none⟩ u1).setCell ⟨S, 2, none⟩ u2).setCell ⟨S, 3, none⟩ u3).setCell ⟨S, 4, none⟩ u4) P t cs := by
  intro u0 u1 u2 u3 u4
  exact ((((h.other (a := ⟨S, 0, none⟩) hne u0).other (a := ⟨S, 1, none⟩) hne u1).other (a := ⟨S, 2, none⟩) hne u2).other (a := ⟨S, 3, none⟩) hne u3).other (a := ⟨S, 4, none⟩) hne u4
theorem OutM.drewB {w : World} {v : Value} {l : List Msg} (h : OutM w v l) : OutM w.drew v l := ⟨own_drewB h.1, h.2⟩
theorem OutT.drewB {w : World} {v : Value} {l : List Nat} (h : OutT w v l) : OutT w.drew v l := ⟨own_drewB h.1, h.2⟩
theorem below_drewB {B : Nat} {w W : World} (h : Below B w W) : Below B w W.drew := ⟨h.os, h.tape, h.output, h.size, h.block⟩

end Go.Proofs.YthpjogfclklefaaDoor

/-
  What box.Do does, over this seat's program.
-/
set_option linter.unusedVariables false
set_option linter.unusedSimpArgs false
namespace Go.Proofs.YthpjogfclklefaaDoor
open Go.RowKit

def zeroB : Bx := ⟨0, 0, 0, 0, []⟩
def doB (b : Bx) (c : Chg) : Bx := if okB b = true then if okC c = true then workB b c else b else zeroB
def doT (b : Bx) (c : Chg) : List Nat := if okB b = true then if okC c = true then workT b c else [] else []
def doE (b : Bx) (c : Chg) : Nat := if okB b = true then if okC c = true then workE b c else 2 else 2

set_option maxHeartbeats 8000000 in
set_option maxRecDepth 100000 in
theorem bdo_any (b : Bx) (c : Chg) (v vc : Value) (w : World) (ht : LTab w) (h : RowM w v b.ms) (hu : Row32 w vc c.us) (hf : FitB b) (hfc : FitC c) :
    Calls Tryd.prog 6 #[bxV b v, chV c vc] w fun e w' => (∃ v' u', e = .returned (.tuple #[bxV (doB b c) v', u', .int .i64 (doE b c : Int)]) ∧ OutM w' v' (doB b c).ms ∧ OutT w' u' (doT b c)) ∧ Below w.heap.size w w' := by
  have HCK := hide (fun X (hX : LTab X) (hR : RowM X v b.ms) => bcheck_any b v X hX hR hf)
  have HRG := hide (fun X (hX : LTab X) (hR : Row32 X vc c.us) => bright_any c vc X hX hR hfc)
  have HFM := hide h.choose_spec.choose_spec.2.2.1
  have hb1 := (((Below.refl _ w).alloc (Nat.le_refl _) (Obj.cells (bxC b v) 26)).alloc (by simp) (Obj.cells (chC c vc) 33)).alloc (by simp; omega) (Obj.cells #[.int .u32 0, .int .u64 0, .int .u32 0, .int .u32 0, .slice none 0 0] 26)
  have hb2 : Below w.heap.size w (w.alloc (Obj.cells (bxC b v) 26)) := (Below.refl _ w).alloc (Nat.le_refl _) _
  have k0 := ((Blk.new w 26 (bxC b v)).below ((Below.refl _ _).alloc (Nat.le_refl _) (Obj.cells (chC c vc) 33))).below ((Below.refl _ _).alloc (Nat.le_refl _) (Obj.cells #[.int .u32 0, .int .u64 0, .int .u32 0, .int .u32 0, .slice none 0 0] 26))
  have k1 := (Blk.new (w.alloc (Obj.cells (bxC b v) 26)) 33 (chC c vc)).below ((Below.refl _ _).alloc (Nat.le_refl _) (Obj.cells #[.int .u32 0, .int .u64 0, .int .u32 0, .int .u32 0, .slice none 0 0] 26))
  have k2 := Blk.new ((w.alloc (Obj.cells (bxC b v) 26)).alloc (Obj.cells (chC c vc) 33)) 26 #[.int .u32 0, .int .u64 0, .int .u32 0, .int .u32 0, .slice none 0 0]
  simp only [World.size_alloc] at k1 k2
  have K0 := hide k0
  have K1 := hide k1
  have K2 := hide k2
  have HA := hide hb1
  have HTA := hide (ht.below hb1)
  have HRA := hide (h.below hb1)
  have HUA := hide (hu.below hb1)
  have HUW := hide (fun X (hX : Below w.heap.size w X) => hu.below hX)
  have HTW := hide (fun X (hX : Below w.heap.size w X) => ht.below hX)
  clear k0 k1 k2 hb1 hb2 ht
  cases hob : okB b with
  | false =>
    have e1 : doB b c = zeroB := by unfold doB; rw [hob]; rfl
    have e2 : doT b c = [] := by unfold doT; rw [hob]; rfl
    have e3 : doE b c = 2 := by unfold doE; rw [hob]; rfl
    have e4 : chkB b = 2 := by unfold chkB; rw [hob]; rfl
    rw [e1, e2, e3]
    rw [e4] at HCK
    obtain ⟨a, cap, rfl, hl, _, _⟩ := h
    obtain ⟨au, cu, rfl, hl2, _, _⟩ := hu
    clear e1 e2 e3 e4 hob hf hfc HRG HFM
    obtain ⟨va, nx, mr, la, ms⟩ := b
    obtain ⟨kd, us, fl, dy, sc, zn, raw⟩ := c
    simp only [bxV, bxC, chV, chC, zeroB] at *
    generalize ms.length = n at *
    generalize us.length = un at *
    go_enter Tryd.func6, Tryd.ntmps6
    go_wp2_with fail
    refine (unhide HCK _ (unhide HTA) (unhide HRA)).mono ?_
    rintro e w1 ⟨rfl, b1⟩
    have kq := (unhide K2).below b1
    have hs1 := b1.size
    simp only [World.size_alloc] at hs1
    have r0 := kq.cell 0
    have r1 := kq.cell 1
    have r2 := kq.cell 2
    have r3 := kq.cell 3
    have r4 := kq.cell 4
    have f0 := kq.frozen 0
    have f1 := kq.frozen 1
    have f2 := kq.frozen 2
    have f3 := kq.frozen 3
    have f4 := kq.frozen 4
    simp only [List.getElem?_toArray, List.getElem?_cons_succ, List.getElem?_cons_zero] at r0 r1 r2 r3 r4
    have HB5 := hide (below5 (s := w.heap.size + 1 + 1) (belows' (unhide HA) b1) (by omega))
    clear kq b1 K0 K1 K2 HA HTA HRA HUA HUW HTW HCK
    go_wp2
    (try simp only [Exit.inBlock, Exit.then])
    refine bodyPost_ret (v := .tuple #[.agg #[.int .u32 0, .int .u64 0, .int .u32 0, .int .u32 0, .slice none 0 0], .slice none 0 0, .int .i64 2]) ?_ rfl ⟨⟨.slice none 0 0, .slice none 0 0, rfl, OutM.nil _, OutT.nil _⟩, unhide HB5 _ _ _ _ _⟩
    rw [results_cell_tmp2 rfl]
    go_simp
  | true =>
    have e4 : chkB b = 0 := by unfold chkB; rw [hob]; rfl
    rw [e4] at HCK
    have hlen := okB_len hob
    have hrise := okB_rise hob
    have hhd := okB_head hob
    have HCP := hide (fun X (hR : RowM X v b.ms) => copyMails_any v b.ms X (by omega) hR)
    have HDO : Hid (okC c = true → ∀ (P C0 B : Nat) (vm : Value) (W : World), Blk W P 57 (wkC b vm (.slice none 0 0)) → W.ownsRow C0 47 6 vm b.ms.length (flatG msC b.ms) → w.heap.size ≤ B → B ≤ P → B ≤ C0 → C0 ≤ W.heap.size → Below w.heap.size w W →
        Calls Tryd.prog 26 #[.pointer (some ⟨P, 0, none⟩), chV c vc] W fun e W' => e = .returned (.int .i64 (workE b c : Int)) ∧ ∃ vm' vt', Blk W' P 57 (wkC (workB b c) vm' vt') ∧ OutM W' vm' (workB b c).ms ∧ OutT W' vt' (workT b c) ∧ Below B W W') := hide (fun hoc P C0 B vm W h1 h2 hB h3 h4 h5 h6 => do_any P C0 B b c vm vc W h1 h2 (unhide HFM) hlen hrise ⟨hhd.2.1, hhd.2.2.1⟩ hfc (fun X hX => unhide HUW X (h6.trans (hX.mono hB))) (okC_rise hoc).1 (okC_rise hoc).2 h3 h4 h5)
    have HOC : Hid ((okC c = true → rightC c = 0 ∧ doB b c = workB b c ∧ doT b c = workT b c ∧ doE b c = workE b c) ∧ (okC c = false → rightC c = 2 ∧ doB b c = b ∧ doT b c = [] ∧ doE b c = 2)) := hide (by
      unfold rightC doB doT doE
      rw [hob]
      exact ⟨fun h => by rw [h]; exact ⟨rfl, rfl, rfl, rfl⟩, fun h => by rw [h]; exact ⟨rfl, rfl, rfl, rfl⟩⟩)
    generalize rightC c = RC at HRG HOC
    generalize doB b c = DB at HOC ⊢
    generalize doT b c = DT at HOC ⊢
    generalize doE b c = DE at HOC ⊢
    generalize okC c = OC at HOC HDO
    generalize workB b c = WB at HOC HDO
    obtain ⟨va2, nx2, mr2, la2, ms2⟩ := WB
    generalize workT b c = WT at HOC HDO
    generalize workE b c = WE at HOC HDO
    have HLE := hide hlen
    obtain ⟨a, cap, rfl, hl, _, _⟩ := h
    obtain ⟨au, cu, rfl, hl2, _, _⟩ := hu
    clear e4 hob hf hfc hlen hrise hhd
    obtain ⟨va, nx, mr, la, ms⟩ := b
    obtain ⟨kd, us, fl, dy, sc, zn, raw⟩ := c
    simp only [bxV, bxC, chV, chC, wkC] at *
    obtain ⟨n, hnn⟩ : ∃ n, ms.length = n := ⟨_, rfl⟩
    obtain ⟨un, hun⟩ : ∃ un, us.length = un := ⟨_, rfl⟩
    rw [hnn] at HCK HRA K0 K1 K2 HA HTA HUA HCP HDO hl ⊢
    rw [hun] at HRG HUA HRA K0 K1 K2 HA HTA HUW HDO hl2 ⊢
    have HNN := hide hnn
    clear hnn hun
    go_enter Tryd.func6, Tryd.ntmps6
    go_wp2_with fail
    refine (unhide HCK _ (unhide HTA) (unhide HRA)).mono ?_
    rintro e w1 ⟨rfl, b1⟩
    have B1 := hide (belows' (unhide HA) b1)
    have k0 := (unhide K0).below b1
    have k1 := (unhide K1).below b1
    have k2 := (unhide K2).below b1
    have HR1 := hide ((unhide HRA).below b1)
    have hs1 := b1.size
    simp only [World.size_alloc] at hs1
    have c4 := k0.cell 4
    simp only [List.getElem?_toArray, List.getElem?_cons_succ, List.getElem?_cons_zero] at c4
    have J0 := hide k0
    have J1 := hide k1
    have J2 := hide k2
    clear k0 k1 k2 b1 K0 K1 K2 HA HTA HRA HUA HCK
    go_wp2_with fail
    refine (unhide HCP _ (unhide HR1)).mono ?_
    rintro e w2 ⟨vm, rfl, own2, b2⟩
    obtain ⟨am, cm, rfl, _⟩ := own_sliceG own2
    have B2 := hide (belows' (unhide B1) b2)
    have hs2 := b2.size
    have k0 := (unhide J0).below b2
    have k1 := (unhide J1).below b2
    have k2 := (unhide J2).below b2
    have c0 := k0.cell 0
    have c1 := k0.cell 1
    have c2 := k0.cell 2
    have c3 := k0.cell 3
    have c4 := k0.cell 4
    have f4 := k0.frozen 4
    simp only [List.getElem?_toArray, List.getElem?_cons_succ, List.getElem?_cons_zero] at c0 c1 c2 c3 c4
    have OWN2 := hide own2
    have J0 := hide k0
    have J1 := hide k1
    have J2 := hide k2
    clear k0 k1 k2 b2 own2 B1 HR1 HCP
    go_upto_region 5 with (fail)
    have x0 := (unhide J0).set 4 (.slice am n cm)
    have x1 := (unhide J1).other (a := ⟨w.heap.size, 4, none⟩) (by first | (simp; done) | (simp; omega)) (.slice am n cm)
    have x2 := (unhide J2).other (a := ⟨w.heap.size, 4, none⟩) (by first | (simp; done) | (simp; omega)) (.slice am n cm)
    have xo := own_setT (i := 4) (u := .slice am n cm) (unhide OWN2) (unhide J0) (by decide)
    have xb := (unhide B2).setCell (p := ⟨w.heap.size, 4, none⟩) (Nat.le_refl _) (.slice am n cm)
    have hsz : (w2.setCell ⟨w.heap.size, 4, none⟩ (.slice am n cm)).heap.size = w2.heap.size := by simp
    simp only [List.setIfInBounds_toArray, List.set_cons_succ, List.set_cons_zero] at x0
    generalize w2.setCell ⟨w.heap.size, 4, none⟩ (.slice am n cm) = W3 at x0 x1 x2 xo xb hsz ⊢
    clear c0 c1 c2 c3 c4 f4 J0 J1 J2 OWN2 B2
    have c0 := x0.cell 0
    have c1 := x0.cell 1
    have c2 := x0.cell 2
    have c3 := x0.cell 3
    have c4 := x0.cell 4
    simp only [List.getElem?_toArray, List.getElem?_cons_succ, List.getElem?_cons_zero] at c0 c1 c2 c3 c4
    have hA3 : Below W3.heap.size W3 (W3.alloc (.cells #[.int .u32 (va : Int), .int .u64 (nx : Int), .int .u32 (mr : Int), .int .u32 (la : Int), .slice am n cm, .slice none 0 0] 57)) := (Below.refl _ W3).alloc (Nat.le_refl _) _
    have y1 := hide (x1.below hA3)
    have y2 := hide (x2.below hA3)
    have yo := hide (own_below xo hA3)
    have yb := hide (belows' xb hA3)
    have yk := hide (Blk.new W3 57 #[.int .u32 (va : Int), .int .u64 (nx : Int), .int .u32 (mr : Int), .int .u32 (la : Int), .slice am n cm, .slice none 0 0])
    have hs4 : (W3.alloc (.cells #[.int .u32 (va : Int), .int .u64 (nx : Int), .int .u32 (mr : Int), .int .u32 (la : Int), .slice am n cm, .slice none 0 0] 57)).heap.size = W3.heap.size + 1 := by simp
    go_upto_region 6 with (fail)
    clear c0 c1 c2 c3 c4 x0 x1 x2 xo xb hA3
    generalize W3.alloc (.cells #[.int .u32 (va : Int), .int .u64 (nx : Int), .int .u32 (mr : Int), .int .u32 (la : Int), .slice am n cm, .slice none 0 0] 57) = W4 at y1 y2 yo yb yk hs4 ⊢
    rw [hsz] at hs4
    rw [hsz] at yk
    clear hsz
    generalize w2.heap.size = P at yk hs2 hs4 ⊢
    have hPw : w.heap.size ≤ P ∧ w.heap.size ≤ w1.heap.size ∧ w1.heap.size ≤ W4.heap.size ∧ w.heap.size + 1 + 1 ≠ P ∧ w1.heap.size ≤ P := by omega
    have hS2 : w.heap.size + 1 + 1 < w1.heap.size := by omega
    have d0 := (unhide y1).cell 0
    have d1 := (unhide y1).cell 1
    have d2 := (unhide y1).cell 2
    have d3 := (unhide y1).cell 3
    have d4 := (unhide y1).cell 4
    have d5 := (unhide y1).cell 5
    have d6 := (unhide y1).cell 6
    simp only [List.getElem?_toArray, List.getElem?_cons_succ, List.getElem?_cons_zero] at d0 d1 d2 d3 d4 d5 d6
    clear hs4 hs1 hs2
    go_wp2_with fail
    refine (unhide HRG _ (unhide HTW _ (unhide yb)) (unhide HUW _ (unhide yb))).mono ?_
    rintro e w5 ⟨rfl, b5⟩
    have z1 := hide ((unhide y1).below b5)
    have z2 := hide ((unhide y2).below b5)
    have zo := hide (own_below (unhide yo) b5)
    have zb := hide (belows' (unhide yb) b5)
    have zk := hide ((unhide yk).below b5)
    have hs5 := b5.size
    clear b5 y1 y2 yo yb yk HRG d0 d1 d2 d3 d4 d5 d6 HUW HTW
    cases OC with
    | false =>
      obtain ⟨q1, q2, q3, q4⟩ := (unhide HOC).2 rfl
      subst q1 q2 q3 q4
      have OMF : Hid (OutM w5 (.slice am n cm) ms) := hide ⟨own_zero (by have h := unhide zo; rw [← unhide HNN] at h ⊢; exact h), unhide HFM, by have := unhide HLE; omega⟩
      have OTF := hide (OutT.nil w5)
      clear HOC HDO zo z1
      go_upto_region 9 with (fail)
      have HS : Hid (∀ X, Blk X P 57 #[.int .u32 (va : Int), .int .u64 (nx : Int), .int .u32 (mr : Int), .int .u32 (la : Int), .slice am n cm, .slice none 0 0] → (X.cell? ⟨P, 0, none⟩ = some (.int .u32 (va : Int)) ∧ X.cell? ⟨P, 1, none⟩ = some (.int .u64 (nx : Int)) ∧ X.cell? ⟨P, 2, none⟩ = some (.int .u32 (mr : Int)) ∧ X.cell? ⟨P, 3, none⟩ = some (.int .u32 (la : Int)) ∧ X.cell? ⟨P, 4, none⟩ = some (.slice am n cm) ∧ X.cell? ⟨P, 5, none⟩ = some (.slice none 0 0))) := hide (fun X hX => ⟨hX.cell 0, hX.cell 1, hX.cell 2, hX.cell 3, hX.cell 4, hX.cell 5⟩)
      have HS0 := unhide HS _ (blk_drewB (unhide zk))
      have hne : P ≠ w.heap.size + 1 + 1 := fun e => hPw.2.2.2.1 e.symm
      have HS5 := hide (fun u0 u1 u2 u3 u4 => unhide HS _ (blk_drewB (blk5 (unhide zk) hne u0 u1 u2 u3 u4)))
      have HR5 := hide (fun u0 u1 u2 u3 u4 => (outM5 (unhide OMF) (unhide z2) (by decide) u0 u1 u2 u3 u4).drewB)
      have HT5 := hide (fun u0 u1 u2 u3 u4 => (outT5 (unhide OTF) (unhide z2) (by decide) u0 u1 u2 u3 u4).drewB)
      have HB5 := hide (fun u0 u1 u2 u3 u4 => below_drewB (below5 (s := w.heap.size + 1 + 1) (unhide zb) (by omega) u0 u1 u2 u3 u4))
      have r0 := (unhide z2).cell 0
      have r1 := (unhide z2).cell 1
      have r2 := (unhide z2).cell 2
      have r3 := (unhide z2).cell 3
      have r4 := (unhide z2).cell 4
      have f0 := (unhide z2).frozen 0
      have f1 := (unhide z2).frozen 1
      have f2 := (unhide z2).frozen 2
      have f3 := (unhide z2).frozen 3
      have f4 := (unhide z2).frozen 4
      simp only [List.getElem?_toArray, List.getElem?_cons_succ, List.getElem?_cons_zero] at r0 r1 r2 r3 r4
      clear HS OMF OTF zk z2 zb hne
      refine wp_region_held_drew (S := (fun w' => (w'.cell? ⟨P, 0, none⟩ = some (.int .u32 (va : Int)) ∧ w'.cell? ⟨P, 1, none⟩ = some (.int .u64 (nx : Int)) ∧ w'.cell? ⟨P, 2, none⟩ = some (.int .u32 (mr : Int)) ∧ w'.cell? ⟨P, 3, none⟩ = some (.int .u32 (la : Int)) ∧ w'.cell? ⟨P, 4, none⟩ = some (.slice am n cm) ∧ w'.cell? ⟨P, 5, none⟩ = some (.slice none 0 0)))) (by kernel_rfl) ?_ (fun hHeld => ?_)
      · exact HS0
      refine wpAnyH_take (i := 0) (v := .pointer (some ⟨P, 0, none⟩)) rfl (by kernel_rfl) (by kernel_rfl) (by kernel_rfl) (fun _ _ _ h => h) (Or.inl ⟨by kernel_rfl, fun wS hSw => ?_⟩) (by assumption) ?_
      · (try dsimp only at hSw); go_simp
      (try simp only [Act.put, List.setIfInBounds_toArray, List.set_cons_zero, List.set_cons_succ])
      refine wpAnyH_take (i := 1) (v := .agg #[.int .u32 (va : Int), .int .u64 (nx : Int), .int .u32 (mr : Int), .int .u32 (la : Int), .slice am n cm]) rfl (by kernel_rfl) (by kernel_rfl) (by kernel_rfl) (fun _ _ _ h => h) (Or.inl ⟨by kernel_rfl, fun wS hSw => ?_⟩) (by assumption) ?_
      · (try dsimp only at hSw); go_simp
      (try simp only [Act.put, List.setIfInBounds_toArray, List.set_cons_zero, List.set_cons_succ])
      refine wpAnyH_take (i := 2) (v := .pointer (some ⟨P, 5, none⟩)) rfl (by kernel_rfl) (by kernel_rfl) (by kernel_rfl) (fun _ _ _ h => h) (Or.inl ⟨by kernel_rfl, fun wS hSw => ?_⟩) (by assumption) ?_
      · (try dsimp only at hSw); go_simp
      (try simp only [Act.put, List.setIfInBounds_toArray, List.set_cons_zero, List.set_cons_succ])
      refine wpAnyH_take (i := 3) (v := .slice none 0 0) rfl (by kernel_rfl) (by kernel_rfl) (by kernel_rfl) (fun _ _ _ h => h) (Or.inl ⟨by kernel_rfl, fun wS hSw => ?_⟩) (by assumption) ?_
      · (try dsimp only at hSw); go_simp
      (try simp only [Act.put, List.setIfInBounds_toArray, List.set_cons_zero, List.set_cons_succ])
      refine wpAnyH_take (i := 4) (v := .int .i64 (2 : Int)) rfl (by kernel_rfl) (by kernel_rfl) (by kernel_rfl) (fun _ _ _ h => h) (Or.inl ⟨by kernel_rfl, fun wS hSw => ?_⟩) (by assumption) ?_
      · (try dsimp only at hSw); go_simp
      (try simp only [Act.put, List.setIfInBounds_toArray, List.set_cons_zero, List.set_cons_succ])
      refine wpAnyH_ready (rs := [5]) (by kernel_rfl) (by simp) ?_
      refine AllReadyH.cons rfl (fun K hK => ?_) AllReadyH.nil
      go_simp
      refine hK.out _ _ ?_ (fun hHeld => ?_)
      · exact unhide HS5 _ _ _ _ _
      clear hK K
      (try simp only [Act.put, List.setIfInBounds_toArray, List.set_cons_zero, List.set_cons_succ])
      refine wpAnyH_take (i := 6) (v := .slice none 0 0) rfl (by kernel_rfl) (by kernel_rfl) (by kernel_rfl) (fun _ _ _ h => h) (Or.inl ⟨by kernel_rfl, fun wS hSw => ?_⟩) (by assumption) ?_
      · (try dsimp only at hSw); go_simp
      (try simp only [Act.put, List.setIfInBounds_toArray, List.set_cons_zero, List.set_cons_succ])
      refine wpAnyH_take (i := 7) (v := .int .i64 (2 : Int)) rfl (by kernel_rfl) (by kernel_rfl) (by kernel_rfl) (fun _ _ _ h => h) (Or.inl ⟨by kernel_rfl, fun wS hSw => ?_⟩) (by assumption) ?_
      · (try dsimp only at hSw); go_simp
      (try simp only [Act.put, List.setIfInBounds_toArray, List.set_cons_zero, List.set_cons_succ])
      refine wpAnyH_done (by kernel_rfl) ?_ _
      clear hHeld HS5
      go_wp2
      (try simp only [Exit.inBlock, Exit.then])
      refine bodyPost_ret (v := .tuple #[.agg #[.int .u32 (va : Int), .int .u64 (nx : Int), .int .u32 (mr : Int), .int .u32 (la : Int), .slice am n cm], .slice none 0 0, .int .i64 (2 : Int)]) ?_ rfl ⟨⟨_, _, rfl, unhide HR5 _ _ _ _ _, unhide HT5 _ _ _ _ _⟩, unhide HB5 _ _ _ _ _⟩
      rw [results_cell_tmp2 rfl]
      go_simp
    | true =>
      obtain ⟨q1, q2, q3, q4⟩ := (unhide HOC).1 rfl
      replace q2 := q2.symm
      replace q3 := q3.symm
      replace q4 := q4.symm
      subst q1 q2 q3 q4
      have HD := hide (unhide HDO rfl P w1.heap.size w1.heap.size (.slice am n cm) w5 (unhide zk) (unhide zo) hPw.2.1 hPw.2.2.2.2 (Nat.le_refl _) (by omega) (unhide zb))
      have d0 := (unhide z1).cell 0
      have d1 := (unhide z1).cell 1
      have d2 := (unhide z1).cell 2
      have d3 := (unhide z1).cell 3
      have d4 := (unhide z1).cell 4
      have d5 := (unhide z1).cell 5
      have d6 := (unhide z1).cell 6
      simp only [List.getElem?_toArray, List.getElem?_cons_succ, List.getElem?_cons_zero] at d0 d1 d2 d3 d4 d5 d6
      clear HOC HDO z1 zo
      go_wp2_with fail
      refine (unhide HD).mono ?_
      rintro e w6 ⟨rfl, vm2, vt2, g1, g2, g3, g4⟩
      have zk := hide g1
      obtain ⟨am2, cm2, rfl, _⟩ := own_sliceG g2.1
      obtain ⟨at2, ct2, rfl, _⟩ := own_sliceG g3.1
      have OMF := hide g2
      have OTF := hide g3
      have zb := hide ((unhide zb).trans (g4.mono hPw.2.1))
      have z2 := hide (blk_belowC (unhide z2) g4 hS2)
      have hs6 := g4.size
      clear g1 g2 g3 g4 HD d0 d1 d2 d3 d4 d5 d6
      go_upto_region 9 with (fail)
      have HS : Hid (∀ X, Blk X P 57 #[.int .u32 (va2 : Int), .int .u64 (nx2 : Int), .int .u32 (mr2 : Int), .int .u32 (la2 : Int), .slice am2 ms2.length cm2, .slice at2 WT.length ct2] → (X.cell? ⟨P, 0, none⟩ = some (.int .u32 (va2 : Int)) ∧ X.cell? ⟨P, 1, none⟩ = some (.int .u64 (nx2 : Int)) ∧ X.cell? ⟨P, 2, none⟩ = some (.int .u32 (mr2 : Int)) ∧ X.cell? ⟨P, 3, none⟩ = some (.int .u32 (la2 : Int)) ∧ X.cell? ⟨P, 4, none⟩ = some (.slice am2 ms2.length cm2) ∧ X.cell? ⟨P, 5, none⟩ = some (.slice at2 WT.length ct2))) := hide (fun X hX => ⟨hX.cell 0, hX.cell 1, hX.cell 2, hX.cell 3, hX.cell 4, hX.cell 5⟩)
      have HS0 := unhide HS _ (blk_drewB (unhide zk))
      have hne : P ≠ w.heap.size + 1 + 1 := fun e => hPw.2.2.2.1 e.symm
      have HS5 := hide (fun u0 u1 u2 u3 u4 => unhide HS _ (blk_drewB (blk5 (unhide zk) hne u0 u1 u2 u3 u4)))
      have HR5 := hide (fun u0 u1 u2 u3 u4 => (outM5 (unhide OMF) (unhide z2) (by decide) u0 u1 u2 u3 u4).drewB)
      have HT5 := hide (fun u0 u1 u2 u3 u4 => (outT5 (unhide OTF) (unhide z2) (by decide) u0 u1 u2 u3 u4).drewB)
      have HB5 := hide (fun u0 u1 u2 u3 u4 => below_drewB (below5 (s := w.heap.size + 1 + 1) (unhide zb) (by omega) u0 u1 u2 u3 u4))
      have r0 := (unhide z2).cell 0
      have r1 := (unhide z2).cell 1
      have r2 := (unhide z2).cell 2
      have r3 := (unhide z2).cell 3
      have r4 := (unhide z2).cell 4
      have f0 := (unhide z2).frozen 0
      have f1 := (unhide z2).frozen 1
      have f2 := (unhide z2).frozen 2
      have f3 := (unhide z2).frozen 3
      have f4 := (unhide z2).frozen 4
      simp only [List.getElem?_toArray, List.getElem?_cons_succ, List.getElem?_cons_zero] at r0 r1 r2 r3 r4
      clear HS OMF OTF zk z2 zb hne
      refine wp_region_held_drew (S := (fun w' => (w'.cell? ⟨P, 0, none⟩ = some (.int .u32 (va2 : Int)) ∧ w'.cell? ⟨P, 1, none⟩ = some (.int .u64 (nx2 : Int)) ∧ w'.cell? ⟨P, 2, none⟩ = some (.int .u32 (mr2 : Int)) ∧ w'.cell? ⟨P, 3, none⟩ = some (.int .u32 (la2 : Int)) ∧ w'.cell? ⟨P, 4, none⟩ = some (.slice am2 ms2.length cm2) ∧ w'.cell? ⟨P, 5, none⟩ = some (.slice at2 WT.length ct2)))) (by kernel_rfl) ?_ (fun hHeld => ?_)
      · exact HS0
      refine wpAnyH_take (i := 0) (v := .pointer (some ⟨P, 0, none⟩)) rfl (by kernel_rfl) (by kernel_rfl) (by kernel_rfl) (fun _ _ _ h => h) (Or.inl ⟨by kernel_rfl, fun wS hSw => ?_⟩) (by assumption) ?_
      · (try dsimp only at hSw); go_simp
      (try simp only [Act.put, List.setIfInBounds_toArray, List.set_cons_zero, List.set_cons_succ])
      refine wpAnyH_take (i := 1) (v := .agg #[.int .u32 (va2 : Int), .int .u64 (nx2 : Int), .int .u32 (mr2 : Int), .int .u32 (la2 : Int), .slice am2 ms2.length cm2]) rfl (by kernel_rfl) (by kernel_rfl) (by kernel_rfl) (fun _ _ _ h => h) (Or.inl ⟨by kernel_rfl, fun wS hSw => ?_⟩) (by assumption) ?_
      · (try dsimp only at hSw); go_simp
      (try simp only [Act.put, List.setIfInBounds_toArray, List.set_cons_zero, List.set_cons_succ])
      refine wpAnyH_take (i := 2) (v := .pointer (some ⟨P, 5, none⟩)) rfl (by kernel_rfl) (by kernel_rfl) (by kernel_rfl) (fun _ _ _ h => h) (Or.inl ⟨by kernel_rfl, fun wS hSw => ?_⟩) (by assumption) ?_
      · (try dsimp only at hSw); go_simp
      (try simp only [Act.put, List.setIfInBounds_toArray, List.set_cons_zero, List.set_cons_succ])
      refine wpAnyH_take (i := 3) (v := .slice at2 WT.length ct2) rfl (by kernel_rfl) (by kernel_rfl) (by kernel_rfl) (fun _ _ _ h => h) (Or.inl ⟨by kernel_rfl, fun wS hSw => ?_⟩) (by assumption) ?_
      · (try dsimp only at hSw); go_simp
      (try simp only [Act.put, List.setIfInBounds_toArray, List.set_cons_zero, List.set_cons_succ])
      refine wpAnyH_take (i := 4) (v := .int .i64 (WE : Int)) rfl (by kernel_rfl) (by kernel_rfl) (by kernel_rfl) (fun _ _ _ h => h) (Or.inl ⟨by kernel_rfl, fun wS hSw => ?_⟩) (by assumption) ?_
      · (try dsimp only at hSw); go_simp
      (try simp only [Act.put, List.setIfInBounds_toArray, List.set_cons_zero, List.set_cons_succ])
      refine wpAnyH_ready (rs := [5]) (by kernel_rfl) (by simp) ?_
      refine AllReadyH.cons rfl (fun K hK => ?_) AllReadyH.nil
      go_simp
      refine hK.out _ _ ?_ (fun hHeld => ?_)
      · exact unhide HS5 _ _ _ _ _
      clear hK K
      (try simp only [Act.put, List.setIfInBounds_toArray, List.set_cons_zero, List.set_cons_succ])
      refine wpAnyH_take (i := 6) (v := .slice at2 WT.length ct2) rfl (by kernel_rfl) (by kernel_rfl) (by kernel_rfl) (fun _ _ _ h => h) (Or.inl ⟨by kernel_rfl, fun wS hSw => ?_⟩) (by assumption) ?_
      · (try dsimp only at hSw); go_simp
      (try simp only [Act.put, List.setIfInBounds_toArray, List.set_cons_zero, List.set_cons_succ])
      refine wpAnyH_take (i := 7) (v := .int .i64 (WE : Int)) rfl (by kernel_rfl) (by kernel_rfl) (by kernel_rfl) (fun _ _ _ h => h) (Or.inl ⟨by kernel_rfl, fun wS hSw => ?_⟩) (by assumption) ?_
      · (try dsimp only at hSw); go_simp
      (try simp only [Act.put, List.setIfInBounds_toArray, List.set_cons_zero, List.set_cons_succ])
      refine wpAnyH_done (by kernel_rfl) ?_ _
      clear hHeld HS5
      go_wp2
      (try simp only [Exit.inBlock, Exit.then])
      refine bodyPost_ret (v := .tuple #[.agg #[.int .u32 (va2 : Int), .int .u64 (nx2 : Int), .int .u32 (mr2 : Int), .int .u32 (la2 : Int), .slice am2 ms2.length cm2], .slice at2 WT.length ct2, .int .i64 (WE : Int)]) ?_ rfl ⟨⟨_, _, rfl, unhide HR5 _ _ _ _ _, unhide HT5 _ _ _ _ _⟩, unhide HB5 _ _ _ _ _⟩
      rw [results_cell_tmp2 rfl]
      go_simp
end Go.Proofs.YthpjogfclklefaaDoor

/-
  What missiveref01.Same and missiveref13.In do, over this seat's program.
-/
set_option linter.unusedVariables false
namespace Go.Proofs.YthpjogfclklefaaDoor
open Go.RowKit Go.Proofs.Num Go.Proofs.Dct

theorem takeG_next {α : Type} {l r : List α} {k : Nat} (hl : k < l.length) (hr : k < r.length) : l.take (k + 1) = r.take (k + 1) ↔ l.take k = r.take k ∧ l[k] = r[k] := by
  rw [List.take_succ_eq_append_getElem hl, List.take_succ_eq_append_getElem hr]
  constructor
  · intro h
    have := List.append_inj' h rfl
    exact ⟨this.1, by simpa using this.2⟩
  · rintro ⟨h1, h2⟩
    rw [h1, h2]

set_option maxHeartbeats 400000 in
theorem same32_len (a b : Option Addr) (n m c d : Nat) (w : World) (h : n ≠ m) :
    Calls Tryd.prog 12 #[.slice a n c, .slice b m d] w fun e w' => e = .returned (.bool false) ∧ Below w.heap.size w w' := by
  have hb : ((n : Int) == (m : Int)) = false := by simp; omega
  go_enter Tryd.func12, Tryd.ntmps12
  go_wp2
  go_ret
  exact ⟨rfl, Below.refl _ _⟩

set_option maxHeartbeats 1000000 in
set_option maxRecDepth 100000 in
theorem same32_any (v v' : Value) (l r : List Nat) (w : World) (h : Row32 w v l) (h' : Row32 w v' r) :
    Calls Tryd.prog 12 #[v, v'] w fun e w' => e = .returned (.bool (decide (l = r))) ∧ Below w.heap.size w w' := by
  have HR := hide h
  have HR' := hide h'
  obtain ⟨a, cap, rfl, hl, hn, _⟩ := h
  obtain ⟨a', cap', rfl, hl', hn', _⟩ := h'
  by_cases hlr : l.length = r.length
  · have HLR := hide hlr
    rw [← hlr]
    rw [← hlr] at HR' hl'
    obtain ⟨T, hT⟩ : ∃ T, T = l.length := ⟨_, rfl⟩
    rw [← hT] at HR HR' hl ⊢
    have HTL := hide hT
    clear hT hlr hl' hn hn'
    go_enter Tryd.func12, Tryd.ntmps12
    go_wp2
    go_loopw [5, 13] (fun x z wr => ∃ k : Nat, z = .int .i64 k ∧ k ≤ T ∧ Hid (l.take k = r.take k) ∧ Hid (Below w.heap.size w wr)) (fun _ z _ => T - (intOf z).toNat)
    case atStart => exact ⟨0, rfl, Nat.zero_le _, hide rfl, hide (Below.refl _ _)⟩
    case round =>
      obtain ⟨k, rfl, hk, HT, HB⟩ := hrel
      by_cases hlt : k < T
      · have hlt1 : (k : Int) < (T : Int) := by omega
        have hkl : k < l.length := by have := unhide HTL; omega
        have hkr : k < r.length := by have := unhide HTL; have := unhide HLR; omega
        obtain ⟨b, off, cp, hv1, hblt, hcell⟩ := RowG.at cells32_len ((unhide HR).below (unhide HB)) (j := k) hkl
        obtain ⟨b2, off2, cp2, hv2, hblt2, hcell2⟩ := RowG.at cells32_len ((unhide HR').below (unhide HB)) (j := k) hkr
        injection hv1 with e1 e2 e3
        injection hv2 with e4 e5 e6
        subst e1 e4
        have c0 := hcell 0 (by omega)
        have d0 := hcell2 0 (by omega)
        simp only [cells32, List.getElem?_cons_zero, Nat.add_zero] at c0 d0
        (try simp only [Nat.mul_one] at c0 d0)
        clear e2 e3 e5 e6 hcell hcell2
        have hnx := takeG_next hkl hkr
        by_cases he : l[k] = r[k]
        · have HN := hide (hnx.2 ⟨unhide HT, he⟩)
          have q0 : ((l[k] : Int) == (r[k] : Int)) = true := by rw [he]; simp
          clear hnx he HT
          generalize l[k] = x0 at c0 q0
          generalize r[k] = y0 at d0 q0
          go_wp2
          go_quiet (fail)
          go_wp2
          exact ⟨⟨k + 1, by go_num, by omega, HN, hide (below_drewN (unhide HB) _)⟩, by simp [intOf]; omega⟩
        · have hfin : decide (l = r) = false := by
            rw [decide_eq_false_iff_not]
            intro h
            subst h
            exact he rfl
          have HF := hide hfin
          clear hfin hnx HT
          have g0 : ¬ l[k] = r[k] := fun g0 => he g0
          have q0 : ((l[k] : Int) == (r[k] : Int)) = false := by simp; omega
          clear he g0
          generalize l[k] = x0 at c0 q0
          generalize r[k] = y0 at d0 q0
          go_wp2
          go_quiet (fail)
          go_wp2
          go_ret
          exact ⟨by rw [unhide HF]; rfl, below_drewN (unhide HB) _⟩
      · have hlt1 : ¬ (k : Int) < (T : Int) := by omega
        have hfin : decide (l = r) = true := by
          rw [decide_eq_true_iff]
          have h1 := unhide HT
          have h2 := unhide HLR
          have h3 := unhide HTL
          rw [List.take_of_length_le (by omega), List.take_of_length_le (by omega)] at h1
          exact h1
        have HF := hide hfin
        clear hfin
        go_wp2
        go_ret
        exact ⟨by rw [unhide HF]; rfl, unhide HB⟩
  · have : decide (l = r) = false := by
      rw [decide_eq_false_iff_not]
      intro h
      exact hlr (by rw [h])
    rw [this]
    exact same32_len a a' _ _ cap cap' w hlr

set_option maxHeartbeats 1000000 in
set_option maxRecDepth 100000 in
theorem in_any (v : Value) (l : List Nat) (n : Nat) (w : World) (h : Row32 w v l) (hn : n ≤ 4294967295) :
    Calls Tryd.prog 27 #[v, .int .u32 (n : Int)] w fun e w' => e = .returned (.bool (decide (n ∈ l))) ∧ w' = w := by
  have HR := hide h
  obtain ⟨a, cap, hv, hl4, hfit, _⟩ := h
  subst hv
  have HFT := hide hfit
  obtain ⟨T, hT⟩ : ∃ T, T = l.length := ⟨_, rfl⟩
  rw [← hT] at HR hl4 ⊢
  have HTL := hide hT
  clear hT hfit
  go_enter Tryd.func27, Tryd.ntmps27
  go_wp2
  go_loopw [6, 9] (fun x z wr => ∃ k : Nat, z = .int .i64 (k : Int) ∧ k ≤ T ∧ Hid (n ∉ l.take k) ∧ wr = w) (fun _ z _ => T - (intOf z).toNat)
  case atStart => exact ⟨0, rfl, Nat.zero_le _, hide (by simp), rfl⟩
  case round =>
    obtain ⟨k, rfl, hk, HA, rfl⟩ := hrel
    by_cases hlt : k < T
    · have hlt1 : (k : Int) < (T : Int) := by omega
      have hkl : k < l.length := by have := unhide HTL; omega
      obtain ⟨b, off, cap', hv', hblt, hcell⟩ := RowG.at cells32_len (unhide HR) (j := k) hkl
      injection hv' with e1 e2 e3
      subst e1
      have c0 := hcell 0 (by omega)
      simp only [cells32, List.getElem?_cons_zero, Nat.add_zero, Nat.mul_one] at c0
      clear e2 e3 hcell
      have hx := unhide HFT l[k] (List.getElem_mem hkl)
      by_cases he : l[k] = n
      · have HF : Hid (decide (n ∈ l) = true) := hide (decide_eq_true (by rw [← he]; exact List.getElem_mem hkl))
        have hb : ((l[k] : Int) == (n : Int)) = true := by rw [he]; simp
        clear he HA
        generalize l[k] = x at c0 hx hb
        go_wp2
        go_ret
        exact ⟨by rw [unhide HF]; rfl, rfl⟩
      · have HN : Hid (n ∉ l.take (k + 1)) := hide (by
          rw [List.take_succ_eq_append_getElem hkl, List.mem_append, List.mem_singleton]
          rintro (h | h)
          · exact unhide HA h
          · exact he h.symm)
        have hb : ((l[k] : Int) == (n : Int)) = false := by simp; omega
        clear he HA
        generalize l[k] = x at c0 hx hb
        go_wp2
        exact ⟨⟨k + 1, by go_num, by omega, HN, trivial⟩, by simp [intOf]; omega⟩
    · have hlt1 : ¬ (k : Int) < (T : Int) := by omega
      have HF : Hid (decide (n ∈ l) = false) := hide (decide_eq_false (by have := unhide HA; rwa [List.take_of_length_le (by have := unhide HTL; omega)] at this))
      clear HA
      go_wp2
      go_ret
      exact ⟨by rw [unhide HF]; rfl, rfl⟩
end Go.Proofs.YthpjogfclklefaaDoor

/-
  What a box's calls answer at the boxes and changes that lives makes; over this seat's program.
-/
set_option linter.unusedVariables false
set_option linter.unusedSimpArgs false
namespace Go.Proofs.YthpjogfclklefaaDoor
open Go.RowKit

def xB : ByteArray := ⟨#[120]⟩
def yB : ByteArray := ⟨#[121]⟩
def eB : ByteArray := ⟨#[]⟩
def lm1 : Msg := ⟨1, 0, 0, 0, 0, xB⟩
def lm1d : Msg := ⟨1, 8, 0, 0, 0, xB⟩
def lm2 : Msg := ⟨2, 1, 0, 0, 0, yB⟩
def lb0 : Bx := ⟨9, 1, 0, 0, []⟩
def lb1 : Bx := ⟨9, 2, 0, 0, [lm1]⟩
def lb2 : Bx := ⟨9, 3, 0, 0, [lm1, lm2]⟩
def lb3 : Bx := ⟨9, 3, 0, 0, [lm1d, lm2]⟩
def lb4 : Bx := ⟨9, 3, 0, 0, [lm2]⟩
def lb5 : Bx := ⟨9, 3, 0, 2, [lm2]⟩
def lc1 : Chg := ⟨1, [], 0, 0, 0, 0, xB⟩
def lc2 : Chg := ⟨1, [], 1, 0, 0, 0, yB⟩
def lc3 : Chg := ⟨3, [1], 8, 0, 0, 0, eB⟩
def lc4 : Chg := ⟨5, [1, 2], 0, 0, 0, 0, eB⟩
def lc5 : Chg := ⟨6, [], 0, 0, 0, 0, eB⟩
def lc6 : Chg := ⟨2, [1], 0, 0, 0, 0, eB⟩
theorem lE1 : doB lb0 lc1 = lb1 ∧ doT lb0 lc1 = [1] ∧ doE lb0 lc1 = 0 := ⟨by kernel_rfl, by kernel_rfl, by kernel_rfl⟩
theorem lE2 : doB lb1 lc2 = lb2 ∧ doT lb1 lc2 = [2] ∧ doE lb1 lc2 = 0 := ⟨by kernel_rfl, by kernel_rfl, by kernel_rfl⟩
theorem lE3 : doB lb2 lc3 = lb3 ∧ doT lb2 lc3 = [1] ∧ doE lb2 lc3 = 0 := ⟨by kernel_rfl, by kernel_rfl, by kernel_rfl⟩
theorem lE4 : doB lb3 lc4 = lb4 ∧ doT lb3 lc4 = [1] ∧ doE lb3 lc4 = 0 := ⟨by kernel_rfl, by kernel_rfl, by kernel_rfl⟩
theorem lE5 : doB lb4 lc5 = lb5 ∧ doT lb4 lc5 = [] ∧ doE lb4 lc5 = 0 := ⟨by kernel_rfl, by kernel_rfl, by kernel_rfl⟩
theorem lE6 : doB lb5 lc6 = lb5 ∧ doT lb5 lc6 = [] ∧ doE lb5 lc6 = 3 := ⟨by kernel_rfl, by kernel_rfl, by kernel_rfl⟩
theorem lP : placeB lb4 2 = 1 ∧ whyB lb4 2 = 0 ∧ findB lb4 2 = lm2 := ⟨by kernel_rfl, by kernel_rfl, by kernel_rfl⟩
theorem lU : chkB lb4 = 0 ∧ aboveB 0 lb4 = [2] := ⟨by kernel_rfl, by kernel_rfl⟩
theorem lR : chkB lb5 = 0 ∧ aboveB 0 lb5 = [2] := ⟨by kernel_rfl, by kernel_rfl⟩
theorem lC : rightC ⟨0, [], 0, 0, 0, 0, eB⟩ = 2 := by kernel_rfl

/-- box.Do at a box and a change, with its answers named. -/
theorem bdo_lit (b : Bx) (c : Chg) (b' : Bx) (T : List Nat) (E : Nat) (he : doB b c = b' ∧ doT b c = T ∧ doE b c = E) (v vc : Value) (w : World) (ht : LTab w) (h : OutM w v b.ms) (hu : Row32 w vc c.us) (hf : FitB b) (hfc : FitC c) :
    Calls Tryd.prog 6 #[bxV b v, chV c vc] w fun e w' => (∃ a c1 a' c2, e = .returned (.tuple #[bxV b' (.slice a b'.ms.length c1), .slice a' T.length c2, .int .i64 (E : Int)]) ∧ OutM w' (.slice a b'.ms.length c1) b'.ms ∧ OutT w' (.slice a' T.length c2) T) ∧ Below w.heap.size w w' := by
  obtain ⟨rfl, rfl, rfl⟩ := he
  refine (bdo_any b c v vc w ht h.row hu hf hfc).mono ?_
  rintro e w' ⟨⟨v', u', rfl, h1, h2⟩, h3⟩
  obtain ⟨a, c1, rfl, _⟩ := own_sliceG h1.1
  obtain ⟨a', c2, rfl, _⟩ := own_sliceG h2.1
  exact ⟨⟨a, c1, a', c2, rfl, h1, h2⟩, h3⟩
theorem lfB {va nx mr la : Nat} {ms : List Msg} (h : va ≤ 9 ∧ nx ≤ 9 ∧ mr ≤ 9 ∧ la ≤ 9) : FitB ⟨va, nx, mr, la, ms⟩ := ⟨by show va ≤ _; omega, by show nx ≤ _; omega, by show mr ≤ _; omega, by show la ≤ _; omega⟩
theorem i64_zero : I64 0 := by unfold I64; omega
theorem lfC {kd fl : Nat} {us : List Nat} {raw : ByteArray} (h : kd ≤ 9 ∧ fl ≤ 9 ∧ raw.size ≤ 9) : FitC ⟨kd, us, fl, 0, 0, 0, raw⟩ := ⟨by show kd ≤ _; omega, by show fl ≤ _; omega, i64_zero, i64_zero, i64_zero, by show raw.size ≤ _; omega⟩
theorem live1 (v : Value) (w : World) (ht : LTab w) (h : OutM w v []) : Calls Tryd.prog 6 #[.agg #[.int .u32 9, .int .u64 1, .int .u32 0, .int .u32 0, v], .agg #[.int .u8 1, .slice none 0 0, .int .u8 0, .int .i64 0, .int .i64 0, .int .i64 0, .string ⟨#[120]⟩]] w fun e w' => (∃ a c1 a' c2, e = .returned (.tuple #[.agg #[.int .u32 9, .int .u64 2, .int .u32 0, .int .u32 0, .slice a 1 c1], .slice a' 1 c2, .int .i64 0]) ∧ OutM w' (.slice a 1 c1) [lm1] ∧ OutT w' (.slice a' 1 c2) [1]) ∧ Below w.heap.size w w' :=
  bdo_lit lb0 lc1 lb1 [1] 0 lE1 v (.slice none 0 0) w ht h (RowG.nil _ _ _) (lfB (by decide)) (lfC (by decide))
theorem live2 (v : Value) (w : World) (ht : LTab w) (h : OutM w v [lm1]) : Calls Tryd.prog 6 #[.agg #[.int .u32 9, .int .u64 2, .int .u32 0, .int .u32 0, v], .agg #[.int .u8 1, .slice none 0 0, .int .u8 1, .int .i64 0, .int .i64 0, .int .i64 0, .string ⟨#[121]⟩]] w fun e w' => (∃ a c1 a' c2, e = .returned (.tuple #[.agg #[.int .u32 9, .int .u64 3, .int .u32 0, .int .u32 0, .slice a 2 c1], .slice a' 1 c2, .int .i64 0]) ∧ OutM w' (.slice a 2 c1) [lm1, lm2] ∧ OutT w' (.slice a' 1 c2) [2]) ∧ Below w.heap.size w w' :=
  bdo_lit lb1 lc2 lb2 [2] 0 lE2 v (.slice none 0 0) w ht h (RowG.nil _ _ _) (lfB (by decide)) (lfC (by decide))
theorem live3 (v vc : Value) (w : World) (ht : LTab w) (h : OutM w v [lm1, lm2]) (hu : Row32 w vc [1]) : Calls Tryd.prog 6 #[.agg #[.int .u32 9, .int .u64 3, .int .u32 0, .int .u32 0, v], .agg #[.int .u8 3, vc, .int .u8 8, .int .i64 0, .int .i64 0, .int .i64 0, .string ⟨#[]⟩]] w fun e w' => (∃ a c1 a' c2, e = .returned (.tuple #[.agg #[.int .u32 9, .int .u64 3, .int .u32 0, .int .u32 0, .slice a 2 c1], .slice a' 1 c2, .int .i64 0]) ∧ OutM w' (.slice a 2 c1) [lm1d, lm2] ∧ OutT w' (.slice a' 1 c2) [1]) ∧ Below w.heap.size w w' :=
  bdo_lit lb2 lc3 lb3 [1] 0 lE3 v vc w ht h hu (lfB (by decide)) (lfC (by decide))
theorem live4 (v vc : Value) (w : World) (ht : LTab w) (h : OutM w v [lm1d, lm2]) (hu : Row32 w vc [1, 2]) : Calls Tryd.prog 6 #[.agg #[.int .u32 9, .int .u64 3, .int .u32 0, .int .u32 0, v], .agg #[.int .u8 5, vc, .int .u8 0, .int .i64 0, .int .i64 0, .int .i64 0, .string ⟨#[]⟩]] w fun e w' => (∃ a c1 a' c2, e = .returned (.tuple #[.agg #[.int .u32 9, .int .u64 3, .int .u32 0, .int .u32 0, .slice a 1 c1], .slice a' 1 c2, .int .i64 0]) ∧ OutM w' (.slice a 1 c1) [lm2] ∧ OutT w' (.slice a' 1 c2) [1]) ∧ Below w.heap.size w w' :=
  bdo_lit lb3 lc4 lb4 [1] 0 lE4 v vc w ht h hu (lfB (by decide)) (lfC (by decide))
theorem live5 (v : Value) (w : World) (ht : LTab w) (h : OutM w v [lm2]) : Calls Tryd.prog 6 #[.agg #[.int .u32 9, .int .u64 3, .int .u32 0, .int .u32 0, v], .agg #[.int .u8 6, .slice none 0 0, .int .u8 0, .int .i64 0, .int .i64 0, .int .i64 0, .string ⟨#[]⟩]] w fun e w' => (∃ a c1 a' c2, e = .returned (.tuple #[.agg #[.int .u32 9, .int .u64 3, .int .u32 0, .int .u32 2, .slice a 1 c1], .slice a' 0 c2, .int .i64 0]) ∧ OutM w' (.slice a 1 c1) [lm2] ∧ OutT w' (.slice a' 0 c2) []) ∧ Below w.heap.size w w' :=
  bdo_lit lb4 lc5 lb5 [] 0 lE5 v (.slice none 0 0) w ht h (RowG.nil _ _ _) (lfB (by decide)) (lfC (by decide))
theorem live6 (v vc : Value) (w : World) (ht : LTab w) (h : OutM w v [lm2]) (hu : Row32 w vc [1]) : Calls Tryd.prog 6 #[.agg #[.int .u32 9, .int .u64 3, .int .u32 0, .int .u32 2, v], .agg #[.int .u8 2, vc, .int .u8 0, .int .i64 0, .int .i64 0, .int .i64 0, .string ⟨#[]⟩]] w fun e w' => (∃ a c1 a' c2, e = .returned (.tuple #[.agg #[.int .u32 9, .int .u64 3, .int .u32 0, .int .u32 2, .slice a 1 c1], .slice a' 0 c2, .int .i64 3]) ∧ OutM w' (.slice a 1 c1) [lm2] ∧ OutT w' (.slice a' 0 c2) []) ∧ Below w.heap.size w w' :=
  bdo_lit lb5 lc6 lb5 [] 3 lE6 v vc w ht h hu (lfB (by decide)) (lfC (by decide))
theorem liveP (v : Value) (w : World) (ht : LTab w) (h : OutM w v [lm2]) : Calls Tryd.prog 21 #[.agg #[.int .u32 9, .int .u64 3, .int .u32 0, .int .u32 0, v], .int .u32 2] w fun e w' => e = .returned (.tuple #[.int .i64 1, .int .i64 0]) ∧ Below w.heap.size w w' := by
  have := place_any lb4 v 2 w ht h.row (lfB (by decide)) (by decide)
  rw [lP.1, lP.2.1] at this
  exact this
theorem liveF (v : Value) (w : World) (ht : LTab w) (h : OutM w v [lm2]) : Calls Tryd.prog 17 #[.agg #[.int .u32 9, .int .u64 3, .int .u32 0, .int .u32 0, v], .int .u32 2] w fun e w' => e = .returned (.tuple #[.agg #[.int .u32 2, .int .u8 1, .int .i64 0, .int .i64 0, .int .i64 0, .string ⟨#[121]⟩], .int .i64 0]) ∧ Below w.heap.size w w' := by
  have := bfind_any lb4 v 2 w ht h.row (lfB (by decide)) (by decide)
  rw [lP.2.1, lP.2.2] at this
  exact this
theorem liveU (v : Value) (w : World) (ht : LTab w) (h : OutM w v [lm2]) : Calls Tryd.prog 19 #[.agg #[.int .u32 9, .int .u64 3, .int .u32 0, .int .u32 0, v]] w fun e w' => (∃ a c, e = .returned (.tuple #[.slice a 1 c, .int .i64 0]) ∧ OutT w' (.slice a 1 c) [2]) ∧ Below w.heap.size w w' := by
  have := uids_any lb4 v w ht h.row (lfB (by decide))
  rw [lU.1, lU.2] at this
  refine this.mono ?_
  rintro e w' ⟨⟨v', rfl, h1⟩, h2⟩
  obtain ⟨a, c, rfl, _⟩ := own_sliceG h1.1
  exact ⟨⟨a, c, rfl, h1⟩, h2⟩
theorem liveR (v : Value) (w : World) (ht : LTab w) (h : OutM w v [lm2]) : Calls Tryd.prog 23 #[.agg #[.int .u32 9, .int .u64 3, .int .u32 0, .int .u32 2, v]] w fun e w' => (∃ a c, e = .returned (.tuple #[.slice a 1 c, .int .i64 0]) ∧ OutT w' (.slice a 1 c) [2]) ∧ Below w.heap.size w w' := by
  have := recent_any lb5 v w ht h.row (lfB (by decide))
  rw [lR.1, show lb5.mr = 0 from rfl, lR.2] at this
  refine this.mono ?_
  rintro e w' ⟨⟨v', rfl, h1⟩, h2⟩
  obtain ⟨a, c, rfl, _⟩ := own_sliceG h1.1
  exact ⟨⟨a, c, rfl, h1⟩, h2⟩
theorem liveC (v : Value) (w : World) (ht : LTab w) (h : OutM w v [lm2]) : Calls Tryd.prog 13 #[.agg #[.int .u32 9, .int .u64 3, .int .u32 0, .int .u32 2, v]] w fun e w' => e = .returned (.int .i64 0) ∧ Below w.heap.size w w' := by
  have := bcheck_any lb5 v w ht h.row (lfB (by decide))
  rw [lR.1] at this
  exact this
theorem liveG (w : World) (ht : LTab w) : Calls Tryd.prog 15 #[.agg #[.int .u8 0, .slice none 0 0, .int .u8 0, .int .i64 0, .int .i64 0, .int .i64 0, .string ⟨#[]⟩]] w fun e w' => e = .returned (.int .i64 2) ∧ Below w.heap.size w w' := by
  have := bright_any ⟨0, [], 0, 0, 0, 0, eB⟩ (.slice none 0 0) w ht (RowG.nil _ _ _) (lfC (by decide))
  rw [lC] at this
  exact this
theorem liveM9 (w : World) : Calls Tryd.prog 8 #[.int .u32 9] w fun e w' => e = .returned (.tuple #[.agg #[.int .u32 9, .int .u64 1, .int .u32 0, .int .u32 0, .slice none 0 0], .int .i64 0]) ∧ Below w.heap.size w w' := bmake_any 9 w
theorem liveM0 (w : World) : Calls Tryd.prog 8 #[.int .u32 0] w fun e w' => e = .returned (.tuple #[.agg #[.int .u32 0, .int .u64 0, .int .u32 0, .int .u32 0, .slice none 0 0], .int .i64 1]) ∧ Below w.heap.size w w' := bmake_any 0 w
theorem blk_five {w : World} {B t : Nat} {x0 x1 x2 x3 x4 : Value} (h : Blk w B t #[x0, x1, x2, x3, x4]) (u0 u1 u2 u3 u4 : Value) : Blk (((((w.setCell ⟨B, 0, none⟩ u0).setCell ⟨B, 1, none⟩ u1).setCell ⟨B, 2, none⟩ u2).setCell ⟨B, 3, none⟩ u3).setCell ⟨B, 4, none⟩ u4) B t #[u0, u1, u2, u3, u4] :=
  ((((h.set 0 u0).set 1 u1).set 2 u2).set 3 u3).set 4 u4
theorem lit32 (W : World) (l : List Nat) (cs : Array Value) (he : cs.toList = flatG cells32 l) (hl : cs.size = l.length) (hn : l.length ≤ 9) (hf : ∀ x ∈ l, x ≤ 4294967295) : Row32 (W.alloc (.cells cs 22)) (.slice (some ⟨W.heap.size, 0, none⟩) l.length l.length) l := by
  have h := World.ownsRow_lit (e := 22) (size := 1) W cs l.length (Nat.zero_le _) (by unfold maxLen; omega) (by omega)
  rw [he] at h
  exact rowG_of_own cells32_len h (by omega) hf
end Go.Proofs.YthpjogfclklefaaDoor
