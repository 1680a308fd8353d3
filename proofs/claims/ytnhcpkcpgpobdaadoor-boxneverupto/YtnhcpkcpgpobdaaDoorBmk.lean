/-
  What (*box.work).mark does, over this seat's program.
-/
import Derived.Test.YtnhcpkcpgpobdaaDoorBmm
set_option linter.unusedVariables false
set_option linter.unusedSimpArgs false
namespace Go.Proofs.YtnhcpkcpgpobdaaDoor
open Go.RowKit

theorem modify_set {l : List Msg} {i : Nat} {f : Msg → Msg} (h : i < l.length) : l.modify i f = l.set i (f l[i]) := by
  apply List.ext_getElem (by simp)
  intro k h1 h2
  rw [List.getElem_modify, List.getElem_set]
  split <;> simp_all

set_option maxHeartbeats 8000000 in
set_option maxRecDepth 100000 in
theorem mark_any (P C0 B : Nat) (b : Bx) (c : Chg) (vm vc : Value) (W : World)
    (KP : Blk W P 61 (wkC b vm (.slice none 0 0)))
    (OM : W.ownsRow C0 47 6 vm b.ms.length (flatG msC b.ms)) (hfm : ∀ m ∈ b.ms, FitM m) (hn : b.ms.length ≤ 4096) (hr : (uidsM b.ms).Pairwise (· < ·))
    (hfc : FitC c) (HU0 : ∀ X, Below B W X → Row32 X vc c.us) (hus : c.us.Pairwise (· < ·)) (hul : c.us.length ≤ 65536) (hP : B ≤ P) (hC : B ≤ C0) (hB : B ≤ W.heap.size) :
    Calls Tryd.prog 43 #[.pointer (some ⟨P, 0, none⟩), chV c vc] W fun e W' => e = .returned (.int .i64 (markE b c : Int)) ∧ ∃ vm' vt', Blk W' P 61 (wkC (markB b c) vm' vt') ∧ OutM W' vm' (markB b c).ms ∧ OutT W' vt' (markT b c) ∧ Below B W W' := by
  have HFC := hide hfc
  obtain ⟨hkd, hfl, _⟩ := hfc
  have hvc := HU0 W (Below.refl _ _)
  have HUF := hide hvc.choose_spec.choose_spec.2.2.1
  obtain ⟨au, cu, rfl, _, _, _⟩ := hvc
  obtain ⟨am, cm, rfl, hcm⟩ := own_sliceG OM
  have hPW := KP.lt
  have HMAP : Hid (∀ pl : List Nat, pl.length = c.us.length → (∀ i (h : i < pl.length), ∃ u, c.us[i]? = some u ∧ AtU b.ms pl[i] u) → mkL c b.ms pl = b.ms.map (markM c)) := hide (fun pl h1 h2 => mkL_all hr hus h1 h2)
  have HALL : Hid ((∀ pl : List Nat, pl.length = c.us.length → (∀ i (h : i < pl.length), ∃ u, c.us[i]? = some u ∧ AtU b.ms pl[i] u) → allIn b c = true) ∧ (∀ u ∈ c.us, u ∉ uidsM b.ms → allIn b c = false)) := hide (by
    constructor
    · intro pl h1 h2
      unfold allIn
      rw [List.all_eq_true]
      intro u hu
      obtain ⟨k, hk, rfl⟩ := List.getElem_of_mem hu
      obtain ⟨v, hv, m, hm, hmu⟩ := h2 k (by omega)
      rw [List.getElem?_eq_getElem hk] at hv
      injection hv with hv
      rw [decide_eq_true_eq, hv]
      exact List.mem_map.2 ⟨m, List.mem_of_getElem? hm, hmu⟩
    · intro u hu hnot
      unfold allIn
      rw [List.all_eq_false]
      exact ⟨u, hu, by simpa using hnot⟩)
  have HMB : Hid ((allIn b c = true → markE b c = 0 ∧ markT b c = c.us ∧ markB b c = ⟨b.va, b.nx, b.mr, b.la, b.ms.map (markM c)⟩) ∧ (allIn b c = false → markE b c = 3 ∧ markT b c = [] ∧ markB b c = b)) := hide (by
    unfold markE markT markB
    exact ⟨fun h => by rw [h]; exact ⟨rfl, rfl, rfl⟩, fun h => by rw [h]; exact ⟨rfl, rfl, rfl⟩⟩)
  have HLF : Hid (∀ (r : List Nat) (m : Msg), m ∈ mkL c b.ms r → FitM m) := hide (fun r m hm => mkL_fit hfl r hfm m hm)
  have HLL : Hid (∀ r : List Nat, (mkL c b.ms r).length = b.ms.length) := hide (fun r => mkL_len c r _)
  have HSN : Hid (∀ (r : List Nat) (i : Nat), mkL c b.ms (r ++ [i]) = (mkL c b.ms r).modify i (mkM c)) := hide (fun r i => mkL_snoc c r _ i)
  have HMK : Hid (∀ m : Msg, mkM c m = ⟨m.uid, markF c.kd m.fl c.fl, m.dy, m.sc, m.zn, m.raw⟩) := hide (fun m => rfl)
  have HMF := hide (fun (h : Nat) (X : World) (hh : h ≤ 255) => marked_any c.kd h c.fl X hkd hh hfl)
  have HL0 : Hid (mkL c b.ms [] = b.ms) := hide rfl
  obtain ⟨va, nx, mr, la, ms⟩ := b
  simp only at OM hfm hn hr HMAP HLF HLL HSN HL0 KP HALL
  simp only [wkC] at KP
  have HFD := hide (fun X v u (hR : RowM X v ms) (hu : u ≤ 4294967295) (hp : P < X.heap.size) (hc : X.cell? ⟨P, 4, none⟩ = some v) => wfind_any P v ms u X hR hu (by omega) hr hp hc)
  generalize hG : (⟨va, nx, mr, la, ms⟩ : Bx) = bb at HMB HALL ⊢
  have HBB := hide hG
  clear hG
  generalize hE : markE bb c = ME at HMB ⊢
  generalize hT : markT bb c = MT at HMB ⊢
  generalize hBM : markB bb c = MB at HMB ⊢
  clear hE hT hBM
  generalize allIn bb c = AI at HMB HALL
  have hA : Below W.heap.size W (W.alloc (.cells #[.int .u8 (c.kd : Int), .slice au c.us.length cu, .int .u8 (c.fl : Int), .int .i64 c.dy, .int .i64 c.sc, .int .i64 c.zn, .string c.raw] 33)) := (Below.refl _ W).alloc (Nat.le_refl _) _
  have KQ := Blk.new W 33 #[.int .u8 (c.kd : Int), .slice au c.us.length cu, .int .u8 (c.fl : Int), .int .i64 c.dy, .int .i64 c.sc, .int .i64 c.zn, .string c.raw]
  have KP1 := hide (KP.below hA)
  have OM1 := hide (own_below OM hA)
  have HUV : Hid (∀ X, Below B (W.alloc (.cells #[.int .u8 (c.kd : Int), .slice au c.us.length cu, .int .u8 (c.fl : Int), .int .i64 c.dy, .int .i64 c.sc, .int .i64 c.zn, .string c.raw] 33)) X → Row32 X (.slice au c.us.length cu) c.us) := hide (fun X hX => HU0 X ((hA.mono hB).trans hX))
  have HAA := hide (hA.mono hB)
  have hQ : P ≠ W.heap.size := by omega
  have hBQ : B ≤ W.heap.size := hB
  obtain ⟨kd, us, fl, dy, sc, zn, raw⟩ := c
  simp only [chV, chC]
  simp only at HUV HMAP HALL HMB HMK HMF hul hus HUF KQ KP1 OM1 HAA hkd hfl
  obtain ⟨un, hun⟩ : ∃ un, us.length = un := ⟨_, rfl⟩
  obtain ⟨n, hnn⟩ : ∃ n, ms.length = n := ⟨_, rfl⟩
  rw [hun] at HUV KQ KP1 OM1 HAA hul HMAP HALL ⊢
  rw [hnn] at KP1 OM1 hn HLL hcm
  have HUN := hide hun
  have HNN := hide hnn
  have HKQ := hide KQ
  have k1 := KQ.cell 1
  simp only [List.getElem?_toArray, List.getElem?_cons_succ, List.getElem?_cons_zero] at k1
  clear hun hnn KQ KP OM hA hr hus hfm HU0
  go_enter Tryd.func43, Tryd.ntmps43
  go_upto_region 2 with (fail)
  generalize hV : W.alloc (.cells #[.int .u8 (kd : Int), .slice au un cu, .int .u8 (fl : Int), .int .i64 dy, .int .i64 sc, .int .i64 zn, .string raw] 33) = V at k1 HKQ KP1 OM1 HUV HAA ⊢
  have hVs : V.heap.size = W.heap.size + 1 := by rw [← hV, World.size_alloc]
  generalize W.heap.size = Q at HKQ k1 hVs hQ hBQ hPW ⊢
  clear hV
  have HCO : Hid (∀ X, Below V.heap.size V X → OutM X (.slice am n cm) ms) := hide (fun X hX => ⟨own_zero (by have h := own_below (unhide OM1) hX; rw [← unhide HNN] at h ⊢; exact h), (fun m hm => unhide HLF [] m (by rw [unhide HL0]; exact hm)), by have := unhide HNN; omega⟩)
  have HCV : Hid (∀ X, Below V.heap.size V X → RowM X (.slice am n cm) ms) := hide (fun X hX => (unhide HCO X hX).row)
  go_wp2
  go_loopw [5, 7, 8, 9, 16] (fun y _ _ _ z wr => ∃ (k : Nat) (pl : List Nat), z = .int .i64 k ∧ k ≤ un ∧ Hid (pl.length = k) ∧ Hid (∀ i (h : i < pl.length), ∃ u, us[i]? = some u ∧ AtU ms pl[i] u) ∧ Hid (wr.ownsRow V.heap.size 3 1 y pl.length (flatG cellsI pl)) ∧ Hid (Below V.heap.size V wr)) (fun _ _ _ _ z _ => un - (intOf z).toNat)
  case atStart => exact ⟨0, [], rfl, Nat.zero_le _, hide rfl, hide (fun i h => by simp at h), hide (World.ownsRow_nil _ _ _ _), hide (Below.refl _ _)⟩
  case round =>
    obtain ⟨k, pl, rfl, hk, HPL, HAT, OY, BV⟩ := hrel
    obtain ⟨ay, cy, hy, _⟩ := own_sliceG (unhide OY)
    subst hy
    have hbs := (unhide BV).size
    by_cases hlt : k < un
    · have hlt1 : (k : Int) < (un : Int) := by omega
      have hkl : k < us.length := by rw [unhide HUN]; exact hlt
      obtain ⟨g, off, cap', hv1, hgl, hcell⟩ := RowG.at cells32_len (unhide HUV wr ((unhide BV).mono (by omega))) (j := k) hkl
      injection hv1 with e1 e2 e3
      subst e1
      have c0 := hcell 0 (by omega)
      simp only [cells32, List.getElem?_cons_zero, Nat.add_zero, Nat.mul_one] at c0
      clear e2 e3 hcell
      have hu := unhide HUF us[k] (List.getElem_mem hkl)
      have HUK := hide (List.getElem?_eq_getElem hkl)
      have HUM := hide (List.getElem_mem hkl)
      have q4 := ((unhide KP1).below (unhide BV)).cell 4
      simp only [List.getElem?_toArray, List.getElem?_cons_succ, List.getElem?_cons_zero] at q4
      have HF1 := hide (unhide HFD wr (.slice am n cm) us[k] (unhide HCV wr (unhide BV)) hu (by omega) q4)
      generalize us[k] = u at c0 hu HUK HUM HF1
      generalize hpn : pl.length = pn at OY ⊢
      have HPN := hide hpn
      clear hpn
      go_wp2_with fail
      refine (unhide HF1).mono ?_
      rintro e w2 ⟨⟨i, rfl, HI⟩, b2⟩
      have HIH := hide HI
      have BV2 := hide (belows' (unhide BV) b2)
      have OY2 := hide (own_below (unhide OY) b2)
      have hs2 := (unhide BV2).size
      clear HI b2 BV OY HF1 q4
      by_cases hin : u ∈ uidsM ms
      · rw [decide_eq_true hin]
        have HAI := hide (unhide HIH hin)
        rw [← unhide HPN] at OY2
        obtain ⟨v', Y2, hrun, o2, bb2⟩ := run_appI w2 V.heap.size (.slice ay pl.length cy) pl i 80 (unhide OY2) (by have := unhide HPL; omega) hs2
        have O3 := hide o2
        have B3 := hide ((unhide BV2).trans bb2)
        have HPL2 : Hid ((pl ++ [i]).length = k + 1) := hide (by rw [List.length_append, unhide HPL]; rfl)
        have HAT2 : Hid (∀ i' (h : i' < (pl ++ [i]).length), ∃ u, us[i']? = some u ∧ AtU ms (pl ++ [i])[i'] u) := hide (by
          intro i' h
          rcases Nat.lt_or_ge i' pl.length with h1 | h1
          · rw [List.getElem_append_left h1]; exact unhide HAT i' h1
          · have hik : i' = k := by rw [unhide HPL2] at h; have := unhide HPL; omega
            subst hik
            rw [List.getElem_append_right h1]
            simp only [List.getElem_singleton]
            exact ⟨u, unhide HUK, unhide HAI⟩)
        rw [unhide HPN] at hrun
        clear o2 bb2 hin HIH HAI OY2 BV2 HAT HPL HUK HUM
        go_wp2_with (at_builtin; refine wpList_append_runB (by rfl) _ _ 80 rfl rfl rfl rfl hrun ?_)
        exact ⟨⟨k + 1, pl ++ [i], by go_num, by omega, HPL2, HAT2, O3, B3⟩, by simp [intOf]; omega⟩
      · rw [decide_eq_false hin]
        have haf := (unhide HALL).2 u (unhide HUM) hin
        obtain ⟨r1, r2, r3⟩ := (unhide HMB).2 haf
        subst r1 r2 r3
        have R1 := hide (unhide HCO w2 (unhide BV2))
        have R0 := hide ((unhide KP1).below (unhide BV2))
        have R3 := hide ((unhide HAA).trans ((unhide BV2).mono (by omega)))
        clear hin HIH OY2 BV2 haf HAT HPL HUK HUM
        go_wp2
        go_ret
        rw [← unhide HBB]
        exact ⟨rfl, _, _, unhide R0, unhide R1, OutT.nil _, unhide R3⟩
    · have hlt1 : ¬ (k : Int) < (un : Int) := by omega
      have hke : k = un := by omega
      have hpu : pl.length = un := by rw [unhide HPL]; exact hke
      have hat := (unhide HALL).1 pl (by rw [hpu]) (unhide HAT)
      obtain ⟨r1, r2, r3⟩ := (unhide HMB).1 hat
      replace r2 := r2.symm
      subst r1 r2 r3
      have HMP := hide (unhide HMAP pl (by rw [hpu]) (unhide HAT))
      have HPLT : Hid (∀ i (h : i < pl.length), pl[i] < n) := hide (fun i h => by
        obtain ⟨u, _, m, hm, _⟩ := unhide HAT i h
        have := (List.getElem?_eq_some_iff.1 hm).1
        rw [unhide HNN] at this
        exact this)
      have KPA := hide ((unhide KP1).below (unhide BV))
      have KQA := hide ((unhide HKQ).below (unhide BV))
      have OMA := hide (own_below (unhide OM1) (unhide BV))
      have BWA := hide ((unhide HAA).trans ((unhide BV).mono (by omega)))
      have HUA : Hid (∀ X, Below B wr X → Row32 X (.slice au un cu) us) := hide (fun X hX => unhide HUV X (((unhide BV).mono (by omega)).trans hX))
      rw [hpu] at OY ⊢
      have HPU := hide hpu
      clear hpu hke hat HAT HMAP HALL HMB KP1 HKQ OM1 BV HUV HAA HCV HCO HFD HPL k1
      clear hk hlt hbs
      generalize V.heap.size = VS at OY hVs
      go_wp2
      clear hlt1
      generalize wr = V2 at KPA KQA OMA BWA HUA OY ⊢
      go_loopw [11, 12, 35] (fun _ _ z wx => ∃ k : Nat, z = .int .i64 k ∧ k ≤ un ∧ Hid (Blk wx P 61 #[.int .u32 (va : Int), .int .u64 (nx : Int), .int .u32 (mr : Int), .int .u32 (la : Int), .slice am n cm, .slice none 0 0]) ∧ Hid (Blk wx Q 33 #[.int .u8 (kd : Int), .slice au un cu, .int .u8 (fl : Int), .int .i64 dy, .int .i64 sc, .int .i64 zn, .string raw]) ∧ Hid (wx.ownsRow C0 47 6 (.slice am n cm) n (flatG msC (mkL ⟨kd, us, fl, dy, sc, zn, raw⟩ ms (pl.take k)))) ∧ Hid (wx.ownsRow VS 3 1 (.slice ay un cy) un (flatG cellsI pl)) ∧ Hid (Below B V2 wx)) (fun _ _ z _ => un - (intOf z).toNat)
      case atStart => exact ⟨0, rfl, Nat.zero_le _, KPA, KQA, hide (by rw [List.take_zero, unhide HL0]; exact unhide OMA), OY, hide (Below.refl _ _)⟩
      case round =>
        obtain ⟨k, rfl, hk, KPX, KQX, OMX, OYX, BX⟩ := hrel
        clear KPA KQA OMA OY
        by_cases hlt : k < un
        · have hlt1 : (k : Int) < (un : Int) := by omega
          have hkp : k < pl.length := by rw [unhide HPU]; exact hlt
          have oy := unhide OYX
          rw [← unhide HPU] at oy
          obtain ⟨gp, cpp, hvp, _, hgp, hcp, _⟩ := ownG_at cellsI_len oy hkp
          rw [unhide HPU] at hvp
          injection hvp with e1 e2 e3
          subst e1
          have c0 := hcp 0 (by omega)
          simp only [cellsI, List.getElem?_cons_zero, Nat.add_zero, Nat.mul_one] at c0
          have hpn := unhide HPLT k hkp
          have HTK : Hid (pl.take (k + 1) = pl.take k ++ [pl[k]]) := hide (by rw [List.take_succ_eq_append_getElem hkp])
          clear hcp oy e2 e3
          generalize pl[k] = p at c0 hpn HTK
          have HSK := hide (unhide HSN (pl.take k) p)
          rw [← unhide HTK] at HSK
          have hll := unhide HLL (pl.take k)
          have hfl2 := unhide HLF (pl.take k)
          have HFK := hide hfl2
          generalize hLK : mkL (⟨kd, us, fl, dy, sc, zn, raw⟩ : Chg) ms (pl.take k) = LK at OMX HSK hll HFK
          clear hLK hfl2
          have hpl : p < LK.length := by omega
          have om := unhide OMX
          rw [← hll] at om
          obtain ⟨g, cpm, hvm, hBg, hgm, hcm2, hfz⟩ := ownG_at msC_len om hpl
          rw [hll] at hvm
          injection hvm with e1 e2 e3
          subst e1
          have d1 := hcm2 1 (by omega)
          have f1 := hfz (p * 6 + 1)
          have hmf := (unhide HFK _ (List.getElem_mem hpl)).2.1
          have HGET := hide (show ∀ u, (flatG msC LK).set (p * 6 + 1) (.int .u8 (u : Nat)) = flatG msC (LK.set p ⟨LK[p].uid, u, LK[p].dy, LK[p].sc, LK[p].zn, LK[p].raw⟩) from fun u => flatG_set msC_len LK p hpl _ 1 (by omega) _ rfl)
          have HMD : Hid (LK.modify p (mkM ⟨kd, us, fl, dy, sc, zn, raw⟩) = LK.set p ⟨LK[p].uid, markF kd LK[p].fl fl, LK[p].dy, LK[p].sc, LK[p].zn, LK[p].raw⟩) := hide (by
            rw [modify_set hpl]
            rfl)
          have d1b : wr.cell? ⟨g, p * 6 + 1, none⟩ = some (.int .u8 (LK[p].fl : Int)) := d1
          have HMC := hide (fun X => unhide HMF LK[p].fl X hmf)
          have HGE2 := hide (unhide HGET (markF kd LK[p].fl fl))
          rw [← unhide HMD, ← unhide HSK] at HGE2
          have hmle := markF_le (k := kd) hmf hfl
          generalize LK[p].fl = h0 at d1b HMC HGE2 hmle
          generalize markF kd h0 fl = h1 at HMC HGE2 hmle
          have hgP : g ≠ P := fun e => own_neT om (unhide KPX) (by decide) (by rw [← e]; rfl)
          have hgQ : g ≠ Q := fun e => own_neT om (unhide KQX) (by decide) (by rw [← e]; rfl)
          have hst := ((unhide OMX).stored (p * 6 + 1) (.int .u8 (h1 : Int))).1
          rw [unhide HGE2] at hst
          have HST := hide hst
          have hoy := (unhide OYX).kept (w' := wr.setCell ⟨g, p * 6 + 1, none⟩ (.int .u8 (h1 : Int))) (row := some g) ⟨rfl, rfl, rfl, by simp, fun k hk hne2 => Below.heap_setCell _ _ _ _ (fun e => hne2 (by rw [e]))⟩ (own_two (unhide OYX) (unhide OMX) (by decide))
          have HOY := hide hoy
          have KP2 := hide ((unhide KPX).other (a := ⟨g, p * 6 + 1, none⟩) (fun e => hgP e.symm) (.int .u8 (h1 : Int)))
          have KQ2 := hide ((unhide KQX).other (a := ⟨g, p * 6 + 1, none⟩) (fun e => hgQ e.symm) (.int .u8 (h1 : Int)))
          have BX2 := hide ((unhide BX).setCell (p := ⟨g, p * 6 + 1, none⟩) (show B ≤ g by omega) (.int .u8 (h1 : Int)))
          have q4 := (unhide KPX).cell 4
          have s0 := (unhide KQX).cell 0
          have s2 := (unhide KQX).cell 2
          simp only [List.getElem?_toArray, List.getElem?_cons_succ, List.getElem?_cons_zero] at q4 s0 s2
          have s0b := (unhide KQ2).cell 0
          have s2b := (unhide KQ2).cell 2
          simp only [List.getElem?_toArray, List.getElem?_cons_succ, List.getElem?_cons_zero] at s0b s2b
          have hpi : (p : Int) < (n : Int) := by omega
          clear hst hoy om hcm2 hfz d1 HGET HGE2 HMD hgP hgQ HSK HFK hll OMX OYX KPX KQX BX hmf hpl
          go_upto_region 14 with (fail)
          refine wp_region_held_drew (S := (fun w' => (w'.cell? ⟨Q, 0, none⟩ = some (.int .u8 (kd : Int)) ∧ w'.cell? ⟨Q, 2, none⟩ = some (.int .u8 (fl : Int))))) (by kernel_rfl) ?_ (fun hHeld => ?_)
          · exact ⟨s0, s2⟩
          refine wpAnyH_take (i := 0) (v := .pointer (some ⟨g, p * 6, none⟩)) rfl (by kernel_rfl) (by kernel_rfl) (by kernel_rfl) (fun _ _ _ h => h) (Or.inl ⟨by kernel_rfl, fun wS hSw => ?_⟩) (by assumption) ?_
          · (try dsimp only at hSw); go_simp
          (try simp only [Act.put, List.setIfInBounds_toArray, List.set_cons_zero, List.set_cons_succ])
          refine wpAnyH_take (i := 1) (v := .pointer (some ⟨Q, 0, none⟩)) rfl (by kernel_rfl) (by kernel_rfl) (by kernel_rfl) (fun _ _ _ h => h) (Or.inl ⟨by kernel_rfl, fun wS hSw => ?_⟩) (by assumption) ?_
          · (try dsimp only at hSw); go_simp
          (try simp only [Act.put, List.setIfInBounds_toArray, List.set_cons_zero, List.set_cons_succ])
          refine wpAnyH_take (i := 2) (v := .int .u8 (kd : Int)) rfl (by kernel_rfl) (by kernel_rfl) (by kernel_rfl) (fun _ _ _ h => h) (Or.inl ⟨by kernel_rfl, fun wS hSw => ?_⟩) (by assumption) ?_
          · (try dsimp only at hSw); go_simp
          (try simp only [Act.put, List.setIfInBounds_toArray, List.set_cons_zero, List.set_cons_succ])
          refine wpAnyH_take (i := 3) (v := .pointer (some ⟨g, p * 6, none⟩)) rfl (by kernel_rfl) (by kernel_rfl) (by kernel_rfl) (fun _ _ _ h => h) (Or.inl ⟨by kernel_rfl, fun wS hSw => ?_⟩) (by assumption) ?_
          · (try dsimp only at hSw); go_simp
          (try simp only [Act.put, List.setIfInBounds_toArray, List.set_cons_zero, List.set_cons_succ])
          refine wpAnyH_take (i := 4) (v := .pointer (some ⟨g, p * 6, none⟩)) rfl (by kernel_rfl) (by kernel_rfl) (by kernel_rfl) (fun _ _ _ h => h) (Or.inl ⟨by kernel_rfl, fun wS hSw => ?_⟩) (by assumption) ?_
          · (try dsimp only at hSw); go_simp
          (try simp only [Act.put, List.setIfInBounds_toArray, List.set_cons_zero, List.set_cons_succ])
          refine wpAnyH_take (i := 5) (v := .pointer (some ⟨g, p * 6 + 1, none⟩)) rfl (by kernel_rfl) (by kernel_rfl) (by kernel_rfl) (fun _ _ _ h => h) (Or.inl ⟨by kernel_rfl, fun wS hSw => ?_⟩) (by assumption) ?_
          · (try dsimp only at hSw); go_simp
          (try simp only [Act.put, List.setIfInBounds_toArray, List.set_cons_zero, List.set_cons_succ])
          refine wpAnyH_take (i := 7) (v := .pointer (some ⟨Q, 2, none⟩)) rfl (by kernel_rfl) (by kernel_rfl) (by kernel_rfl) (fun _ _ _ h => h) (Or.inl ⟨by kernel_rfl, fun wS hSw => ?_⟩) (by assumption) ?_
          · (try dsimp only at hSw); go_simp
          (try simp only [Act.put, List.setIfInBounds_toArray, List.set_cons_zero, List.set_cons_succ])
          refine wpAnyH_take (i := 8) (v := .int .u8 (fl : Int)) rfl (by kernel_rfl) (by kernel_rfl) (by kernel_rfl) (fun _ _ _ h => h) (Or.inl ⟨by kernel_rfl, fun wS hSw => ?_⟩) (by assumption) ?_
          · (try dsimp only at hSw); go_simp
          (try simp only [Act.put, List.setIfInBounds_toArray, List.set_cons_zero, List.set_cons_succ])
          refine wpAnyH_ready (rs := [6]) (by kernel_rfl) (by simp) ?_
          refine AllReadyH.cons rfl (fun K hK => ?_) AllReadyH.nil
          go_simp
          refine hK.out _ _ ?_ (fun hHeld => ?_)
          · exact ⟨s0, s2⟩
          clear hK K
          (try simp only [Act.put, List.setIfInBounds_toArray, List.set_cons_zero, List.set_cons_succ])
          refine wpAnyH_ready (rs := [9]) (by kernel_rfl) (by simp) ?_
          refine AllReadyH.cons rfl (fun K hK => ?_) AllReadyH.nil
          go_simp
          refine (unhide HMC _).mono ?_
          rintro e w6 ⟨rfl, h6⟩
          subst h6
          go_wp2_with fail
          refine hK.out _ _ ?_ (fun hHeld => ?_)
          · exact ⟨s0, s2⟩
          clear hK K
          (try simp only [Act.put, List.setIfInBounds_toArray, List.set_cons_zero, List.set_cons_succ])
          refine wpAnyH_take (i := 10) (v := .pointer (some ⟨g, p * 6, none⟩)) rfl (by kernel_rfl) (by kernel_rfl) (by kernel_rfl) (fun _ _ _ h => h) (Or.inl ⟨by kernel_rfl, fun wS hSw => ?_⟩) (by assumption) ?_
          · (try dsimp only at hSw); go_simp
          (try simp only [Act.put, List.setIfInBounds_toArray, List.set_cons_zero, List.set_cons_succ])
          refine wpAnyH_take (i := 11) (v := .pointer (some ⟨g, p * 6 + 1, none⟩)) rfl (by kernel_rfl) (by kernel_rfl) (by kernel_rfl) (fun _ _ _ h => h) (Or.inl ⟨by kernel_rfl, fun wS hSw => ?_⟩) (by assumption) ?_
          · (try dsimp only at hSw); go_simp
          (try simp only [Act.put, List.setIfInBounds_toArray, List.set_cons_zero, List.set_cons_succ])
          refine wpAnyH_ready (rs := [12]) (by kernel_rfl) (by simp) ?_
          refine AllReadyH.cons rfl (fun K hK => ?_) AllReadyH.nil
          go_simp
          refine hK.out _ _ ?_ (fun hHeld => ?_)
          · exact ⟨s0b, s2b⟩
          clear hK K
          (try simp only [Act.put, List.setIfInBounds_toArray, List.set_cons_zero, List.set_cons_succ])
          refine wpAnyH_done (by kernel_rfl) ?_ _
          clear hHeld
          go_wp2
          exact ⟨⟨k + 1, by go_num, by omega, KP2, KQ2, HST, HOY, hide ⟨(unhide BX2).os, (unhide BX2).tape, (unhide BX2).output, (unhide BX2).size, (unhide BX2).block⟩⟩, by simp [intOf]; omega⟩
        · have hlt1 : ¬ (k : Int) < (un : Int) := by omega
          have hke : k = un := by omega
          have htk : pl.take k = pl := List.take_of_length_le (by rw [unhide HPU]; omega)
          rw [htk, unhide HMP] at OMX
          have q1 := (unhide KQX).cell 1
          simp only [List.getElem?_toArray, List.getElem?_cons_succ, List.getElem?_cons_zero] at q1
          have HCL := hide (bclone32_any (.slice au un cu) us wr (by have := unhide HUN; omega) (unhide HUA wr (unhide BX)))
          have hbx := (unhide BX).size
          clear hke htk hlt OYX
          go_wp2_with fail
          refine (unhide HCL).mono ?_
          rintro e w5 ⟨v5, rfl, o5, b5⟩
          obtain ⟨a5, c5, rfl, _⟩ := own_sliceG o5
          have k5 := (unhide KPX).below b5
          have m5 := own_below (unhide OMX) b5
          have t0 := k5.cell 5
          have t1 := k5.frozen 5
          simp only [List.getElem?_toArray, List.getElem?_cons_succ, List.getElem?_cons_zero] at t0
          rw [unhide HUN]
          have R0 := hide (k5.set 5 (.slice a5 un c5))
          have m6 := own_setT (i := 5) (u := .slice a5 un c5) m5 k5 (by decide)
          have o6 := own_setT (i := 5) (u := .slice a5 un c5) o5 k5 (by decide)
          have hlm : (ms.map (markM ⟨kd, us, fl, dy, sc, zn, raw⟩)).length = n := by rw [List.length_map]; exact unhide HNN
          rw [← hlm] at m6
          have R1 := hide (show OutM _ _ (ms.map (markM ⟨kd, us, fl, dy, sc, zn, raw⟩)) from ⟨own_zero m6, (fun m hm => unhide HLF pl m (by rw [unhide HMP]; exact hm)), by rw [hlm]; omega⟩)
          rw [hlm] at R1
          have R2 := hide (show OutT _ _ us from ⟨own_zero o6, unhide HUF, by rw [unhide HUN]; omega⟩)
          rw [unhide HUN] at R2
          have R3 := hide (((unhide BWA).trans ((unhide BX).trans (b5.mono (by have := (unhide BWA).size; omega)))).setCell (p := ⟨P, 5, none⟩) hP (.slice a5 un c5))
          clear o5 b5 k5 m5 m6 o6 hlm HCL KPX KQX OMX BX
          go_wp2
          go_ret
          rw [← unhide HBB]
          exact ⟨rfl, _, _, unhide R0, unhide R1, unhide R2, unhide R3⟩
end Go.Proofs.YtnhcpkcpgpobdaaDoor
