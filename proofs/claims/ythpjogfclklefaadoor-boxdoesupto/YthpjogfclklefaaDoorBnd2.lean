/-
  What (*box.work).mark does, over this seat's program.
-/
import Derived.Test.YthpjogfclklefaaDoorBnd1
import Derived.Test.YthpjogfclklefaaDoorBck
set_option linter.unusedVariables false
set_option linter.unusedSimpArgs false
namespace Go.Proofs.YthpjogfclklefaaDoor
open Go.RowKit

theorem modify_set {l : List Msg} {i : Nat} {f : Msg → Msg} (h : i < l.length) : l.modify i f = l.set i (f l[i]) := by
  apply List.ext_getElem (by simp)
  intro k h1 h2
  rw [List.getElem_modify, List.getElem_set]
  split <;> simp_all

set_option maxHeartbeats 8000000 in
set_option maxRecDepth 100000 in
theorem mark_any (P C0 B : Nat) (b : Bx) (c : Chg) (vm vc : Value) (W : World)
    (KP : Blk W P 57 (wkC b vm (.slice none 0 0)))
    (OM : W.ownsRow C0 47 6 vm b.ms.length (flatG msC b.ms)) (hfm : ∀ m ∈ b.ms, FitM m) (hn : b.ms.length ≤ 4096) (hr : (uidsM b.ms).Pairwise (· < ·))
    (hfc : FitC c) (HU0 : ∀ X, Below B W X → Row32 X vc c.us) (hus : c.us.Pairwise (· < ·)) (hul : c.us.length ≤ 65536) (hP : B ≤ P) (hC : B ≤ C0) (hB : B ≤ W.heap.size) :
    Calls Tryd.prog 40 #[.pointer (some ⟨P, 0, none⟩), chV c vc] W fun e W' => e = .returned (.int .i64 (markE b c : Int)) ∧ ∃ vm' vt', Blk W' P 57 (wkC (markB b c) vm' vt') ∧ OutM W' vm' (markB b c).ms ∧ OutT W' vt' (markT b c) ∧ Below B W W' := by
  have HFC := hide hfc
  obtain ⟨hkd, hfl, _⟩ := hfc
  have hvc := HU0 W (Below.refl _ _)
  have HUF := hide hvc.choose_spec.choose_spec.2.2.1
  obtain ⟨au, cu, rfl, _, _, _⟩ := hvc
  obtain ⟨am, cm, rfl, hcm⟩ := own_sliceG OM
  have hPW := KP.lt
  have HMAP : Hid (∀ pl : List Nat, pl.length = c.us.length → (∀ i (h : i < pl.length), ∃ u, c.us[i]? = some u ∧ AtU b.ms pl[i] u) → mkL c b.ms pl = b.ms.map (markM c)) := hide (fun pl h1 h2 => mkL_all hr hus h1 h2)
  have HALL : Hid ((∀ pl : List Nat, pl.length = c.us.length → (∀ i (h : i < pl.length), ∃ u, c.us[i]? = some u ∧ AtU b.ms pl[i] u) → allIn b c = true) ∧ (∀ u ∈ c.us, u ∉ uidsM b.ms → allIn b c = false)) := hide (by
    constructor
    · intro pl h1 h2
      unfold allIn
      rw [List.all_eq_true]
      intro u hu
      obtain ⟨k, hk, rfl⟩ := List.getElem_of_mem hu
      obtain ⟨v, hv, m, hm, hmu⟩ := h2 k (by omega)
      rw [List.getElem?_eq_getElem hk] at hv
      injection hv with hv
      rw [decide_eq_true_eq, hv]
      exact List.mem_map.2 ⟨m, List.mem_of_getElem? hm, hmu⟩
    · intro u hu hnot
      unfold allIn
      rw [List.all_eq_false]
      exact ⟨u, hu, by simpa using hnot⟩)
  have HMB : Hid ((allIn b c = true → markE b c = 0 ∧ markT b c = c.us ∧ markB b c = ⟨b.va, b.nx, b.mr, b.la, b.ms.map (markM c)⟩) ∧ (allIn b c = false → markE b c = 3 ∧ markT b c = [] ∧ markB b c = b)) := hide (by
    unfold markE markT markB
    exact ⟨fun h => by rw [h]; exact ⟨rfl, rfl, rfl⟩, fun h => by rw [h]; exact ⟨rfl, rfl, rfl⟩⟩)
  have HLF : Hid (∀ (r : List Nat) (m : Msg), m ∈ mkL c b.ms r → FitM m) := hide (fun r m hm => mkL_fit hfl r hfm m hm)
  have HLL : Hid (∀ r : List Nat, (mkL c b.ms r).length = b.ms.length) := hide (fun r => mkL_len c r _)
  have HSN : Hid (∀ (r : List Nat) (i : Nat), mkL c b.ms (r ++ [i]) = (mkL c b.ms r).modify i (mkM c)) := hide (fun r i => mkL_snoc c r _ i)
  have HMK : Hid (∀ m : Msg, mkM c m = ⟨m.uid, markF c.kd m.fl c.fl, m.dy, m.sc, m.zn, m.raw⟩) := hide (fun m => rfl)
  have HMF := hide (fun (h : Nat) (X : World) (hh : h ≤ 255) => marked_any c.kd h c.fl X hkd hh hfl)
  have HL0 : Hid (mkL c b.ms [] = b.ms) := hide rfl
  obtain ⟨va, nx, mr, la, ms⟩ := b
  simp only at OM hfm hn hr HMAP HLF HLL HSN HL0 KP HALL
  simp only [wkC] at KP
  have HFD := hide (fun X v u (hR : RowM X v ms) (hu : u ≤ 4294967295) (hp : P < X.heap.size) (hc : X.cell? ⟨P, 4, none⟩ = some v) => wfind_any P v ms u X hR hu (by omega) hr hp hc)
  generalize hG : (⟨va, nx, mr, la, ms⟩ : Bx) = bb at HMB HALL ⊢
  have HBB := hide hG
  clear hG
  generalize hE : markE bb c = ME at HMB ⊢
  generalize hT : markT bb c = MT at HMB ⊢
  generalize hBM : markB bb c = MB at HMB ⊢
  clear hE hT hBM
  generalize allIn bb c = AI at HMB HALL
  have hA : Below W.heap.size W (W.alloc (.cells #[.int .u8 (c.kd : Int), .slice au c.us.length cu, .int .u8 (c.fl : Int), .int .i64 c.dy, .int .i64 c.sc, .int .i64 c.zn, .string c.raw] 33)) := (Below.refl _ W).alloc (Nat.le_refl _) _
  have KQ := Blk.new W 33 #[.int .u8 (c.kd : Int), .slice au c.us.length cu, .int .u8 (c.fl : Int), .int .i64 c.dy, .int .i64 c.sc, .int .i64 c.zn, .string c.raw]
  have KP1 := hide (KP.below hA)
  have OM1 := hide (own_below OM hA)
  have HUV : Hid (∀ X, Below B (W.alloc (.cells #[.int .u8 (c.kd : Int), .slice au c.us.length cu, .int .u8 (c.fl : Int), .int .i64 c.dy, .int .i64 c.sc, .int .i64 c.zn, .string c.raw] 33)) X → Row32 X (.slice au c.us.length cu) c.us) := hide (fun X hX => HU0 X ((hA.mono hB).trans hX))
  have HAA := hide (hA.mono hB)
  have hQ : P ≠ W.heap.size := by omega
  have hBQ : B ≤ W.heap.size := hB
  obtain ⟨kd, us, fl, dy, sc, zn, raw⟩ := c
  simp only [chV, chC]
  simp only at HUV HMAP HALL HMB HMK HMF hul hus HUF KQ KP1 OM1 HAA hkd hfl
  obtain ⟨un, hun⟩ : ∃ un, us.length = un := ⟨_, rfl⟩
  obtain ⟨n, hnn⟩ : ∃ n, ms.length = n := ⟨_, rfl⟩
  rw [hun] at HUV KQ KP1 OM1 HAA hul HMAP HALL ⊢
  rw [hnn] at KP1 OM1 hn HLL hcm
  have HUN := hide hun
  have HNN := hide hnn
  have HKQ := hide KQ
  have k1 := KQ.cell 1
  simp only [List.getElem?_toArray, List.getElem?_cons_succ, List.getElem?_cons_zero] at k1
  clear hun hnn KQ KP OM hA hr hus hfm HU0
  go_enter Tryd.func40, Tryd.ntmps40
  go_upto_region 2 with (fail)
  generalize hV : W.alloc (.cells #[.int .u8 (kd : Int), .slice au un cu, .int .u8 (fl : Int), .int .i64 dy, .int .i64 sc, .int .i64 zn, .string raw] 33) = V at k1 HKQ KP1 OM1 HUV HAA ⊢
  have hVs : V.heap.size = W.heap.size + 1 := by rw [← hV, World.size_alloc]
  generalize W.heap.size = Q at HKQ k1 hVs hQ hBQ hPW ⊢
  clear hV
  have HCO : Hid (∀ X, Below V.heap.size V X → OutM X (.slice am n cm) ms) := hide (fun X hX => ⟨own_zero (by have h := own_below (unhide OM1) hX; rw [← unhide HNN] at h ⊢; exact h), (fun m hm => unhide HLF [] m (by rw [unhide HL0]; exact hm)), by have := unhide HNN; omega⟩)
  have HCV : Hid (∀ X, Below V.heap.size V X → RowM X (.slice am n cm) ms) := hide (fun X hX => (unhide HCO X hX).row)
  go_wp2
  go_loopw [5, 7, 8, 9, 16] (fun y _ _ _ z wr => ∃ (k : Nat) (pl : List Nat), z = .int .i64 k ∧ k ≤ un ∧ Hid (pl.length = k) ∧ Hid (∀ i (h : i < pl.length), ∃ u, us[i]? = some u ∧ AtU ms pl[i] u) ∧ Hid (wr.ownsRow V.heap.size 3 1 y pl.length (flatG cellsI pl)) ∧ Hid (Below V.heap.size V wr)) (fun _ _ _ _ z _ => un - (intOf z).toNat)
  case atStart => exact ⟨0, [], rfl, Nat.zero_le _, hide rfl, hide (fun i h => by simp at h), hide (World.ownsRow_nil _ _ _ _), hide (Below.refl _ _)⟩
  case round =>
    obtain ⟨k, pl, rfl, hk, HPL, HAT, OY, BV⟩ := hrel
    obtain ⟨ay, cy, hy, _⟩ := own_sliceG (unhide OY)
    subst hy
    have hbs := (unhide BV).size
    by_cases hlt : k < un
    · have hlt1 : (k : Int) < (un : Int) := by omega
      have hkl : k < us.length := by rw [unhide HUN]; exact hlt
      obtain ⟨g, off, cap', hv1, hgl, hcell⟩ := RowG.at cells32_len (unhide HUV wr ((unhide BV).mono (by omega))) (j := k) hkl
      injection hv1 with e1 e2 e3
      subst e1
      have c0 := hcell 0 (by omega)
      simp only [cells32, List.getElem?_cons_zero, Nat.add_zero, Nat.mul_one] at c0
      clear e2 e3 hcell
      have hu := unhide HUF us[k] (List.getElem_mem hkl)
      have HUK := hide (List.getElem?_eq_getElem hkl)
      have HUM := hide (List.getElem_mem hkl)
      have q4 := ((unhide KP1).below (unhide BV)).cell 4
      simp only [List.getElem?_toArray, List.getElem?_cons_succ, List.getElem?_cons_zero] at q4
      have HF1 := hide (unhide HFD wr (.slice am n cm) us[k] (unhide HCV wr (unhide BV)) hu (by omega) q4)
      generalize us[k] = u at c0 hu HUK HUM HF1
      generalize hpn : pl.length = pn at OY ⊢
      have HPN := hide hpn
      clear hpn
      go_wp2_with fail
      refine (unhide HF1).mono ?_
      rintro e w2 ⟨⟨i, rfl, HI⟩, b2⟩
      have HIH := hide HI
      have BV2 := hide (belows' (unhide BV) b2)
      have OY2 := hide (own_below (unhide OY) b2)
      have hs2 := (unhide BV2).size
      clear HI b2 BV OY HF1 q4
      by_cases hin : u ∈ uidsM ms
      · rw [decide_eq_true hin]
        have HAI := hide (unhide HIH hin)
        rw [← unhide HPN] at OY2
        obtain ⟨v', Y2, hrun, o2, bb2⟩ := run_appI w2 V.heap.size (.slice ay pl.length cy) pl i 77 (unhide OY2) (by have := unhide HPL; omega) hs2
        have O3 := hide o2
        have B3 := hide ((unhide BV2).trans bb2)
        have HPL2 : Hid ((pl ++ [i]).length = k + 1) := hide (by rw [List.length_append, unhide HPL]; rfl)
        have HAT2 : Hid (∀ i' (h : i' < (pl ++ [i]).length), ∃ u, us[i']? = some u ∧ AtU ms (pl ++ [i])[i'] u) := hide (by
          intro i' h
          rcases Nat.lt_or_ge i' pl.length with h1 | h1
          · rw [List.getElem_append_left h1]; exact unhide HAT i' h1
          · have hik : i' = k := by rw [unhide HPL2] at h; have := unhide HPL; omega
            subst hik
            rw [List.getElem_append_right h1]
            simp only [List.getElem_singleton]
            exact ⟨u, unhide HUK, unhide HAI⟩)
        rw [unhide HPN] at hrun
        clear o2 bb2 hin HIH HAI OY2 BV2 HAT HPL HUK HUM
        go_wp2_with (at_builtin; refine wpList_append_runB (by rfl) _ _ 77 rfl rfl rfl rfl hrun ?_)
        exact ⟨⟨k + 1, pl ++ [i], by go_num, by omega, HPL2, HAT2, O3, B3⟩, by simp [intOf]; omega⟩
      · rw [decide_eq_false hin]
        have haf := (unhide HALL).2 u (unhide HUM) hin
        obtain ⟨r1, r2, r3⟩ := (unhide HMB).2 haf
        subst r1 r2 r3
        have R1 := hide (unhide HCO w2 (unhide BV2))
        have R0 := hide ((unhide KP1).below (unhide BV2))
        have R3 := hide ((unhide HAA).trans ((unhide BV2).mono (by omega)))
        clear hin HIH OY2 BV2 haf HAT HPL HUK HUM
        go_wp2
        go_ret
        rw [← unhide HBB]
        exact ⟨rfl, _, _, unhide R0, unhide R1, OutT.nil _, unhide R3⟩
    · have hlt1 : ¬ (k : Int) < (un : Int) := by omega
      have hke : k = un := by omega
      have hpu : pl.length = un := by rw [unhide HPL]; exact hke
      have hat := (unhide HALL).1 pl (by rw [hpu]) (unhide HAT)
      obtain ⟨r1, r2, r3⟩ := (unhide HMB).1 hat
      replace r2 := r2.symm
      subst r1 r2 r3
      have HMP := hide (unhide HMAP pl (by rw [hpu]) (unhide HAT))
      have HPLT : Hid (∀ i (h : i < pl.length), pl[i] < n) := hide (fun i h => by
        obtain ⟨u, _, m, hm, _⟩ := unhide HAT i h
        have := (List.getElem?_eq_some_iff.1 hm).1
        rw [unhide HNN] at this
        exact this)
      have KPA := hide ((unhide KP1).below (unhide BV))
      have KQA := hide ((unhide HKQ).below (unhide BV))
      have OMA := hide (own_below (unhide OM1) (unhide BV))
      have BWA := hide ((unhide HAA).trans ((unhide BV).mono (by omega)))
      have HUA : Hid (∀ X, Below B wr X → Row32 X (.slice au un cu) us) := hide (fun X hX => unhide HUV X (((unhide BV).mono (by omega)).trans hX))
      rw [hpu] at OY ⊢
      have HPU := hide hpu
      clear hpu hke hat HAT HMAP HALL HMB KP1 HKQ OM1 BV HUV HAA HCV HCO HFD HPL k1
      clear hk hlt hbs
      generalize V.heap.size = VS at OY hVs
      go_wp2
      clear hlt1
      generalize wr = V2 at KPA KQA OMA BWA HUA OY ⊢
      go_loopw [11, 12, 35] (fun _ _ z wx => ∃ k : Nat, z = .int .i64 k ∧ k ≤ un ∧ Hid (Blk wx P 57 #[.int .u32 (va : Int), .int .u64 (nx : Int), .int .u32 (mr : Int), .int .u32 (la : Int), .slice am n cm, .slice none 0 0]) ∧ Hid (Blk wx Q 33 #[.int .u8 (kd : Int), .slice au un cu, .int .u8 (fl : Int), .int .i64 dy, .int .i64 sc, .int .i64 zn, .string raw]) ∧ Hid (wx.ownsRow C0 47 6 (.slice am n cm) n (flatG msC (mkL ⟨kd, us, fl, dy, sc, zn, raw⟩ ms (pl.take k)))) ∧ Hid (wx.ownsRow VS 3 1 (.slice ay un cy) un (flatG cellsI pl)) ∧ Hid (Below B V2 wx)) (fun _ _ z _ => un - (intOf z).toNat)
      case atStart => exact ⟨0, rfl, Nat.zero_le _, KPA, KQA, hide (by rw [List.take_zero, unhide HL0]; exact unhide OMA), OY, hide (Below.refl _ _)⟩
      case round =>
        obtain ⟨k, rfl, hk, KPX, KQX, OMX, OYX, BX⟩ := hrel
        clear KPA KQA OMA OY
        by_cases hlt : k < un
        · have hlt1 : (k : Int) < (un : Int) := by omega
          have hkp : k < pl.length := by rw [unhide HPU]; exact hlt
          have oy := unhide OYX
          rw [← unhide HPU] at oy
          obtain ⟨gp, cpp, hvp, _, hgp, hcp, _⟩ := ownG_at cellsI_len oy hkp
          rw [unhide HPU] at hvp
          injection hvp with e1 e2 e3
          subst e1
          have c0 := hcp 0 (by omega)
          simp only [cellsI, List.getElem?_cons_zero, Nat.add_zero, Nat.mul_one] at c0
          have hpn := unhide HPLT k hkp
          have HTK : Hid (pl.take (k + 1) = pl.take k ++ [pl[k]]) := hide (by rw [List.take_succ_eq_append_getElem hkp])
          clear hcp oy e2 e3
          generalize pl[k] = p at c0 hpn HTK
          have HSK := hide (unhide HSN (pl.take k) p)
          rw [← unhide HTK] at HSK
          have hll := unhide HLL (pl.take k)
          have hfl2 := unhide HLF (pl.take k)
          have HFK := hide hfl2
          generalize hLK : mkL (⟨kd, us, fl, dy, sc, zn, raw⟩ : Chg) ms (pl.take k) = LK at OMX HSK hll HFK
          clear hLK hfl2
          have hpl : p < LK.length := by omega
          have om := unhide OMX
          rw [← hll] at om
          obtain ⟨g, cpm, hvm, hBg, hgm, hcm2, hfz⟩ := ownG_at msC_len om hpl
          rw [hll] at hvm
          injection hvm with e1 e2 e3
          subst e1
          have d1 := hcm2 1 (by omega)
          have f1 := hfz (p * 6 + 1)
          have hmf := (unhide HFK _ (List.getElem_mem hpl)).2.1
          have HGET := hide (show ∀ u, (flatG msC LK).set (p * 6 + 1) (.int .u8 (u : Nat)) = flatG msC (LK.set p ⟨LK[p].uid, u, LK[p].dy, LK[p].sc, LK[p].zn, LK[p].raw⟩) from fun u => flatG_set msC_len LK p hpl _ 1 (by omega) _ rfl)
          have HMD : Hid (LK.modify p (mkM ⟨kd, us, fl, dy, sc, zn, raw⟩) = LK.set p ⟨LK[p].uid, markF kd LK[p].fl fl, LK[p].dy, LK[p].sc, LK[p].zn, LK[p].raw⟩) := hide (by
            rw [modify_set hpl]
            rfl)
          have d1b : wr.cell? ⟨g, p * 6 + 1, none⟩ = some (.int .u8 (LK[p].fl : Int)) := d1
          have HMC := hide (fun X => unhide HMF LK[p].fl X hmf)
          have HGE2 := hide (unhide HGET (markF kd LK[p].fl fl))
          rw [← unhide HMD, ← unhide HSK] at HGE2
          have hmle := markF_le (k := kd) hmf hfl
          generalize LK[p].fl = h0 at d1b HMC HGE2 hmle
          generalize markF kd h0 fl = h1 at HMC HGE2 hmle
          have hgP : g ≠ P := fun e => own_neT om (unhide KPX) (by decide) (by rw [← e]; rfl)
          have hgQ : g ≠ Q := fun e => own_neT om (unhide KQX) (by decide) (by rw [← e]; rfl)
          have hst := ((unhide OMX).stored (p * 6 + 1) (.int .u8 (h1 : Int))).1
          rw [unhide HGE2] at hst
          have HST := hide hst
          have hoy := (unhide OYX).kept (w' := wr.setCell ⟨g, p * 6 + 1, none⟩ (.int .u8 (h1 : Int))) (row := some g) ⟨rfl, rfl, rfl, by simp, fun k hk hne2 => Below.heap_setCell _ _ _ _ (fun e => hne2 (by rw [e]))⟩ (own_two (unhide OYX) (unhide OMX) (by decide))
          have HOY := hide hoy
          have KP2 := hide ((unhide KPX).other (a := ⟨g, p * 6 + 1, none⟩) (fun e => hgP e.symm) (.int .u8 (h1 : Int)))
          have KQ2 := hide ((unhide KQX).other (a := ⟨g, p * 6 + 1, none⟩) (fun e => hgQ e.symm) (.int .u8 (h1 : Int)))
          have BX2 := hide ((unhide BX).setCell (p := ⟨g, p * 6 + 1, none⟩) (show B ≤ g by omega) (.int .u8 (h1 : Int)))
          have q4 := (unhide KPX).cell 4
          have s0 := (unhide KQX).cell 0
          have s2 := (unhide KQX).cell 2
          simp only [List.getElem?_toArray, List.getElem?_cons_succ, List.getElem?_cons_zero] at q4 s0 s2
          have s0b := (unhide KQ2).cell 0
          have s2b := (unhide KQ2).cell 2
          simp only [List.getElem?_toArray, List.getElem?_cons_succ, List.getElem?_cons_zero] at s0b s2b
          have hpi : (p : Int) < (n : Int) := by omega
          clear hst hoy om hcm2 hfz d1 HGET HGE2 HMD hgP hgQ HSK HFK hll OMX OYX KPX KQX BX hmf hpl
          go_upto_region 14 with (fail)
          refine wp_region_held_drew (S := (fun w' => (w'.cell? ⟨Q, 0, none⟩ = some (.int .u8 (kd : Int)) ∧ w'.cell? ⟨Q, 2, none⟩ = some (.int .u8 (fl : Int))))) (by kernel_rfl) ?_ (fun hHeld => ?_)
          · exact ⟨s0, s2⟩
          refine wpAnyH_take (i := 0) (v := .pointer (some ⟨g, p * 6, none⟩)) rfl (by kernel_rfl) (by kernel_rfl) (by kernel_rfl) (fun _ _ _ h => h) (Or.inl ⟨by kernel_rfl, fun wS hSw => ?_⟩) (by assumption) ?_
          · (try dsimp only at hSw); go_simp
          (try simp only [Act.put, List.setIfInBounds_toArray, List.set_cons_zero, List.set_cons_succ])
          refine wpAnyH_take (i := 1) (v := .pointer (some ⟨Q, 0, none⟩)) rfl (by kernel_rfl) (by kernel_rfl) (by kernel_rfl) (fun _ _ _ h => h) (Or.inl ⟨by kernel_rfl, fun wS hSw => ?_⟩) (by assumption) ?_
          · (try dsimp only at hSw); go_simp
          (try simp only [Act.put, List.setIfInBounds_toArray, List.set_cons_zero, List.set_cons_succ])
          refine wpAnyH_take (i := 2) (v := .int .u8 (kd : Int)) rfl (by kernel_rfl) (by kernel_rfl) (by kernel_rfl) (fun _ _ _ h => h) (Or.inl ⟨by kernel_rfl, fun wS hSw => ?_⟩) (by assumption) ?_
          · (try dsimp only at hSw); go_simp
          (try simp only [Act.put, List.setIfInBounds_toArray, List.set_cons_zero, List.set_cons_succ])
          refine wpAnyH_take (i := 3) (v := .pointer (some ⟨g, p * 6, none⟩)) rfl (by kernel_rfl) (by kernel_rfl) (by kernel_rfl) (fun _ _ _ h => h) (Or.inl ⟨by kernel_rfl, fun wS hSw => ?_⟩) (by assumption) ?_
          · (try dsimp only at hSw); go_simp
          (try simp only [Act.put, List.setIfInBounds_toArray, List.set_cons_zero, List.set_cons_succ])
          refine wpAnyH_take (i := 4) (v := .pointer (some ⟨g, p * 6, none⟩)) rfl (by kernel_rfl) (by kernel_rfl) (by kernel_rfl) (fun _ _ _ h => h) (Or.inl ⟨by kernel_rfl, fun wS hSw => ?_⟩) (by assumption) ?_
          · (try dsimp only at hSw); go_simp
          (try simp only [Act.put, List.setIfInBounds_toArray, List.set_cons_zero, List.set_cons_succ])
          refine wpAnyH_take (i := 5) (v := .pointer (some ⟨g, p * 6 + 1, none⟩)) rfl (by kernel_rfl) (by kernel_rfl) (by kernel_rfl) (fun _ _ _ h => h) (Or.inl ⟨by kernel_rfl, fun wS hSw => ?_⟩) (by assumption) ?_
          · (try dsimp only at hSw); go_simp
          (try simp only [Act.put, List.setIfInBounds_toArray, List.set_cons_zero, List.set_cons_succ])
          refine wpAnyH_take (i := 7) (v := .pointer (some ⟨Q, 2, none⟩)) rfl (by kernel_rfl) (by kernel_rfl) (by kernel_rfl) (fun _ _ _ h => h) (Or.inl ⟨by kernel_rfl, fun wS hSw => ?_⟩) (by assumption) ?_
          · (try dsimp only at hSw); go_simp
          (try simp only [Act.put, List.setIfInBounds_toArray, List.set_cons_zero, List.set_cons_succ])
          refine wpAnyH_take (i := 8) (v := .int .u8 (fl : Int)) rfl (by kernel_rfl) (by kernel_rfl) (by kernel_rfl) (fun _ _ _ h => h) (Or.inl ⟨by kernel_rfl, fun wS hSw => ?_⟩) (by assumption) ?_
          · (try dsimp only at hSw); go_simp
          (try simp only [Act.put, List.setIfInBounds_toArray, List.set_cons_zero, List.set_cons_succ])
          refine wpAnyH_ready (rs := [6]) (by kernel_rfl) (by simp) ?_
          refine AllReadyH.cons rfl (fun K hK => ?_) AllReadyH.nil
          go_simp
          refine hK.out _ _ ?_ (fun hHeld => ?_)
          · exact ⟨s0, s2⟩
          clear hK K
          (try simp only [Act.put, List.setIfInBounds_toArray, List.set_cons_zero, List.set_cons_succ])
          refine wpAnyH_ready (rs := [9]) (by kernel_rfl) (by simp) ?_
          refine AllReadyH.cons rfl (fun K hK => ?_) AllReadyH.nil
          go_simp
          refine (unhide HMC _).mono ?_
          rintro e w6 ⟨rfl, h6⟩
          subst h6
          go_wp2_with fail
          refine hK.out _ _ ?_ (fun hHeld => ?_)
          · exact ⟨s0, s2⟩
          clear hK K
          (try simp only [Act.put, List.setIfInBounds_toArray, List.set_cons_zero, List.set_cons_succ])
          refine wpAnyH_take (i := 10) (v := .pointer (some ⟨g, p * 6, none⟩)) rfl (by kernel_rfl) (by kernel_rfl) (by kernel_rfl) (fun _ _ _ h => h) (Or.inl ⟨by kernel_rfl, fun wS hSw => ?_⟩) (by assumption) ?_
          · (try dsimp only at hSw); go_simp
          (try simp only [Act.put, List.setIfInBounds_toArray, List.set_cons_zero, List.set_cons_succ])
          refine wpAnyH_take (i := 11) (v := .pointer (some ⟨g, p * 6 + 1, none⟩)) rfl (by kernel_rfl) (by kernel_rfl) (by kernel_rfl) (fun _ _ _ h => h) (Or.inl ⟨by kernel_rfl, fun wS hSw => ?_⟩) (by assumption) ?_
          · (try dsimp only at hSw); go_simp
          (try simp only [Act.put, List.setIfInBounds_toArray, List.set_cons_zero, List.set_cons_succ])
          refine wpAnyH_ready (rs := [12]) (by kernel_rfl) (by simp) ?_
          refine AllReadyH.cons rfl (fun K hK => ?_) AllReadyH.nil
          go_simp
          refine hK.out _ _ ?_ (fun hHeld => ?_)
          · exact ⟨s0b, s2b⟩
          clear hK K
          (try simp only [Act.put, List.setIfInBounds_toArray, List.set_cons_zero, List.set_cons_succ])
          refine wpAnyH_done (by kernel_rfl) ?_ _
          clear hHeld
          go_wp2
          exact ⟨⟨k + 1, by go_num, by omega, KP2, KQ2, HST, HOY, hide ⟨(unhide BX2).os, (unhide BX2).tape, (unhide BX2).output, (unhide BX2).size, (unhide BX2).block⟩⟩, by simp [intOf]; omega⟩
        · have hlt1 : ¬ (k : Int) < (un : Int) := by omega
          have hke : k = un := by omega
          have htk : pl.take k = pl := List.take_of_length_le (by rw [unhide HPU]; omega)
          rw [htk, unhide HMP] at OMX
          have q1 := (unhide KQX).cell 1
          simp only [List.getElem?_toArray, List.getElem?_cons_succ, List.getElem?_cons_zero] at q1
          have HCL := hide (bclone32_any (.slice au un cu) us wr (by have := unhide HUN; omega) (unhide HUA wr (unhide BX)))
          have hbx := (unhide BX).size
          clear hke htk hlt OYX
          go_wp2_with fail
          refine (unhide HCL).mono ?_
          rintro e w5 ⟨v5, rfl, o5, b5⟩
          obtain ⟨a5, c5, rfl, _⟩ := own_sliceG o5
          have k5 := (unhide KPX).below b5
          have m5 := own_below (unhide OMX) b5
          have t0 := k5.cell 5
          have t1 := k5.frozen 5
          simp only [List.getElem?_toArray, List.getElem?_cons_succ, List.getElem?_cons_zero] at t0
          rw [unhide HUN]
          have R0 := hide (k5.set 5 (.slice a5 un c5))
          have m6 := own_setT (i := 5) (u := .slice a5 un c5) m5 k5 (by decide)
          have o6 := own_setT (i := 5) (u := .slice a5 un c5) o5 k5 (by decide)
          have hlm : (ms.map (markM ⟨kd, us, fl, dy, sc, zn, raw⟩)).length = n := by rw [List.length_map]; exact unhide HNN
          rw [← hlm] at m6
          have R1 := hide (show OutM _ _ (ms.map (markM ⟨kd, us, fl, dy, sc, zn, raw⟩)) from ⟨own_zero m6, (fun m hm => unhide HLF pl m (by rw [unhide HMP]; exact hm)), by rw [hlm]; omega⟩)
          rw [hlm] at R1
          have R2 := hide (show OutT _ _ us from ⟨own_zero o6, unhide HUF, by rw [unhide HUN]; omega⟩)
          rw [unhide HUN] at R2
          have R3 := hide (((unhide BWA).trans ((unhide BX).trans (b5.mono (by have := (unhide BWA).size; omega)))).setCell (p := ⟨P, 5, none⟩) hP (.slice a5 un c5))
          clear o5 b5 k5 m5 m6 o6 hlm HCL KPX KQX OMX BX
          go_wp2
          go_ret
          rw [← unhide HBB]
          exact ⟨rfl, _, _, unhide R0, unhide R1, unhide R2, unhide R3⟩
end Go.Proofs.YthpjogfclklefaaDoor

/-
  What (*box.work).do does, over this seat's program.
-/
set_option linter.unusedVariables false
set_option linter.unusedSimpArgs false
namespace Go.Proofs.YthpjogfclklefaaDoor
open Go.RowKit

theorem bchk_rise {l : List Nat} (h : chk l = 0) : l.Pairwise (· < ·) ∧ l.length ≤ 65536 := by
  unfold chk at h
  by_cases h1 : Go.Proofs.Dct.rises 0 l = true
  · rw [if_pos h1] at h
    have hlen : l.length ≤ 65536 := by
      rcases Nat.lt_or_ge 65536 l.length with h2 | h2
      · rw [if_neg (by omega)] at h; omega
      · exact h2
    refine ⟨?_, hlen⟩
    have key := (Go.Proofs.Dct.rises_iff l 0).1 h1
    rw [List.pairwise_iff_getElem]
    intro i j hi hj hij
    obtain ⟨d, rfl⟩ : ∃ d, j = i + d + 1 := ⟨j - i - 1, by omega⟩
    clear hij
    induction d with
    | zero => exact key.2 i hj
    | succ d ih => exact Nat.lt_trans (ih (by omega)) (key.2 (i + d + 1) hj)
  · rw [if_neg h1] at h
    omega
theorem okC_rise {c : Chg} (h : okC c = true) : c.us.Pairwise (· < ·) ∧ c.us.length ≤ 65536 := by
  unfold okC at h
  split at h
  · simp only [Bool.and_eq_true, decide_eq_true_eq] at h
    have : c.us = [] := List.eq_nil_of_length_eq_zero h.1
    rw [this]
    exact ⟨List.Pairwise.nil, by simp⟩
  · simp only [Bool.and_eq_true, decide_eq_true_eq] at h
    exact bchk_rise h.2.2.2.1
theorem okC_kind {c : Chg} (h : okC c = true) : c.kd = 1 ∨ c.kd = 5 ∨ c.kd = 6 ∨ c.kd = 2 ∨ c.kd = 3 ∨ c.kd = 4 := by
  unfold okC at h
  split at h
  · omega
  · simp only [Bool.and_eq_true, decide_eq_true_eq] at h
    omega

def workB (b : Bx) (c : Chg) : Bx := if c.kd = 1 then putB b c else if c.kd = 5 then ⟨b.va, b.nx, b.mr, b.la, stayL c.us b.ms⟩ else if c.kd = 6 then ⟨b.va, b.nx, b.la, b.nx - 1, b.ms⟩ else markB b c
def workT (b : Bx) (c : Chg) : List Nat := if c.kd = 1 then putT b else if c.kd = 5 then goneL c.us b.ms else if c.kd = 6 then [] else markT b c
def workE (b : Bx) (c : Chg) : Nat := if c.kd = 1 then putE b else if c.kd = 5 then 0 else if c.kd = 6 then 0 else markE b c

set_option maxHeartbeats 8000000 in
set_option maxRecDepth 100000 in
theorem do_any (P C0 B : Nat) (b : Bx) (c : Chg) (vm vc : Value) (W : World)
    (KP : Blk W P 57 (wkC b vm (.slice none 0 0)))
    (OM : W.ownsRow C0 47 6 vm b.ms.length (flatG msC b.ms)) (hfm : ∀ m ∈ b.ms, FitM m) (hn : b.ms.length ≤ 4096) (hr : (uidsM b.ms).Pairwise (· < ·))
    (hnx : 1 ≤ b.nx ∧ b.nx ≤ 4294967296) (hfc : FitC c) (HU0 : ∀ X, Below B W X → Row32 X vc c.us) (hus : c.us.Pairwise (· < ·)) (hul : c.us.length ≤ 65536) (hP : B ≤ P) (hC : B ≤ C0) (hC2 : C0 ≤ W.heap.size) :
    Calls Tryd.prog 26 #[.pointer (some ⟨P, 0, none⟩), chV c vc] W fun e W' => e = .returned (.int .i64 (workE b c : Int)) ∧ ∃ vm' vt', Blk W' P 57 (wkC (workB b c) vm' vt') ∧ OutM W' vm' (workB b c).ms ∧ OutT W' vt' (workT b c) ∧ Below B W W' := by
  have hvc := HU0 W (Below.refl _ _)
  obtain ⟨au, cu, rfl, _, _, _⟩ := hvc
  have hPW := KP.lt
  obtain ⟨Q, hQ⟩ : ∃ Q, W.heap.size = Q := ⟨_, rfl⟩
  obtain ⟨V, hV⟩ : ∃ V, W.alloc (.cells (chC c (.slice au c.us.length cu)) 33) = V := ⟨_, rfl⟩
  have hA : Below W.heap.size W V := by rw [← hV]; exact (Below.refl _ W).alloc (Nat.le_refl _) _
  have KQ : Blk V Q 33 (chC c (.slice au c.us.length cu)) := by rw [← hV, ← hQ]; exact Blk.new W 33 _
  have KP1 := KP.below hA
  have OM1 := own_below OM hA
  have hVs : V.heap.size = W.heap.size + 1 := by rw [← hV, World.size_alloc]
  have hB1 : Below B W V := hA.mono (by omega)
  have HU1 : ∀ X, Below B V X → Row32 X (.slice au c.us.length cu) c.us := fun X hX => HU0 X (hB1.trans hX)
  have HBV := hide hB1
  by_cases h1 : c.kd = 1
  · have d1 : ((c.kd : Int) == 1) = true := by rw [h1]; rfl
    have HP := hide (put_any P C0 B b c vm (.slice au c.us.length cu) V KP1 OM1 hfm hn hnx hfc ⟨_, _, _, rfl⟩ hP hC (by omega))
    have e1 : workE b c = putE b := by unfold workE; rw [if_pos h1]
    have e2 : workT b c = putT b := by unfold workT; rw [if_pos h1]
    have e3 : workB b c = putB b c := by unfold workB; rw [if_pos h1]
    rw [e1, e2, e3]
    generalize putE b = E0 at HP ⊢
    generalize putT b = T0 at HP ⊢
    generalize putB b c = B0 at HP ⊢
    clear e1 e2 e3 hfm hr hnx hfc HU0 HU1 hus h1 OM OM1 KP KP1 hA hB1
    obtain ⟨kd, us, fl, dy, sc, zn, raw⟩ := c
    simp only [chV, chC] at *
    subst hV hQ
    go_enter Tryd.func26, Tryd.ntmps26
    go_wp2_with fail
    refine (unhide HP).mono ?_
    rintro e w1 ⟨rfl, vm', vt', q1, q2, q3, q4⟩
    have R0 := hide q1
    have R1 := hide q2
    have R2 := hide q3
    have R3 := hide ((unhide HBV).trans q4)
    clear q1 q2 q3 q4 HP HBV KQ
    go_wp2
    go_ret
    exact ⟨rfl, _, _, unhide R0, unhide R1, unhide R2, unhide R3⟩
  · have d1 : ((c.kd : Int) == 1) = false := by simp; omega
    by_cases h5 : c.kd = 5
    · have d5 : ((c.kd : Int) == 5) = true := by rw [h5]; rfl
      have HP := hide (expunge_any P C0 B b vm (.slice au c.us.length cu) c.us V KP1 OM1 hfm (by omega) HU1 hus hul hP (by omega))
      have e1 : workE b c = 0 := by unfold workE; rw [if_neg h1, if_pos h5]
      have e2 : workT b c = goneL c.us b.ms := by unfold workT; rw [if_neg h1, if_pos h5]
      have e3 : workB b c = ⟨b.va, b.nx, b.mr, b.la, stayL c.us b.ms⟩ := by unfold workB; rw [if_neg h1, if_pos h5]
      rw [e1, e2, e3]
      generalize goneL c.us b.ms = T0 at HP ⊢
      generalize stayL c.us b.ms = S0 at HP ⊢
      have hBs : B ≤ V.heap.size := by omega
      clear e1 e2 e3 hfm hr hnx hfc HU0 HU1 hus h1 h5 OM OM1 KP KP1 hA hB1
      obtain ⟨kd, us, fl, dy, sc, zn, raw⟩ := c
      simp only [chV, chC] at *
      subst hV hQ
      go_enter Tryd.func26, Tryd.ntmps26
      go_wp2_with fail
      refine (unhide HP).mono ?_
      rintro e w1 ⟨rfl, vm', vt', q1, q2, q3, q4⟩
      have R0 := hide q1
      have R1 := hide q2
      have R2 := hide q3
      have R3 := hide ((unhide HBV).trans (q4.to hP hBs))
      clear q1 q2 q3 q4 HP HBV KQ
      go_wp2
      go_ret
      exact ⟨rfl, _, _, unhide R0, unhide R1, unhide R2, unhide R3⟩
    · have d5 : ((c.kd : Int) == 5) = false := by simp; omega
      by_cases h6 : c.kd = 6
      · have d6 : ((c.kd : Int) == 6) = true := by rw [h6]; rfl
        have e1 : workE b c = 0 := by unfold workE; rw [if_neg h1, if_neg h5, if_pos h6]
        have e2 : workT b c = [] := by unfold workT; rw [if_neg h1, if_neg h5, if_pos h6]
        have e3 : workB b c = ⟨b.va, b.nx, b.la, b.nx - 1, b.ms⟩ := by unfold workB; rw [if_neg h1, if_neg h5, if_pos h6]
        rw [e1, e2, e3]
        have KPH := hide KP1
        have OMH := hide OM1
        have HFM := hide hfm
        clear e1 e2 e3 hfm hr hfc HU0 HU1 hus h1 h5 h6 OM OM1 KP KP1 hA hB1
        obtain ⟨kd, us, fl, dy, sc, zn, raw⟩ := c
        obtain ⟨va, nx, mr, la, ms⟩ := b
        simp only [chV, chC, wkC] at *
        subst hV hQ
        obtain ⟨nn, hnn⟩ : ∃ nn, nx = nn + 1 := ⟨nx - 1, by omega⟩
        subst hnn
        simp only [Nat.add_sub_cancel]
        have c1 := (unhide KPH).cell 1
        have c2 := (unhide KPH).cell 2
        have c3 := (unhide KPH).cell 3
        have f2 := (unhide KPH).frozen 2
        have f3 := (unhide KPH).frozen 3
        simp only [List.getElem?_toArray, List.getElem?_cons_succ, List.getElem?_cons_zero] at c1 c2 c3
        have hw1 : IntKind.u64.wrap (((nn + 1 : Nat) : Int) - 1) = (nn : Int) := by rw [IntKind.wrap_u64]; omega
        have hw1b : IntKind.u64.wrap ((nn : Int) + 1 - 1) = (nn : Int) := by rw [IntKind.wrap_u64]; omega
        have hw2 : IntKind.u32.wrap (nn : Int) = (nn : Int) := by rw [IntKind.wrap_u32']; omega
        have R0 := hide (((unhide KPH).set 2 (.int .u32 (la : Int))).set 3 (.int .u32 (nn : Int)))
        have m1 := own_setT (i := 2) (u := .int .u32 (la : Int)) (unhide OMH) (unhide KPH) (by decide)
        have m2 := own_setT (i := 3) (u := .int .u32 (nn : Int)) m1 ((unhide KPH).set 2 (.int .u32 (la : Int))) (by decide)
        have R1 := hide (show OutM _ _ ms from ⟨own_zero m2, unhide HFM, by omega⟩)
        have R3 := hide (((unhide HBV).setCell (p := ⟨P, 2, none⟩) hP (.int .u32 (la : Int))).setCell (p := ⟨P, 3, none⟩) hP (.int .u32 (nn : Int)))
        clear m1 m2 KPH OMH HBV
        go_enter Tryd.func26, Tryd.ntmps26
        go_upto_region 8 with (fail)
        generalize W.alloc (.cells #[.int .u8 (kd : Int), .slice au us.length cu, .int .u8 (fl : Int), .int .i64 dy, .int .i64 sc, .int .i64 zn, .string raw] 33) = V at c1 c2 c3 f2 f3 R0 R1 R3 ⊢
        go_wp2
        go_ret
        exact ⟨rfl, _, _, unhide R0, unhide R1, OutT.nil _, unhide R3⟩
      · have d6 : ((c.kd : Int) == 6) = false := by simp; omega
        have HP := hide (mark_any P C0 B b c vm (.slice au c.us.length cu) V KP1 OM1 hfm hn hr hfc HU1 hus hul hP hC (by omega))
        have e1 : workE b c = markE b c := by unfold workE; rw [if_neg h1, if_neg h5, if_neg h6]
        have e2 : workT b c = markT b c := by unfold workT; rw [if_neg h1, if_neg h5, if_neg h6]
        have e3 : workB b c = markB b c := by unfold workB; rw [if_neg h1, if_neg h5, if_neg h6]
        rw [e1, e2, e3]
        generalize markE b c = E0 at HP ⊢
        generalize markT b c = T0 at HP ⊢
        generalize markB b c = B0 at HP ⊢
        clear e1 e2 e3 hfm hr hnx hfc HU0 HU1 hus h1 h5 h6 OM OM1 KP KP1 hA hB1
        obtain ⟨kd, us, fl, dy, sc, zn, raw⟩ := c
        simp only [chV, chC] at *
        subst hV hQ
        go_enter Tryd.func26, Tryd.ntmps26
        go_wp2_with fail
        refine (unhide HP).mono ?_
        rintro e w1 ⟨rfl, vm', vt', q1, q2, q3, q4⟩
        have R0 := hide q1
        have R1 := hide q2
        have R2 := hide q3
        have R3 := hide ((unhide HBV).trans q4)
        clear q1 q2 q3 q4 HP HBV KQ
        go_wp2
        go_ret
        exact ⟨rfl, _, _, unhide R0, unhide R1, unhide R2, unhide R3⟩
end Go.Proofs.YthpjogfclklefaaDoor

/-
  What is kept where a struct of five cells is written; over this seat's program.
-/
set_option linter.unusedVariables false
set_option linter.unusedSimpArgs false
namespace Go.Proofs.YthpjogfclklefaaDoor
open Go.RowKit

theorem blk_belowC {w w' : World} {P C t : Nat} {cs : Array Value} (h : Blk w P t cs) (hb : Below C w w') (hC : P < C) : Blk w' P t cs := by
  unfold Blk at *
  rw [hb.block P hC]
  exact h
theorem outM5 {w : World} {v : Value} {l : List Msg} {S t : Nat} {cs : Array Value} (h : OutM w v l) (hb : Blk w S t cs) (hne : t ≠ 47) : ∀ u0 u1 u2 u3 u4, OutM (((((w.setCell ⟨S, 0, none⟩ u0).setCell ⟨S, 1, none⟩ u1).setCell ⟨S, 2, none⟩ u2).setCell ⟨S, 3, none⟩ u3).setCell ⟨S, 4, none⟩ u4) v l := by
  intro u0 u1 u2 u3 u4
  have b1 := hb.set 0 u0
  have b2 := b1.set 1 u1
  have b3 := b2.set 2 u2
  have b4 := b3.set 3 u3
  exact ((((h.set hb hne).set b1 hne).set b2 hne).set b3 hne).set b4 hne
theorem outT5 {w : World} {v : Value} {l : List Nat} {S t : Nat} {cs : Array Value} (h : OutT w v l) (hb : Blk w S t cs) (hne : t ≠ 22) : ∀ u0 u1 u2 u3 u4, OutT (((((w.setCell ⟨S, 0, none⟩ u0).setCell ⟨S, 1, none⟩ u1).setCell ⟨S, 2, none⟩ u2).setCell ⟨S, 3, none⟩ u3).setCell ⟨S, 4, none⟩ u4) v l := by
  intro u0 u1 u2 u3 u4
  have b1 := hb.set 0 u0
  have b2 := b1.set 1 u1
  have b3 := b2.set 2 u2
  have b4 := b3.set 3 u3
  exact ((((h.set hb hne).set b1 hne).set b2 hne).set b3 hne).set b4 hne
theorem blk5 {w : World} {S P t : Nat} {cs : Array Value} (h : Blk w P t cs) (hne : P ≠ S) : ∀ u0 u1 u2 u3 u4, Blk (((((w.setCell ⟨S, 0, none⟩ u0).setCell ⟨S, 1, none⟩ u1).setCell ⟨S, 2, none⟩ u2).setCell ⟨S, 3, none⟩ u3).setCell ⟨S, 4, none⟩ u4) P t cs := by
  intro u0 u1 u2 u3 u4
  exact ((((h.other (a := ⟨S, 0, none⟩) hne u0).other (a := ⟨S, 1, none⟩) hne u1).other (a := ⟨S, 2, none⟩) hne u2).other (a := ⟨S, 3, none⟩) hne u3).other (a := ⟨S, 4, none⟩) hne u4
theorem OutM.drewB {w : World} {v : Value} {l : List Msg} (h : OutM w v l) : OutM w.drew v l := ⟨own_drewB h.1, h.2⟩
theorem OutT.drewB {w : World} {v : Value} {l : List Nat} (h : OutT w v l) : OutT w.drew v l := ⟨own_drewB h.1, h.2⟩
theorem below_drewB {B : Nat} {w W : World} (h : Below B w W) : Below B w W.drew := ⟨h.os, h.tape, h.output, h.size, h.block⟩

end Go.Proofs.YthpjogfclklefaaDoor

/-
  What the document's fine and Make of box do, over this seat's program.
-/
set_option linter.unusedVariables false
set_option linter.unusedSimpArgs false
namespace Go.Proofs.YthpjogfclklefaaDoor
open Go.RowKit

set_option maxHeartbeats 1000000 in
theorem refFine_any (f : Nat) (d s z : Int) (raw : ByteArray) (w : World) (hr : raw.size ≤ 16777216) : Calls Tryd.prog 29 #[.int .u8 (f : Int), .agg #[.int .i64 d, .int .i64 s, .int .i64 z], .string raw] w fun e w' => e = .returned (.bool (decide (f ≤ 31) && (rightB d s z && decide (raw.size ≤ 65536)))) ∧ Below w.heap.size w w' := by
  have hw : ∃ (t : ByteArray) (k : Nat), (k = if rightB d s z = true then 0 else 2) ∧ ∀ W, Calls Tryd.prog 41 #[.agg #[.int .i64 d, .int .i64 s, .int .i64 z]] W fun e w' => e = .returned (.tuple #[.string t, .int .i64 (k : Int)]) ∧ Below W.heap.size W w' := by
    cases h : rightB d s z with
    | false => exact ⟨_, 2, rfl, fun W => refWriteT_no d s z W h⟩
    | true =>
      have h2 := h
      unfold rightB at h2
      rw [Bool.and_eq_true, decide_eq_true_eq] at h2
      obtain ⟨y, m, dd, hv, hn⟩ := day_exists h2.1
      obtain ⟨k, hk⟩ : ∃ k : Nat, s = (k : Int) := ⟨s.toNat, by omega⟩
      subst hk
      exact ⟨_, 0, rfl, fun W => refWriteT_yes y m dd k d z W hv hn (by omega) (by omega) (by omega)⟩
  obtain ⟨t, k, hk, hW⟩ := hw
  have HW := hide hW
  clear hW
  have HA := hide (show Below w.heap.size w (w.alloc (.cells #[.int .i64 d, .int .i64 s, .int .i64 z] 31)) from (Below.refl _ w).alloc (Nat.le_refl _) _)
  obtain ⟨r, hrr⟩ : ∃ r, rightB d s z = r := ⟨_, rfl⟩
  rw [hrr] at hk ⊢
  clear hrr
  obtain ⟨L, hL⟩ : ∃ L, raw.size = L := ⟨_, rfl⟩
  rw [hL] at hr ⊢
  by_cases hf : f ≤ 31
  · have df : decide ((f : Int) ≤ 31) = true := decide_eq_true (by omega)
    rw [decide_eq_true hf, Bool.true_and]
    clear hf
    cases r with
    | false =>
      rw [if_neg (by simp)] at hk
      subst hk
      go_enter Tryd.func29, Tryd.ntmps29
      go_wp2_with fail
      refine (unhide HW _).mono ?_
      rintro e w1 ⟨rfl, b1⟩
      have HB := hide (show Below w.heap.size w w1 from by first | exact belows' (unhide HA) b1 | exact b1)
      clear b1 HA
      go_wp2
      go_ret
      exact ⟨rfl, unhide HB⟩
    | true =>
      rw [if_pos rfl] at hk
      subst hk
      have hc : decide ((L : Int) ≤ 65536) = decide (L ≤ 65536) := by rw [decide_eq_decide]; omega
      rw [Bool.true_and]
      go_enter Tryd.func29, Tryd.ntmps29
      go_wp2_with fail
      refine (unhide HW _).mono ?_
      rintro e w1 ⟨rfl, b1⟩
      have HB := hide (show Below w.heap.size w w1 from by first | exact belows' (unhide HA) b1 | exact b1)
      clear b1 HA
      go_wp2
      go_ret
      exact ⟨rfl, unhide HB⟩
  · have df : decide ((f : Int) ≤ 31) = false := decide_eq_false (by omega)
    rw [decide_eq_false hf, Bool.false_and]
    clear hf
    cases r with
    | false =>
      rw [if_neg (by simp)] at hk
      subst hk
      go_enter Tryd.func29, Tryd.ntmps29
      go_wp2_with fail
      refine (unhide HW _).mono ?_
      rintro e w1 ⟨rfl, b1⟩
      have HB := hide (show Below w.heap.size w w1 from by first | exact belows' (unhide HA) b1 | exact b1)
      clear b1 HA
      go_wp2
      go_ret
      exact ⟨rfl, unhide HB⟩
    | true =>
      rw [if_pos rfl] at hk
      subst hk
      go_enter Tryd.func29, Tryd.ntmps29
      go_wp2_with fail
      refine (unhide HW _).mono ?_
      rintro e w1 ⟨rfl, b1⟩
      have HB := hide (show Below w.heap.size w w1 from by first | exact belows' (unhide HA) b1 | exact b1)
      clear b1 HA
      go_wp2
      go_ret
      exact ⟨rfl, unhide HB⟩
set_option maxHeartbeats 1000000 in
theorem refBMake_any (va : Nat) (w : World) : Calls Tryd.prog 9 #[.int .u32 (va : Int)] w fun e w' => e = .returned (.tuple #[bxV (makeB va) (.slice none 0 0), .int .i64 (if va = 0 then 1 else 0)]) ∧ Below w.heap.size w w' := by
  have hb := hide ((Below.refl _ w).alloc (Nat.le_refl _) (Obj.cells #[.int .u32 0, .int .u64 0, .int .u32 0, .int .u32 0, .slice none 0 0] 26))
  by_cases h : va = 0
  · have d : ((va : Int) == 0) = true := by simp; omega
    unfold makeB
    rw [if_pos h, if_pos h]
    clear h
    simp only [bxV, bxC]
    go_enter Tryd.func9, Tryd.ntmps9
    go_wp2
    refine bodyPost_ret (v := .tuple #[.agg #[.int .u32 0, .int .u64 0, .int .u32 0, .int .u32 0, .slice none 0 0], .int .i64 1]) ?_ rfl ⟨rfl, unhide hb⟩
    rw [results_cell_tmp rfl]
    go_simp
  · have d : ((va : Int) == 0) = false := by simp; omega
    unfold makeB
    rw [if_neg h, if_neg h]
    clear h
    simp only [bxV, bxC]
    go_enter Tryd.func9, Tryd.ntmps9
    go_wp2
    refine bodyPost_ret (v := .tuple #[.agg #[.int .u32 (va : Int), .int .u64 1, .int .u32 0, .int .u32 0, .slice none 0 0], .int .i64 0]) ?_ rfl ⟨rfl, (Below.refl _ w).alloc (Nat.le_refl _) _⟩
    rw [results_cell_tmp rfl]
    go_simp
end Go.Proofs.YthpjogfclklefaaDoor
