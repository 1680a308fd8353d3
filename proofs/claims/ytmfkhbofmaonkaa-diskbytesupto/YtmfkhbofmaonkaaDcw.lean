/-
  What disk.Crash does, over this seat's program: the walk.
-/
import Derived.Test.YtmfkhbofmaonkaaDcs
import Derived.Test.YtmfkhbofmaonkaaDmk
set_option linter.unusedVariables false
set_option linter.unusedSimpArgs false
namespace Go.Proofs.Ytmfkhbofmaonkaa
open Go.RowKit Go.Proofs.Dsk

theorem crash_right {d : Fs} {keep : List Int} (h : right d = true) : crashR d keep = (⟨d.room, d.files.mapIdx (keepAt keep), -1, -1, false⟩, 0) := by unfold crashR; rw [if_neg (by simp [h])]

set_option maxHeartbeats 8000000 in
set_option maxRecDepth 100000 in
theorem crash_any (d : Fs) (v vk : Value) (keep : List Int) (w : World) (hfit : FitAll d) (h : RowF w v d.files) (hkp : RowI w vk keep) :
    Calls Try.prog 29 #[fsV d v, vk] w fun e w' => ∃ v', e = .returned (.tuple #[fsV (crashR d keep).1 v', .int .i64 (crashR d keep).2]) ∧ RowF w' v' (crashR d keep).1.files ∧ FitAll (crashR d keep).1 ∧ Below w.heap.size w w' := by
  have hb1 := (((Below.refl _ w).alloc (Nat.le_refl _) (Obj.cells #[.int .i64 d.room, v, .int .i64 d.fuse, .int .i64 d.fault, .bool d.down] 24)).alloc (by simp) (Obj.cells #[.int .i64 0, .slice none 0 0, .int .i64 0, .int .i64 0, .bool false] 24))
  have hck := check_any d v _ hfit.1 (h.below hb1)
  have HRW := hide (h.below hb1)
  have HFIT := hide hfit
  obtain ⟨a, cap, rfl, h63, hff, hc⟩ := h
  obtain ⟨ka, kc, rfl, hk63, hkf, hkc⟩ := hkp
  have HKF := hide hkf
  have HKC := hide hkc
  clear hc hff hkf hkc
  have z0 := ((Blk.new w 24 #[.int .i64 d.room, .slice a d.files.length cap, .int .i64 d.fuse, .int .i64 d.fault, .bool d.down]).below ((Below.refl _ _).alloc (Nat.le_refl _) (Obj.cells #[.int .i64 0, .slice none 0 0, .int .i64 0, .int .i64 0, .bool false] 24)))
  have z1 := (Blk.new (w.alloc (Obj.cells #[.int .i64 d.room, .slice a d.files.length cap, .int .i64 d.fuse, .int .i64 d.fault, .bool d.down] 24)) 24 #[.int .i64 0, .slice none 0 0, .int .i64 0, .int .i64 0, .bool false])
  simp only [World.size_alloc] at z1
  cases hr : right d with
  | false =>
    have hw : crashR d keep = (zeroFs, 2) := by unfold crashR; rw [if_pos hr]
    rw [hr] at hck
    rw [hw]
    simp only [fsV, Bool.false_eq_true, if_false] at hck ⊢
    go_enter Try.func29, Try.ntmps29
    go_wp2_with fail
    refine hck.mono ?_
    rintro e w1 ⟨rfl, b1⟩
    have k1 := z1.below b1
    have e0 := k1.cell 0
    have e1 := k1.cell 1
    have e2 := k1.cell 2
    have e3 := k1.cell 3
    have e4 := k1.cell 4
    have f0 := k1.frozen 0
    have f1 := k1.frozen 1
    have f2 := k1.frozen 2
    have f3 := k1.frozen 3
    have f4 := k1.frozen 4
    simp only [List.getElem?_toArray, List.getElem?_cons_succ, List.getElem?_cons_zero] at e0 e1 e2 e3 e4
    have BW := hide (hb1.trans (b1.mono (by simp; omega)))
    clear k1 z0 z1 hb1 b1 hck hr hw
    have hlow := below5 (s := w.heap.size + 1) (unhide BW) (by omega)
    have BF := hide hlow
    clear hlow
    go_wp2
    (try simp only [Exit.inBlock, Exit.then])
    refine bodyPost_ret (v := .tuple #[.agg #[.int .i64 0, .slice none 0 0, .int .i64 0, .int .i64 0, .bool false], .int .i64 2]) ?_ rfl ⟨_, rfl, rowF_nil _ _ _, fit_empty (by omega) (by omega) (by omega) (by omega) (by omega) (by omega), unhide BF _ _ _ _ _⟩
    rw [results_cell_tmp rfl]
    go_simp
  | true =>
    rw [crash_right hr]
    rw [hr] at hck
    have hs := small_of_right hr
    have hp := right_parts hr
    have hn : d.files.length ≤ 1024 := hp.1.2.2.1
    have HFO : Hid (∀ k (h : k < d.files.length), 0 ≤ d.files[k].synced ∧ d.files[k].synced ≤ d.files[k].data.size ∧ d.files[k].data.size ≤ 16777216) := hide (fun k h => by
      have h1 := hp.2.2.1 _ (List.getElem_mem h)
      have h2 := size_le_used (List.getElem_mem h)
      have h3 := hp.2.1
      have h4 := hp.1.2.1
      simp only [fileOk, Bool.and_eq_true, decide_eq_true_eq] at h1
      omega)
    have HCP := hide (fun (W : World) (hW : RowF W (.slice a d.files.length cap) d.files) => copyOf_any d (.slice a d.files.length cap) W hn hs hW)
    clear hp hs
    simp only [fsV, if_true] at hck HCP ⊢
    go_enter Try.func29, Try.ntmps29
    go_wp2_with fail
    refine hck.mono ?_
    rintro e w1 ⟨rfl, b1⟩
    have k0 := z0.below b1
    have k1 := z1.below b1
    have c0 := k0.cell 0
    have c1 := k0.cell 1
    have c2 := k0.cell 2
    have c3 := k0.cell 3
    have c4 := k0.cell 4
    simp only [List.getElem?_toArray, List.getElem?_cons_succ, List.getElem?_cons_zero] at c0 c1 c2 c3 c4
    have hs1 := b1.size
    have hbw1 := hb1.trans (b1.mono (by simp; omega))
    have hrw1 := (unhide HRW).below b1
    simp only [World.size_alloc] at hs1
    have BW1 := hide hbw1
    have K1 := hide k1
    have CP := hide (unhide HCP w1 hrw1)
    clear k0 k1 z0 z1 hb1 b1 hck hr hbw1 hrw1 HRW HCP
    go_wp2_with fail
    refine (unhide CP).mono ?_
    rintro e w2 ⟨v', rfl, hown, b2⟩
    obtain ⟨a', cap', rfl⟩ := own_form hown
    have hs2 := b2.size
    have BW2 := hide ((unhide BW1).trans (b2.mono (unhide BW1).size))
    have K2 := (unhide K1).below b2
    have OWN := hide hown
    clear hown b2 c0 c1 c2 c3 c4 CP K1
    have hal := (Below.refl w2.heap.size w2).alloc (Nat.le_refl _) (Obj.cells #[.int .i64 d.room, .slice a' d.files.length cap', .int .i64 d.fuse, .int .i64 d.fault, .bool d.down] 52)
    have hown3 := (unhide OWN).alloc (Obj.cells #[.int .i64 d.room, .slice a' d.files.length cap', .int .i64 d.fuse, .int .i64 d.fault, .bool d.down] 52)
    obtain ⟨m, hm⟩ : ∃ m, d.files.length = m := ⟨_, rfl⟩
    have hsys : SysV (w2.alloc (Obj.cells #[.int .i64 d.room, .slice a' d.files.length cap', .int .i64 d.fuse, .int .i64 d.fault, .bool d.down] 52)) w1.heap.size w2.heap.size (.slice a' d.files.length cap') d := by
      refine ⟨hs2, unhide HFIT, Blk.new w2 _ _, hown3, fun e => ?_⟩
      have := ((unhide OWN).lt _ e).2
      omega
    have BW3 := hide ((unhide BW2).alloc (unhide BW2).size (Obj.cells #[.int .i64 d.room, .slice a' d.files.length cap', .int .i64 d.fuse, .int .i64 d.fault, .bool d.down] 52))
    have K3 := hide (K2.below hal)
    rw [hm] at hsys
    have SV3 := hide hsys
    have HM := hide hm
    have hB3 : w2.heap.size < (w2.alloc (Obj.cells #[.int .i64 d.room, .slice a' d.files.length cap', .int .i64 d.fuse, .int .i64 d.fault, .bool d.down] 52)).heap.size := by simp
    rw [hm] at hn h63 BW3 K3 hB3 ⊢
    generalize hB : w2.heap.size = B at *
    clear hal hown3 hsys OWN K2 BW2 BW1
    go_wp2
    generalize hW3 : w2.alloc (Obj.cells #[.int .i64 d.room, .slice a' m cap', .int .i64 d.fuse, .int .i64 d.fault, .bool d.down] 52) = W3 at *
    clear hW3 hm
    generalize w1.heap.size = C at *
    have HW0 : Hid (Below w.heap.size w W3) := BW3
    have hCw : w.heap.size + 1 < C := by omega
    have hCW3 : C ≤ W3.heap.size := by omega
    go_loopw [8, 9, 10, 24] (fun x y u z wr => ∃ k : Nat, z = .int .i64 k ∧ k ≤ m ∧ SysV wr C B (.slice a' m cap') { d with files := crashL keep k d.files } ∧ Below C W3 wr) (fun _ _ _ z _ => m - (intOf z).toNat)
    case atStart => exact ⟨0, rfl, Nat.zero_le _, by rw [crashL_zero]; exact unhide SV3, Below.refl _ _⟩
    case round =>
      obtain ⟨k, rfl, hk, hsv, hbw⟩ := hrel
      have cB1 := hsv.2.2.1.cell 1
      simp only [sysCells, List.getElem?_toArray, List.getElem?_cons_succ, List.getElem?_cons_zero] at cB1
      have HSV := hide hsv
      have HBW := hide hbw
      have hwsz := hbw.size
      by_cases hlt : k < m
      · have hkd : k < d.files.length := by have := unhide HM; omega
        have hk1 : k < ({ d with files := crashL keep k d.files } : Fs).files.length := by show k < (crashL keep k d.files).length; rw [crashL_len]; exact hkd
        obtain ⟨g, cap5, hv5, hgC, hgw, nBg, x0, x1, x2, hfz, _⟩ := hsv.at hk1
        injection hv5 with e1 e2 e3
        subst e1
        have hat := crashL_at keep k d.files hkd (by rw [crashL_len]; exact hkd)
        have x1' : wr.cell? ⟨g, k * 3 + 1, none⟩ = some (.string d.files[k].data) := by rw [x1]; show some (Value.string (crashL keep k d.files)[k].data) = _; rw [hat]
        have x2' : wr.cell? ⟨g, k * 3 + 2, none⟩ = some (.int .i64 d.files[k].synced) := by rw [x2]; show some (Value.int .i64 (crashL keep k d.files)[k].synced) = _; rw [hat]
        have hf1 := hfz (k * 3 + 1)
        have hf2 := hfz (k * 3 + 2)
        obtain ⟨o1, o2, o3⟩ := unhide HFO k hkd
        have hmo := moreK_le keep k o2
        have HST := hide (keep_step (unhide HM) hkd hsv ⟨o1, o2⟩)
        have HMO : Hid (moreK keep k d.files[k] = if k < keep.length then min (max (keep[k]!) 0) (d.files[k].data.size - d.files[k].synced) else 0) := hide rfl
        have hkm : (k : Int) < (m : Int) := by omega
        clear x0 x1 x2 hfz e2 e3 hat hk1 hsv hbw
        generalize d.files[k].data = dt at x1' o2 o3 hmo HST HMO
        generalize d.files[k].synced = sy at x2' o1 o2 hmo HST HMO
        generalize moreK keep k d.files[k] = mo at hmo HST HMO
        obtain ⟨hmo1, hmo2⟩ := hmo
        obtain ⟨T, hT⟩ : ∃ T : Int, sy + mo = T := ⟨_, rfl⟩
        have hT0 : 0 ≤ T := by omega
        have hT1 : T ≤ (dt.size : Int) := by omega
        rw [hT] at HST
        have hsl := fun W => slice_upto dt T T.toNat (by omega) (by omega) W
        have HWC : Hid ((wr.setCell ⟨g, k * 3 + 2, none⟩ (.int .i64 T)).cell? ⟨g, k * 3 + 1, none⟩ = some (.string dt) ∧ (wr.setCell ⟨g, k * 3 + 2, none⟩ (.int .i64 T)).cell? ⟨g, k * 3 + 2, none⟩ = some (.int .i64 T) ∧ (wr.setCell ⟨g, k * 3 + 2, none⟩ (.int .i64 T)).frozen? ⟨g, k * 3 + 1, none⟩ = false) := hide ⟨(World.cell?_setCell_other _ _ _ _ (by simp)).trans x1', by rw [World.cell?_setCell_same _ _ _ (by rw [x2'])], by simp [hf1]⟩
        have HB5 := hide (((unhide HBW).setCell (p := ⟨g, k * 3 + 2, none⟩) hgC (.int .i64 T)).setCell (p := ⟨g, k * 3 + 1, none⟩) hgC (.string (dt.extract 0 T.toNat)))
        by_cases hkk : k < keep.length
        · have hgk : keep[k]! = keep[k] := getElem!_pos keep k hkk
          have hmq := unhide HMO
          rw [if_pos hkk, hgk] at hmq
          obtain ⟨b, off, rfl, hb, hkcl⟩ : ∃ b off, ka = some ⟨b, off, none⟩ ∧ b < w.heap.size ∧ ∀ j (h : j < keep.length), w.cell? ⟨b, off + j, none⟩ = some (.int .i64 keep[j]) := by
            rcases unhide HKC with h0 | h0
            · rw [h0] at hkk; simp at hkk
            · exact h0
          have hbwr : Below w.heap.size w wr := (unhide HW0).trans ((unhide HBW).mono (by omega))
          have kx : wr.cell? ⟨b, off + k, none⟩ = some (.int .i64 keep[k]) := (hbwr.cell (p := ⟨b, off + k, none⟩) hb).trans (hkcl k hkk)
          have hkk1 : (k : Int) < (keep.length : Int) := by omega
          have hkv := unhide HKF _ (List.getElem_mem hkk)
          clear hgk hkcl hbwr
          generalize keep[k] = kv at kx hmq hkv
          generalize keep.length = kn at hkk hkk1 hk63
          obtain ⟨hkv1, hkv2⟩ := hkv
          go_wp2
          go_quiet (fail)
          rw [← hmq]
          clear hmq kx hkv1 hkv2
          (go_wp2)
          obtain ⟨y1, y2, y3⟩ := unhide HWC
          go_region
          all_goals
            go_wp2
            exact ⟨⟨k + 1, by go_num, by omega, (unhide HST).sh rfl, below_sh (unhide HB5) rfl⟩, by simp [intOf]; omega⟩
        · have hmq := unhide HMO
          rw [if_neg hkk] at hmq
          subst hmq
          have hkk1 : ¬ (k : Int) < (keep.length : Int) := by omega
          have hkk2 : keep.length ≤ k := by omega
          generalize keep.length = kn at hkk hkk1 hk63 hkk2
          (go_wp2)
          obtain ⟨y1, y2, y3⟩ := unhide HWC
          go_region
          all_goals
            go_wp2
            exact ⟨⟨k + 1, by go_num, by omega, (unhide HST).sh rfl, below_sh (unhide HB5) rfl⟩, by simp [intOf]; omega⟩
      · have hke : k = m := by omega
        have hfin : crashL keep k d.files = d.files.mapIdx (keepAt keep) := by rw [hke, ← unhide HM]; exact crashL_all _ _
        have hV := unhide HSV
        rw [hfin] at hV
        have kB := hV.2.2.1
        have K5 := (unhide K3).belowC (unhide HBW) (by omega)
        have c0 := kB.cell 0
        have c1 := kB.cell 1
        have c2 := kB.cell 2
        have c3 := kB.cell 3
        have c4 := kB.cell 4
        have g2 := kB.frozen 2
        have g3 := kB.frozen 3
        have g4 := kB.frozen 4
        have hCB := hV.1
        have hBne : B ≠ w.heap.size + 1 := by omega
        have V1 := hV.put (d' := { d with files := d.files.mapIdx (keepAt keep), down := false }) 4 (.bool false) rfl hV.2.1 (fun v => rfl)
        have V2 := V1.put (d' := { d with files := d.files.mapIdx (keepAt keep), down := false, fuse := -1 }) 2 (.int .i64 (-1)) rfl ⟨⟨hV.2.1.1.1, ⟨by show (-9223372036854775808 : Int) ≤ -1; omega, by show (-1 : Int) ≤ 9223372036854775807; omega⟩, hV.2.1.1.2.2⟩, hV.2.1.2⟩ (fun v => rfl)
        have V3 := V2.put (d' := ⟨d.room, d.files.mapIdx (keepAt keep), -1, -1, false⟩) 3 (.int .i64 (-1)) rfl ⟨⟨hV.2.1.1.1, ⟨by show (-9223372036854775808 : Int) ≤ -1; omega, by show (-1 : Int) ≤ 9223372036854775807; omega⟩, ⟨by show (-9223372036854775808 : Int) ≤ -1; omega, by show (-1 : Int) ≤ 9223372036854775807; omega⟩⟩, hV.2.1.2⟩ (fun v => rfl)
        have HF3 := hide V3.2.1
        have HO3 := hide V3.2.2.2.1
        have K6 := ((blk_far (b := B) (i := 4) K5 (fun e => hBne e.symm) (.bool false)) |> fun h => blk_far (b := B) (i := 2) h (fun e => hBne e.symm) (.int .i64 (-1))) |> fun h => blk_far (b := B) (i := 3) h (fun e => hBne e.symm) (.int .i64 (-1))
        have B6 := ((((unhide HBW).setCell (p := ⟨B, 4, none⟩) hCB (.bool false)).setCell (p := ⟨B, 2, none⟩) hCB (.int .i64 (-1))).setCell (p := ⟨B, 3, none⟩) hCB (.int .i64 (-1)))
        have BW6 := hide ((unhide HW0).trans (B6.mono (by omega)))
        have kB6 := V3.2.2.1
        simp only [sysCells, List.getElem?_toArray, List.getElem?_cons_succ, List.getElem?_cons_zero] at c0 c1 c2 c3 c4
        have RB := hide (below5 (s := w.heap.size + 1) (unhide BW6) (by omega))
        have RO := hide (own5 (s := w.heap.size + 1) (unhide HO3) (by omega))
        have e0 := K6.cell 0
        have e1 := K6.cell 1
        have e2 := K6.cell 2
        have e3 := K6.cell 3
        have e4 := K6.cell 4
        have f0 := K6.frozen 0
        have f1 := K6.frozen 1
        have f2 := K6.frozen 2
        have f3 := K6.frozen 3
        have f4 := K6.frozen 4
        have b0 := kB6.cell 0
        have b1 := kB6.cell 1
        have b2 := kB6.cell 2
        have b3 := kB6.cell 3
        have b4 := kB6.cell 4
        simp only [sysCells, List.getElem?_toArray, List.getElem?_cons_succ, List.getElem?_cons_zero] at e0 e1 e2 e3 e4 b0 b1 b2 b3 b4
        clear K6 kB6 B6 V1 V2 V3 kB hfin hV K5
        go_wp2
        (try simp only [Exit.inBlock, Exit.then])
        refine bodyPost_ret (v := .tuple #[.agg #[.int .i64 d.room, .slice a' m cap', .int .i64 (-1), .int .i64 (-1), .bool false], .int .i64 0]) ?_ rfl ⟨_, rfl, rowF_of_own (unhide RO _ _ _ _ _) (unhide HF3).2.2 (unhide HF3).2.1, unhide HF3, unhide RB _ _ _ _ _⟩
        rw [results_cell_tmp rfl]
        go_simp
end Go.Proofs.Ytmfkhbofmaonkaa
