/-
  What the document's Crash does (missiveref04), over this seat's program.
-/
import Derived.Test.YtmfkhbofmaonkaaDqi
import Derived.Test.YtmfkhbofmaonkaaDcw
import Derived.Test.YtmfkhbofmaonkaaCrt
import Derived.Deep.RegionHeld3
set_option linter.unusedVariables false
set_option linter.unusedSimpArgs false
namespace Go.Proofs.Ytmfkhbofmaonkaa
open Go.RowKit Go.Proofs.Dsk

set_option maxHeartbeats 8000000 in
set_option maxRecDepth 100000 in
theorem refCrash_any (d : Fs) (v : Value) (vk : Value) (keep : List Int) (w : World) (hfit : FitAll d) (h : RowF w v d.files) (hnt : NeatF v) (hl : d.files.length ≤ 1048576) (hkp : RowI w vk keep) :
    Calls Try.prog 30 #[fsV d v, vk] w fun e w' => ∃ v', e = .returned (.tuple #[fsV (crashR d keep).1 v', .int .i64 (crashR d keep).2]) ∧ RowF w' v' (crashR d keep).1.files ∧ Below w.heap.size w w' := by
  have HPW := hide (fun (X : World) (hX : RowF X v d.files) => refPower_any d v X hfit.1 hX)
  have HAS := hide (fun (c : Nat) (X : World) (hX : RowF X v d.files) => refAs_any d v c X hfit hX hnt hl)
  have HCP := hide (fun (X : World) (hX : RowF X v d.files) => refCopy_any d v X hX hnt hl)
  have HAK := hide (fun (X : World) (hX : RowF X v d.files) => refAsks_any d v X hfit hX hnt hl)
  have HFD := hide (fun (n : ByteArray) (X : World) (hr : Rise d.files) (hX : RowF X v d.files) => refFind_any d.files v n X hr hX)
  have HFF := hide hfit.2.1
  have HCK := hide (fun (X : World) (hX : RowF X v d.files) => refCheck_any d v X hfit.1 hX)
  obtain ⟨a, cap, hv, h63, _, hc⟩ := id h
  subst hv
  have HC := hide hc
  clear hc
  obtain ⟨N, hN⟩ : ∃ N, d.files.length = N := ⟨_, rfl⟩
  have HN := hide hN
  rw [hN] at h hnt h63 HCK HPW HAS HAK HCP HFD hl ⊢
  have hb2 : Below w.heap.size w ((w.alloc (Obj.cells #[.int .i64 d.room, .slice a N cap, .int .i64 d.fuse, .int .i64 d.fault, .bool d.down] 24)).alloc (Obj.cells #[.int .i64 0, .slice none 0 0, .int .i64 0, .int .i64 0, .bool false] 24)) := ((Below.refl _ w).alloc (Nat.le_refl _) _).alloc (by simp) _
  have k0 : Blk ((w.alloc (Obj.cells #[.int .i64 d.room, .slice a N cap, .int .i64 d.fuse, .int .i64 d.fault, .bool d.down] 24)).alloc (Obj.cells #[.int .i64 0, .slice none 0 0, .int .i64 0, .int .i64 0, .bool false] 24)) w.heap.size 24 #[.int .i64 d.room, .slice a N cap, .int .i64 d.fuse, .int .i64 d.fault, .bool d.down] := (Blk.new w _ _).below ((Below.refl _ _).alloc (Nat.le_refl _) _)
  have k1 := Blk.new (w.alloc (Obj.cells #[.int .i64 d.room, .slice a N cap, .int .i64 d.fuse, .int .i64 d.fault, .bool d.down] 24)) 24 #[.int .i64 0, .slice none 0 0, .int .i64 0, .int .i64 0, .bool false]
  simp only [World.size_alloc] at k1
  have K := hide k0
  have Z := hide k1
  have R0 := hide (h.below hb2)
  have B := hide hb2
  clear k0 k1 hb2 hN h hnt hfit
  simp only [fsV] at HPW HAS HAK HCP ⊢
  skip
  obtain ⟨ka, kc, hkv, hk63, hkf, hkc⟩ := hkp
  subst hkv
  have HKF := hide hkf
  have HKC := hide hkc
  clear hkf hkc HPW HAS HAK HFD HC
  simp only [fsV] at HCK
  cases hr : right d with
  | false =>
    have hw : crashR d keep = (zeroFs, 2) := by unfold crashR; rw [if_pos hr]
    rw [hw]
    rw [hr] at HCK
    simp only [Bool.false_eq_true, if_false] at HCK
    clear hw hr HCP
    go_enter Try.func30, Try.ntmps30
    go_wp2_with fail
    refine (unhide HCK _ (unhide R0)).mono ?_
    rintro e w1 ⟨rfl, b1⟩
    have KN := hide ((unhide K).below b1)
    have ZN := hide ((unhide Z).below b1)
    have RN := hide ((unhide R0).below b1)
    have BN := hide (belows (unhide B) b1)
    clear K Z R0 B
    have K := KN
    have Z := ZN
    have R0 := RN
    have B := BN
    clear KN ZN RN BN
    clear b1 HCK
    have R9 := hide (rowF_nil w1 none 0)
    have e0 := (unhide Z).cell 0
    have e1 := (unhide Z).cell 1
    have e2 := (unhide Z).cell 2
    have e3 := (unhide Z).cell 3
    have e4 := (unhide Z).cell 4
    simp only [List.getElem?_toArray, List.getElem?_cons_succ, List.getElem?_cons_zero] at e0 e1 e2 e3 e4
    have f0 := (unhide Z).frozen 0
    have f1 := (unhide Z).frozen 1
    have f2 := (unhide Z).frozen 2
    have f3 := (unhide Z).frozen 3
    have f4 := (unhide Z).frozen 4
    have RB := hide (below5 (s := w.heap.size + 1) (unhide B) (by omega))
    have RR := hide (rowF5 (unhide R9) (unhide Z) (by intro i x; match i with | 0 | 1 | 2 | 3 | 4 => simp | i + 5 => simp))
    go_wp2
    (try simp only [Exit.inBlock, Exit.then])
    refine bodyPost_ret (v := .tuple #[.agg #[.int .i64 (zeroFs).room, .slice none 0 0, .int .i64 (zeroFs).fuse, .int .i64 (zeroFs).fault, .bool (zeroFs).down], .int .i64 2]) ?_ rfl ⟨_, rfl, unhide RR _ _ _ _ _, unhide RB _ _ _ _ _⟩
    rw [results_cell_tmp rfl]
    go_simp
    simp [zeroFs]
  | true =>
    rw [crash_right hr]
    rw [hr] at HCK
    simp only [if_true] at HCK
    obtain ⟨hp1, hp2, hp3, hp4⟩ := right_parts hr
    have hN10 : N ≤ 1024 := by have := unhide HN; have := hp1.2.2.1; omega
    have HFO : Hid (∀ k (h : k < d.files.length), 0 ≤ d.files[k].synced ∧ d.files[k].synced ≤ d.files[k].data.size ∧ d.files[k].data.size ≤ 16777216) := hide (fun k h => by
      have h1 := hp3 _ (List.getElem_mem h)
      have h2 := size_le_used (List.getElem_mem h)
      have h4 := hp1.2.1
      simp only [fileOk, Bool.and_eq_true, decide_eq_true_eq] at h1
      omega)
    have HFE : Hid (∀ f ∈ d.files.mapIdx (keepAt keep), Fits f) := hide (fun f hf => by
      obtain ⟨i, hi, rfl⟩ := List.getElem_of_mem hf
      have hi2 : i < d.files.length := by simpa using hi
      have hq := unhide HFF _ (List.getElem_mem hi2)
      have ho := unhide HFO i hi2
      have hm := moreK_le keep i ho.2.1
      simp only [List.getElem_mapIdx]
      rw [keepAt_eq]
      exact ⟨hq.1, Nat.le_trans (extract_le _ _) hq.2.1, by show -9223372036854775808 ≤ d.files[i].synced + moreK keep i d.files[i]; omega, by show d.files[i].synced + moreK keep i d.files[i] ≤ 9223372036854775807; omega⟩)
    clear hp1 hp2 hp3 hp4 hr
    go_enter Try.func30, Try.ntmps30
    go_wp2_with fail
    refine (unhide HCK _ (unhide R0)).mono ?_
    rintro e w1 ⟨rfl, b1⟩
    have KN := hide ((unhide K).below b1)
    have ZN := hide ((unhide Z).below b1)
    have RN := hide ((unhide R0).below b1)
    have BN := hide (belows (unhide B) b1)
    clear K Z R0 B
    have K := KN
    have Z := ZN
    have R0 := RN
    have B := BN
    clear KN ZN RN BN
    clear b1 HCK
    have c0 := (unhide K).cell 0
    have c1 := (unhide K).cell 1
    have c2 := (unhide K).cell 2
    have c3 := (unhide K).cell 3
    have c4 := (unhide K).cell 4
    simp only [List.getElem?_toArray, List.getElem?_cons_succ, List.getElem?_cons_zero] at c0 c1 c2 c3 c4
    go_wp2_with fail
    clear c0 c1 c2 c3 c4
    refine (unhide HCP _ (unhide R0)).mono ?_
    rintro e w3 ⟨v3, rfl, own3, b3⟩
    have hs3 := b3.size
    have hsb := (unhide B).size
    have hzz := (unhide Z).lt
    have hz3 : w.heap.size + 1 < w3.heap.size := Nat.lt_of_lt_of_le (unhide Z).lt b3.size
    obtain ⟨a3, cap3, rfl⟩ := own_form own3
    have bal : Below w3.heap.size w3 (w3.alloc (Obj.cells #[.int .i64 d.room, .slice a3 N cap3, .int .i64 d.fuse, .int .i64 d.fault, .bool d.down] 24)) := (Below.refl _ _).alloc (Nat.le_refl _) _
    have KX := hide (Blk.new w3 24 #[.int .i64 d.room, .slice a3 N cap3, .int .i64 d.fuse, .int .i64 d.fault, .bool d.down])
    have ownX := own_below own3 bal
    have KN := hide ((unhide K).below b3)
    have ZN := hide ((unhide Z).below b3)
    have RN := hide ((unhide R0).below b3)
    have BN := hide (belows (unhide B) b3)
    clear K Z R0 B
    have K := KN
    have Z := ZN
    have R0 := RN
    have B := BN
    clear KN ZN RN BN
    have KN := hide ((unhide K).below bal)
    have ZN := hide ((unhide Z).below bal)
    have RN := hide ((unhide R0).below bal)
    have BN := hide (belows (unhide B) bal)
    clear K Z R0 B
    have K := KN
    have Z := ZN
    have R0 := RN
    have B := BN
    clear KN ZN RN BN
    have OWX := hide ownX
    clear bal b3 own3 ownX HCP
    obtain ⟨C, hC⟩ : ∃ C, w1.heap.size = C := ⟨_, rfl⟩
    rw [hC] at OWX hsb
    have hCz : w.heap.size + 1 < C := by rw [← hC]; exact hzz
    have hC3 : C ≤ w3.heap.size := by rw [← hC]; exact hs3
    clear hC hs3
    go_wp2
    generalize (w3.alloc (Obj.cells #[.int .i64 d.room, .slice a3 N cap3, .int .i64 d.fuse, .int .i64 d.fault, .bool d.down] 24)) = X at *
    have HX3 : Hid (w3.heap.size < X.heap.size) := hide (unhide KX).lt
    go_loopw [7, 8, 9, 19] (fun x y u z wr => ∃ k : Nat, z = .int .i64 k ∧ k ≤ N ∧ Hid (wr.ownsRow C 56 3 (.slice a3 N cap3) N (flatF (crashL keep k d.files)) ∧ Blk wr w3.heap.size 24 #[.int .i64 d.room, .slice a3 N cap3, .int .i64 d.fuse, .int .i64 d.fault, .bool d.down] ∧ Blk wr (w.heap.size + 1) 24 #[.int .i64 0, .slice none 0 0, .int .i64 0, .int .i64 0, .bool false] ∧ Below w.heap.size w wr)) (fun _ _ _ z _ => N - (intOf z).toNat)
    case atStart => exact ⟨0, rfl, Nat.zero_le _, hide ⟨by rw [crashL_zero]; exact unhide OWX, unhide KX, unhide Z, unhide B⟩⟩
    case round =>
      obtain ⟨k, rfl, hk, HV⟩ := hrel
      by_cases hlt : k < N
      · have hkd : k < d.files.length := by have := unhide HN; omega
        have hkc : k < (crashL keep k d.files).length := by rw [crashL_len]; exact hkd
        have hat := crashL_at keep k d.files hkd hkc
        obtain ⟨g, cap5, hv5, hgC, hgl, hcel, hfrz⟩ := own_at3 (unhide HV).1 (by rw [crashL_len]; exact unhide HN) hkc
        rw [hat] at hcel
        injection hv5 with e1 _ e3
        subst e1 e3
        obtain ⟨o1, o2, o3⟩ := unhide HFO k hkd
        have hmo := moreK_le keep k o2
        have HMO : Hid (moreK keep k d.files[k] = if k < keep.length then min (max (keep[k]!) 0) (d.files[k].data.size - d.files[k].synced) else 0) := hide rfl
        have hwb := (unhide HV).2.2.2
        have hws := hwb.size
        have bal : Below wr.heap.size wr (wr.alloc (Obj.cells #[.string d.files[k].name, .string d.files[k].data, .int .i64 d.files[k].synced] 56)) := (Below.refl _ _).alloc (Nat.le_refl _) _
        have OW := hide (own_below (unhide HV).1 bal)
        have KB := hide ((unhide HV).2.1.below bal)
        have ZB := hide ((unhide HV).2.2.1.below bal)
        have BB := hide (belows hwb bal)
        have KF := hide (Blk.new wr 56 #[.string d.files[k].name, .string d.files[k].data, .int .i64 d.files[k].synced])
        have y0 := hcel.1
        have y1 := hcel.2.1
        have y2 := hcel.2.2
        have c1 := (unhide HV).2.1.cell 1
        simp only [List.getElem?_toArray, List.getElem?_cons_succ, List.getElem?_cons_zero] at c1
        have hlt1 : (k : Int) < (N : Int) := by omega
        have nxg : w3.heap.size ≠ g := blkz_ne (unhide HV).2.1 (own_heap (unhide HV).1) (by decide)
        have nzg : w.heap.size + 1 ≠ g := blkz_ne (unhide HV).2.2.1 (own_heap (unhide HV).1) (by decide)
        have nfg : wr.heap.size ≠ g := by omega
        have hwg : w.heap.size ≤ g := by omega
        obtain ⟨T, hT⟩ : ∃ T : Int, d.files[k].synced + moreK keep k d.files[k] = T := ⟨_, rfl⟩
        have hT0 : 0 ≤ T := by omega
        have hT1 : T ≤ (d.files[k].data.size : Int) := by omega
        have hsl := fun W => slice_upto d.files[k].data T T.toNat (by omega) (by omega) W
        have HST : Hid (∀ (Y : World), Y.ownsRow C 56 3 (.slice (some ⟨g, 0, none⟩) N cap3) N (flatF (crashL keep k d.files)) → ((Y.setCell ⟨g, k * 3 + 1, none⟩ (.string (d.files[k].data.extract 0 T.toNat))).setCell ⟨g, k * 3 + 2, none⟩ (.int .i64 T)).ownsRow C 56 3 (.slice (some ⟨g, 0, none⟩) N cap3) N (flatF (crashL keep (k + 1) d.files))) := hide (fun Y hY => by
          have hs := (hY.stored (k * 3 + 1) (.string (d.files[k].data.extract 0 T.toNat))).1
          rw [flatF_set1 (crashL keep k d.files) k hkc { d.files[k] with data := d.files[k].data.extract 0 T.toNat } 1 _ (by omega) (by rw [hat]; rfl)] at hs
          have hs2 := (hs.stored (k * 3 + 2) (.int .i64 T)).1
          rw [flatF_set1 ((crashL keep k d.files).set k { d.files[k] with data := d.files[k].data.extract 0 T.toNat }) k (by rw [List.length_set]; exact hkc) (keepAt keep k d.files[k]) 2 _ (by omega) (by rw [keepAt_eq, hT]; simp [cellsF]), setset, crashL_step keep k d.files hkd] at hs2
          exact hs2)
        have g1 : (wr.alloc (Obj.cells #[.string d.files[k].name, .string d.files[k].data, .int .i64 d.files[k].synced] 56)).cell? ⟨g, k * 3 + 1, none⟩ = some (.string d.files[k].data) := (bal.cell (p := ⟨g, k * 3 + 1, none⟩) hgl).trans y1
        have g2 : (wr.alloc (Obj.cells #[.string d.files[k].name, .string d.files[k].data, .int .i64 d.files[k].synced] 56)).cell? ⟨g, k * 3 + 2, none⟩ = some (.int .i64 d.files[k].synced) := (bal.cell (p := ⟨g, k * 3 + 2, none⟩) hgl).trans y2
        have z1 : (wr.alloc (Obj.cells #[.string d.files[k].name, .string d.files[k].data, .int .i64 d.files[k].synced] 56)).frozen? ⟨g, k * 3 + 1, none⟩ = false := (bal.frozen (p := ⟨g, k * 3 + 1, none⟩) hgl).trans (hfrz _)
        have z2 : (wr.alloc (Obj.cells #[.string d.files[k].name, .string d.files[k].data, .int .i64 d.files[k].synced] 56)).frozen? ⟨g, k * 3 + 2, none⟩ = false := (bal.frozen (p := ⟨g, k * 3 + 2, none⟩) hgl).trans (hfrz _)
        have x1 := (unhide KB).cell 1
        have f1 := (unhide KF).cell 1
        have f2 := (unhide KF).cell 2
        simp only [List.getElem?_toArray, List.getElem?_cons_succ, List.getElem?_cons_zero] at x1 f1 f2
        have nfx : w3.heap.size ≠ g := nxg
        clear hcel hfrz hat hwb bal HV
        generalize moreK keep k d.files[k] = mo at *
        generalize d.files[k].name = n0 at *
        generalize d.files[k].data = dt at *
        generalize d.files[k].synced = sy at *
        have hmq := unhide HMO
        clear HMO
        obtain ⟨hm1, hm2⟩ := hmo
        by_cases hkk : k < keep.length
        · have hgk : keep[k]! = keep[k] := getElem!_pos keep k hkk
          rw [if_pos hkk, hgk] at hmq
          obtain ⟨b, off, rfl, hb, hkcl⟩ : ∃ b off, ka = some ⟨b, off, none⟩ ∧ b < w.heap.size ∧ ∀ j (h : j < keep.length), w.cell? ⟨b, off + j, none⟩ = some (.int .i64 keep[j]) := by
            rcases unhide HKC with h0 | h0
            · rw [h0] at hkk; simp at hkk
            · exact h0
          have kx := ((unhide BB).cell (p := ⟨b, off + k, none⟩) hb).trans (hkcl k hkk)
          have hkk1 : (k : Int) < (keep.length : Int) := by omega
          have hkk2 : decide ((k : Int) < (keep.length : Int)) = true := decide_eq_true hkk1
          have hkv := unhide HKF _ (List.getElem_mem hkk)
          clear hgk hkcl
          generalize keep[k] = kv at kx hmq hkv
          generalize keep.length = kn at hkk hkk1 hkk2 hk63
          obtain ⟨hkv1, hkv2⟩ := hkv
          by_cases hp : kv > 0
          · have dp : decide (kv > 0) = true := decide_eq_true hp
            by_cases hbg : kv > (dt.size : Int) - sy
            · have db : decide (kv > (dt.size : Int) - sy) = true := decide_eq_true hbg
              have hT2 : T = (dt.size : Int) := by omega
              have hwT : IntKind.i64.wrap (sy + ((dt.size : Int) - sy)) = T := by rw [show sy + ((dt.size : Int) - sy) = T by omega, IntKind.wrap_i64]; omega
              go_upto_region 12 with (fail)
              clear c1 y0 y1 y2
              generalize (wr.alloc (Obj.cells #[.string n0, .string dt, .int .i64 sy] 56)) = F at *
              clear db hbg hT2 hm2 hmq
              generalize ((dt.size : Int) - sy) = rm at *
              have OWY : Hid (((F.setCell ⟨g, k * 3 + 1, none⟩ (.string (dt.extract 0 T.toNat))).drew.setCell ⟨g, k * 3 + 2, none⟩ (.int .i64 T)).ownsRow C 56 3 (.slice (some ⟨g, 0, none⟩) N cap3) N (flatF (crashL keep (k + 1) d.files))) := hide (unhide HST _ (unhide OW))
              have KY : Hid (Blk ((F.setCell ⟨g, k * 3 + 1, none⟩ (.string (dt.extract 0 T.toNat))).drew.setCell ⟨g, k * 3 + 2, none⟩ (.int .i64 T)) w3.heap.size 24 #[.int .i64 d.room, .slice (some ⟨g, 0, none⟩) N cap3, .int .i64 d.fuse, .int .i64 d.fault, .bool d.down]) := hide (blk_far (b := g) (i := k * 3 + 2) (blk_far (b := g) (i := k * 3 + 1) (unhide KB) nxg (.string (dt.extract 0 T.toNat))) nxg (.int .i64 T))
              have ZY : Hid (Blk ((F.setCell ⟨g, k * 3 + 1, none⟩ (.string (dt.extract 0 T.toNat))).drew.setCell ⟨g, k * 3 + 2, none⟩ (.int .i64 T)) (w.heap.size + 1) 24 #[.int .i64 0, .slice none 0 0, .int .i64 0, .int .i64 0, .bool false]) := hide (blk_far (b := g) (i := k * 3 + 2) (blk_far (b := g) (i := k * 3 + 1) (unhide ZB) nzg (.string (dt.extract 0 T.toNat))) nzg (.int .i64 T))
              have BY : Hid (Below w.heap.size w ((F.setCell ⟨g, k * 3 + 1, none⟩ (.string (dt.extract 0 T.toNat))).drew.setCell ⟨g, k * 3 + 2, none⟩ (.int .i64 T))) := hide (by have h := ((unhide BB).setCell (p := ⟨g, k * 3 + 1, none⟩) hwg (.string (dt.extract 0 T.toNat))).setCell (p := ⟨g, k * 3 + 2, none⟩) hwg (.int .i64 T); exact ⟨h.os, h.tape, h.output, h.size, h.block⟩)
              have x1b : (F.setCell ⟨g, k * 3 + 1, none⟩ (.string (dt.extract 0 T.toNat))).drew.cell? ⟨w3.heap.size, 1, none⟩ = some (.slice (some ⟨g, 0, none⟩) N cap3) := (World.cell?_setCell_far _ _ _ _ (fun e => nxg e.symm)).trans x1
              have f2b : (F.setCell ⟨g, k * 3 + 1, none⟩ (.string (dt.extract 0 T.toNat))).drew.cell? ⟨wr.heap.size, 2, none⟩ = some (.int .i64 sy) := (World.cell?_setCell_far _ _ _ _ (fun e => nfg e.symm)).trans f2
              have g2b : (F.setCell ⟨g, k * 3 + 1, none⟩ (.string (dt.extract 0 T.toNat))).drew.cell? ⟨g, k * 3 + 2, none⟩ = some (.int .i64 sy) := (World.cell?_setCell_other _ _ _ _ (by simp)).trans g2
              have z2b : (F.setCell ⟨g, k * 3 + 1, none⟩ (.string (dt.extract 0 T.toNat))).drew.frozen? ⟨g, k * 3 + 2, none⟩ = false := by show World.frozen? (F.setCell ⟨g, k * 3 + 1, none⟩ (.string (dt.extract 0 T.toNat))) _ = false; simp [z2]
              clear OW KB ZB BB HST
              refine wp_region_held_drew (S := fun w' => w'.cell? ⟨w3.heap.size, 1, none⟩ = some (.slice (some ⟨g, 0, none⟩) N cap3) ∧ w'.cell? ⟨wr.heap.size, 1, none⟩ = some (.string dt) ∧ w'.cell? ⟨wr.heap.size, 2, none⟩ = some (.int .i64 sy)) (by kernel_rfl) ?_ (fun hHeld => ?_)
              · exact ⟨x1, f1, f2⟩
              refine wpAnyH_take (i := 0) (v := .pointer (some ⟨w3.heap.size, 1, none⟩)) rfl (by kernel_rfl) (by kernel_rfl) (by kernel_rfl) (fun _ _ _ h => h) (Or.inl ⟨by rfl, fun wS hSw => ?_⟩) (by assumption) ?_
              · (try dsimp only at hSw); go_simp
              (try simp only [Act.put, List.setIfInBounds_toArray, List.set_cons_zero, List.set_cons_succ])
              refine wpAnyH_take (i := 1) (v := .slice (some ⟨g, 0, none⟩) N cap3) rfl (by kernel_rfl) (by kernel_rfl) (by kernel_rfl) (fun _ _ _ h => h) (Or.inl ⟨by rfl, fun wS hSw => ?_⟩) (by assumption) ?_
              · (try dsimp only at hSw); go_simp
              (try simp only [Act.put, List.setIfInBounds_toArray, List.set_cons_zero, List.set_cons_succ])
              refine wpAnyH_take (i := 2) (v := .int .i64 (k : Int)) rfl (by kernel_rfl) (by kernel_rfl) (by kernel_rfl) (fun _ _ _ h => h) (Or.inl ⟨by rfl, fun wS hSw => ?_⟩) (by assumption) ?_
              · (try dsimp only at hSw); go_simp
              (try simp only [Act.put, List.setIfInBounds_toArray, List.set_cons_zero, List.set_cons_succ])
              refine wpAnyH_take (i := 3) (v := .pointer (some ⟨wr.heap.size, 1, none⟩)) rfl (by kernel_rfl) (by kernel_rfl) (by kernel_rfl) (fun _ _ _ h => h) (Or.inl ⟨by rfl, fun wS hSw => ?_⟩) (by assumption) ?_
              · (try dsimp only at hSw); go_simp
              (try simp only [Act.put, List.setIfInBounds_toArray, List.set_cons_zero, List.set_cons_succ])
              refine wpAnyH_take (i := 4) (v := .string dt) rfl (by kernel_rfl) (by kernel_rfl) (by kernel_rfl) (fun _ _ _ h => h) (Or.inl ⟨by rfl, fun wS hSw => ?_⟩) (by assumption) ?_
              · (try dsimp only at hSw); go_simp
              (try simp only [Act.put, List.setIfInBounds_toArray, List.set_cons_zero, List.set_cons_succ])
              refine wpAnyH_take (i := 5) (v := .pointer (some ⟨wr.heap.size, 2, none⟩)) rfl (by kernel_rfl) (by kernel_rfl) (by kernel_rfl) (fun _ _ _ h => h) (Or.inl ⟨by rfl, fun wS hSw => ?_⟩) (by assumption) ?_
              · (try dsimp only at hSw); go_simp
              (try simp only [Act.put, List.setIfInBounds_toArray, List.set_cons_zero, List.set_cons_succ])
              refine wpAnyH_take (i := 6) (v := .int .i64 sy) rfl (by kernel_rfl) (by kernel_rfl) (by kernel_rfl) (fun _ _ _ h => h) (Or.inl ⟨by rfl, fun wS hSw => ?_⟩) (by assumption) ?_
              · (try dsimp only at hSw); go_simp
              (try simp only [Act.put, List.setIfInBounds_toArray, List.set_cons_zero, List.set_cons_succ])
              refine wpAnyH_take (i := 7) (v := .int .i64 rm) rfl (by kernel_rfl) (by kernel_rfl) (by kernel_rfl) (fun _ _ _ h => h) (Or.inl ⟨by rfl, fun wS hSw => ?_⟩) (by assumption) ?_
              · (try dsimp only at hSw); go_simp
              (try simp only [Act.put, List.setIfInBounds_toArray, List.set_cons_zero, List.set_cons_succ])
              refine wpAnyH_take (i := 8) (v := .int .i64 T) rfl (by kernel_rfl) (by kernel_rfl) (by kernel_rfl) (fun _ _ _ h => h) (Or.inl ⟨by rfl, fun wS hSw => ?_⟩) (by assumption) ?_
              · (try dsimp only at hSw); go_simp
              (try simp only [Act.put, List.setIfInBounds_toArray, List.set_cons_zero, List.set_cons_succ])
              refine wpAnyH_take (i := 9) (v := .string (dt.extract 0 T.toNat)) rfl (by kernel_rfl) (by kernel_rfl) (by kernel_rfl) (fun _ _ _ h => h) (Or.inl ⟨by rfl, fun wS hSw => ?_⟩) (by assumption) ?_
              · (try dsimp only at hSw); go_simp
              (try simp only [Act.put, List.setIfInBounds_toArray, List.set_cons_zero, List.set_cons_succ])
              refine wpAnyH_take (i := 10) (v := .pointer (some ⟨g, k * 3, none⟩)) rfl (by kernel_rfl) (by kernel_rfl) (by kernel_rfl) (fun _ _ _ h => h) (Or.inl ⟨by rfl, fun wS hSw => ?_⟩) (by assumption) ?_
              · (try dsimp only at hSw); go_simp
              (try simp only [Act.put, List.setIfInBounds_toArray, List.set_cons_zero, List.set_cons_succ])
              refine wpAnyH_take (i := 11) (v := .pointer (some ⟨g, k * 3 + 1, none⟩)) rfl (by kernel_rfl) (by kernel_rfl) (by kernel_rfl) (fun _ _ _ h => h) (Or.inl ⟨by rfl, fun wS hSw => ?_⟩) (by assumption) ?_
              · (try dsimp only at hSw); go_simp
              (try simp only [Act.put, List.setIfInBounds_toArray, List.set_cons_zero, List.set_cons_succ])
              refine wpAnyH_ready (rs := [12]) (by kernel_rfl) (by simp) ?_
              refine AllReadyH.cons rfl (fun K hK => ?_) AllReadyH.nil
              go_simp
              refine hK.out _ _ ?_ (fun hHeld => ?_)
              · exact ⟨(World.cell?_setCell_far _ _ _ _ (fun e => nxg e.symm)).trans x1, (World.cell?_setCell_far _ _ _ _ (fun e => nfg e.symm)).trans f1, (World.cell?_setCell_far _ _ _ _ (fun e => nfg e.symm)).trans f2⟩
              clear hK K
              (try simp only [Act.put, List.setIfInBounds_toArray, List.set_cons_zero, List.set_cons_succ])
              refine wpAnyH_done (by kernel_rfl) ?_ _
              clear hHeld hsl f1 f2 g1 g2 z1 z2 x1
              generalize (F.setCell ⟨g, k * 3 + 1, none⟩ (.string (dt.extract 0 T.toNat))).drew = Y at *
              go_wp2
              exact ⟨⟨k + 1, by go_num, by omega, hide ⟨unhide OWY, unhide KY, unhide ZY, unhide BY⟩⟩, by simp [intOf]; omega⟩
            · have db : decide (kv > (dt.size : Int) - sy) = false := decide_eq_false hbg
              have hwT : IntKind.i64.wrap (sy + kv) = T := by rw [show sy + kv = T by omega, IntKind.wrap_i64]; omega
              go_upto_region 12 with (fail)
              clear c1 y0 y1 y2
              generalize (wr.alloc (Obj.cells #[.string n0, .string dt, .int .i64 sy] 56)) = F at *
              have OWY : Hid (((F.setCell ⟨g, k * 3 + 1, none⟩ (.string (dt.extract 0 T.toNat))).drew.setCell ⟨g, k * 3 + 2, none⟩ (.int .i64 T)).ownsRow C 56 3 (.slice (some ⟨g, 0, none⟩) N cap3) N (flatF (crashL keep (k + 1) d.files))) := hide (unhide HST _ (unhide OW))
              have KY : Hid (Blk ((F.setCell ⟨g, k * 3 + 1, none⟩ (.string (dt.extract 0 T.toNat))).drew.setCell ⟨g, k * 3 + 2, none⟩ (.int .i64 T)) w3.heap.size 24 #[.int .i64 d.room, .slice (some ⟨g, 0, none⟩) N cap3, .int .i64 d.fuse, .int .i64 d.fault, .bool d.down]) := hide (blk_far (b := g) (i := k * 3 + 2) (blk_far (b := g) (i := k * 3 + 1) (unhide KB) nxg (.string (dt.extract 0 T.toNat))) nxg (.int .i64 T))
              have ZY : Hid (Blk ((F.setCell ⟨g, k * 3 + 1, none⟩ (.string (dt.extract 0 T.toNat))).drew.setCell ⟨g, k * 3 + 2, none⟩ (.int .i64 T)) (w.heap.size + 1) 24 #[.int .i64 0, .slice none 0 0, .int .i64 0, .int .i64 0, .bool false]) := hide (blk_far (b := g) (i := k * 3 + 2) (blk_far (b := g) (i := k * 3 + 1) (unhide ZB) nzg (.string (dt.extract 0 T.toNat))) nzg (.int .i64 T))
              have BY : Hid (Below w.heap.size w ((F.setCell ⟨g, k * 3 + 1, none⟩ (.string (dt.extract 0 T.toNat))).drew.setCell ⟨g, k * 3 + 2, none⟩ (.int .i64 T))) := hide (by have h := ((unhide BB).setCell (p := ⟨g, k * 3 + 1, none⟩) hwg (.string (dt.extract 0 T.toNat))).setCell (p := ⟨g, k * 3 + 2, none⟩) hwg (.int .i64 T); exact ⟨h.os, h.tape, h.output, h.size, h.block⟩)
              have x1b : (F.setCell ⟨g, k * 3 + 1, none⟩ (.string (dt.extract 0 T.toNat))).drew.cell? ⟨w3.heap.size, 1, none⟩ = some (.slice (some ⟨g, 0, none⟩) N cap3) := (World.cell?_setCell_far _ _ _ _ (fun e => nxg e.symm)).trans x1
              have f2b : (F.setCell ⟨g, k * 3 + 1, none⟩ (.string (dt.extract 0 T.toNat))).drew.cell? ⟨wr.heap.size, 2, none⟩ = some (.int .i64 sy) := (World.cell?_setCell_far _ _ _ _ (fun e => nfg e.symm)).trans f2
              have g2b : (F.setCell ⟨g, k * 3 + 1, none⟩ (.string (dt.extract 0 T.toNat))).drew.cell? ⟨g, k * 3 + 2, none⟩ = some (.int .i64 sy) := (World.cell?_setCell_other _ _ _ _ (by simp)).trans g2
              have z2b : (F.setCell ⟨g, k * 3 + 1, none⟩ (.string (dt.extract 0 T.toNat))).drew.frozen? ⟨g, k * 3 + 2, none⟩ = false := by show World.frozen? (F.setCell ⟨g, k * 3 + 1, none⟩ (.string (dt.extract 0 T.toNat))) _ = false; simp [z2]
              clear OW KB ZB BB HST
              refine wp_region_held_drew (S := fun w' => w'.cell? ⟨w3.heap.size, 1, none⟩ = some (.slice (some ⟨g, 0, none⟩) N cap3) ∧ w'.cell? ⟨wr.heap.size, 1, none⟩ = some (.string dt) ∧ w'.cell? ⟨wr.heap.size, 2, none⟩ = some (.int .i64 sy)) (by kernel_rfl) ?_ (fun hHeld => ?_)
              · exact ⟨x1, f1, f2⟩
              refine wpAnyH_take (i := 0) (v := .pointer (some ⟨w3.heap.size, 1, none⟩)) rfl (by kernel_rfl) (by kernel_rfl) (by kernel_rfl) (fun _ _ _ h => h) (Or.inl ⟨by rfl, fun wS hSw => ?_⟩) (by assumption) ?_
              · (try dsimp only at hSw); go_simp
              (try simp only [Act.put, List.setIfInBounds_toArray, List.set_cons_zero, List.set_cons_succ])
              refine wpAnyH_take (i := 1) (v := .slice (some ⟨g, 0, none⟩) N cap3) rfl (by kernel_rfl) (by kernel_rfl) (by kernel_rfl) (fun _ _ _ h => h) (Or.inl ⟨by rfl, fun wS hSw => ?_⟩) (by assumption) ?_
              · (try dsimp only at hSw); go_simp
              (try simp only [Act.put, List.setIfInBounds_toArray, List.set_cons_zero, List.set_cons_succ])
              refine wpAnyH_take (i := 2) (v := .int .i64 (k : Int)) rfl (by kernel_rfl) (by kernel_rfl) (by kernel_rfl) (fun _ _ _ h => h) (Or.inl ⟨by rfl, fun wS hSw => ?_⟩) (by assumption) ?_
              · (try dsimp only at hSw); go_simp
              (try simp only [Act.put, List.setIfInBounds_toArray, List.set_cons_zero, List.set_cons_succ])
              refine wpAnyH_take (i := 3) (v := .pointer (some ⟨wr.heap.size, 1, none⟩)) rfl (by kernel_rfl) (by kernel_rfl) (by kernel_rfl) (fun _ _ _ h => h) (Or.inl ⟨by rfl, fun wS hSw => ?_⟩) (by assumption) ?_
              · (try dsimp only at hSw); go_simp
              (try simp only [Act.put, List.setIfInBounds_toArray, List.set_cons_zero, List.set_cons_succ])
              refine wpAnyH_take (i := 4) (v := .string dt) rfl (by kernel_rfl) (by kernel_rfl) (by kernel_rfl) (fun _ _ _ h => h) (Or.inl ⟨by rfl, fun wS hSw => ?_⟩) (by assumption) ?_
              · (try dsimp only at hSw); go_simp
              (try simp only [Act.put, List.setIfInBounds_toArray, List.set_cons_zero, List.set_cons_succ])
              refine wpAnyH_take (i := 5) (v := .pointer (some ⟨wr.heap.size, 2, none⟩)) rfl (by kernel_rfl) (by kernel_rfl) (by kernel_rfl) (fun _ _ _ h => h) (Or.inl ⟨by rfl, fun wS hSw => ?_⟩) (by assumption) ?_
              · (try dsimp only at hSw); go_simp
              (try simp only [Act.put, List.setIfInBounds_toArray, List.set_cons_zero, List.set_cons_succ])
              refine wpAnyH_take (i := 6) (v := .int .i64 sy) rfl (by kernel_rfl) (by kernel_rfl) (by kernel_rfl) (fun _ _ _ h => h) (Or.inl ⟨by rfl, fun wS hSw => ?_⟩) (by assumption) ?_
              · (try dsimp only at hSw); go_simp
              (try simp only [Act.put, List.setIfInBounds_toArray, List.set_cons_zero, List.set_cons_succ])
              refine wpAnyH_take (i := 7) (v := .int .i64 kv) rfl (by kernel_rfl) (by kernel_rfl) (by kernel_rfl) (fun _ _ _ h => h) (Or.inl ⟨by rfl, fun wS hSw => ?_⟩) (by assumption) ?_
              · (try dsimp only at hSw); go_simp
              (try simp only [Act.put, List.setIfInBounds_toArray, List.set_cons_zero, List.set_cons_succ])
              refine wpAnyH_take (i := 8) (v := .int .i64 T) rfl (by kernel_rfl) (by kernel_rfl) (by kernel_rfl) (fun _ _ _ h => h) (Or.inl ⟨by rfl, fun wS hSw => ?_⟩) (by assumption) ?_
              · (try dsimp only at hSw); go_simp
              (try simp only [Act.put, List.setIfInBounds_toArray, List.set_cons_zero, List.set_cons_succ])
              refine wpAnyH_take (i := 9) (v := .string (dt.extract 0 T.toNat)) rfl (by kernel_rfl) (by kernel_rfl) (by kernel_rfl) (fun _ _ _ h => h) (Or.inl ⟨by rfl, fun wS hSw => ?_⟩) (by assumption) ?_
              · (try dsimp only at hSw); go_simp
              (try simp only [Act.put, List.setIfInBounds_toArray, List.set_cons_zero, List.set_cons_succ])
              refine wpAnyH_take (i := 10) (v := .pointer (some ⟨g, k * 3, none⟩)) rfl (by kernel_rfl) (by kernel_rfl) (by kernel_rfl) (fun _ _ _ h => h) (Or.inl ⟨by rfl, fun wS hSw => ?_⟩) (by assumption) ?_
              · (try dsimp only at hSw); go_simp
              (try simp only [Act.put, List.setIfInBounds_toArray, List.set_cons_zero, List.set_cons_succ])
              refine wpAnyH_take (i := 11) (v := .pointer (some ⟨g, k * 3 + 1, none⟩)) rfl (by kernel_rfl) (by kernel_rfl) (by kernel_rfl) (fun _ _ _ h => h) (Or.inl ⟨by rfl, fun wS hSw => ?_⟩) (by assumption) ?_
              · (try dsimp only at hSw); go_simp
              (try simp only [Act.put, List.setIfInBounds_toArray, List.set_cons_zero, List.set_cons_succ])
              refine wpAnyH_ready (rs := [12]) (by kernel_rfl) (by simp) ?_
              refine AllReadyH.cons rfl (fun K hK => ?_) AllReadyH.nil
              go_simp
              refine hK.out _ _ ?_ (fun hHeld => ?_)
              · exact ⟨(World.cell?_setCell_far _ _ _ _ (fun e => nxg e.symm)).trans x1, (World.cell?_setCell_far _ _ _ _ (fun e => nfg e.symm)).trans f1, (World.cell?_setCell_far _ _ _ _ (fun e => nfg e.symm)).trans f2⟩
              clear hK K
              (try simp only [Act.put, List.setIfInBounds_toArray, List.set_cons_zero, List.set_cons_succ])
              refine wpAnyH_done (by kernel_rfl) ?_ _
              clear hHeld hsl f1 f2 g1 g2 z1 z2 x1
              generalize (F.setCell ⟨g, k * 3 + 1, none⟩ (.string (dt.extract 0 T.toNat))).drew = Y at *
              go_wp2
              exact ⟨⟨k + 1, by go_num, by omega, hide ⟨unhide OWY, unhide KY, unhide ZY, unhide BY⟩⟩, by simp [intOf]; omega⟩
          · have dp : decide (kv > 0) = false := decide_eq_false hp
            have hT2 : T = sy := by omega
            subst hT2
            have hrem : ¬ (0 : Int) > (dt.size : Int) - T := by omega
            have hremb : decide ((0 : Int) > (dt.size : Int) - T) = false := decide_eq_false hrem
            have hwT : IntKind.i64.wrap T = T := by rw [IntKind.wrap_i64]; omega
            go_upto_region 12 with (fail)
            clear c1 y0 y1 y2
            generalize (wr.alloc (Obj.cells #[.string n0, .string dt, .int .i64 T] 56)) = F at *
            have OWY : Hid (((F.setCell ⟨g, k * 3 + 1, none⟩ (.string (dt.extract 0 T.toNat))).drew.setCell ⟨g, k * 3 + 2, none⟩ (.int .i64 T)).ownsRow C 56 3 (.slice (some ⟨g, 0, none⟩) N cap3) N (flatF (crashL keep (k + 1) d.files))) := hide (unhide HST _ (unhide OW))
            have KY : Hid (Blk ((F.setCell ⟨g, k * 3 + 1, none⟩ (.string (dt.extract 0 T.toNat))).drew.setCell ⟨g, k * 3 + 2, none⟩ (.int .i64 T)) w3.heap.size 24 #[.int .i64 d.room, .slice (some ⟨g, 0, none⟩) N cap3, .int .i64 d.fuse, .int .i64 d.fault, .bool d.down]) := hide (blk_far (b := g) (i := k * 3 + 2) (blk_far (b := g) (i := k * 3 + 1) (unhide KB) nxg (.string (dt.extract 0 T.toNat))) nxg (.int .i64 T))
            have ZY : Hid (Blk ((F.setCell ⟨g, k * 3 + 1, none⟩ (.string (dt.extract 0 T.toNat))).drew.setCell ⟨g, k * 3 + 2, none⟩ (.int .i64 T)) (w.heap.size + 1) 24 #[.int .i64 0, .slice none 0 0, .int .i64 0, .int .i64 0, .bool false]) := hide (blk_far (b := g) (i := k * 3 + 2) (blk_far (b := g) (i := k * 3 + 1) (unhide ZB) nzg (.string (dt.extract 0 T.toNat))) nzg (.int .i64 T))
            have BY : Hid (Below w.heap.size w ((F.setCell ⟨g, k * 3 + 1, none⟩ (.string (dt.extract 0 T.toNat))).drew.setCell ⟨g, k * 3 + 2, none⟩ (.int .i64 T))) := hide (by have h := ((unhide BB).setCell (p := ⟨g, k * 3 + 1, none⟩) hwg (.string (dt.extract 0 T.toNat))).setCell (p := ⟨g, k * 3 + 2, none⟩) hwg (.int .i64 T); exact ⟨h.os, h.tape, h.output, h.size, h.block⟩)
            have x1b : (F.setCell ⟨g, k * 3 + 1, none⟩ (.string (dt.extract 0 T.toNat))).drew.cell? ⟨w3.heap.size, 1, none⟩ = some (.slice (some ⟨g, 0, none⟩) N cap3) := (World.cell?_setCell_far _ _ _ _ (fun e => nxg e.symm)).trans x1
            have f2b : (F.setCell ⟨g, k * 3 + 1, none⟩ (.string (dt.extract 0 T.toNat))).drew.cell? ⟨wr.heap.size, 2, none⟩ = some (.int .i64 T) := (World.cell?_setCell_far _ _ _ _ (fun e => nfg e.symm)).trans f2
            have g2b : (F.setCell ⟨g, k * 3 + 1, none⟩ (.string (dt.extract 0 T.toNat))).drew.cell? ⟨g, k * 3 + 2, none⟩ = some (.int .i64 T) := (World.cell?_setCell_other _ _ _ _ (by simp)).trans g2
            have z2b : (F.setCell ⟨g, k * 3 + 1, none⟩ (.string (dt.extract 0 T.toNat))).drew.frozen? ⟨g, k * 3 + 2, none⟩ = false := by show World.frozen? (F.setCell ⟨g, k * 3 + 1, none⟩ (.string (dt.extract 0 T.toNat))) _ = false; simp [z2]
            clear OW KB ZB BB HST
            refine wp_region_held_drew (S := fun w' => w'.cell? ⟨w3.heap.size, 1, none⟩ = some (.slice (some ⟨g, 0, none⟩) N cap3) ∧ w'.cell? ⟨wr.heap.size, 1, none⟩ = some (.string dt) ∧ w'.cell? ⟨wr.heap.size, 2, none⟩ = some (.int .i64 T)) (by kernel_rfl) ?_ (fun hHeld => ?_)
            · exact ⟨x1, f1, f2⟩
            refine wpAnyH_take (i := 0) (v := .pointer (some ⟨w3.heap.size, 1, none⟩)) rfl (by kernel_rfl) (by kernel_rfl) (by kernel_rfl) (fun _ _ _ h => h) (Or.inl ⟨by rfl, fun wS hSw => ?_⟩) (by assumption) ?_
            · (try dsimp only at hSw); go_simp
            (try simp only [Act.put, List.setIfInBounds_toArray, List.set_cons_zero, List.set_cons_succ])
            refine wpAnyH_take (i := 1) (v := .slice (some ⟨g, 0, none⟩) N cap3) rfl (by kernel_rfl) (by kernel_rfl) (by kernel_rfl) (fun _ _ _ h => h) (Or.inl ⟨by rfl, fun wS hSw => ?_⟩) (by assumption) ?_
            · (try dsimp only at hSw); go_simp
            (try simp only [Act.put, List.setIfInBounds_toArray, List.set_cons_zero, List.set_cons_succ])
            refine wpAnyH_take (i := 2) (v := .int .i64 (k : Int)) rfl (by kernel_rfl) (by kernel_rfl) (by kernel_rfl) (fun _ _ _ h => h) (Or.inl ⟨by rfl, fun wS hSw => ?_⟩) (by assumption) ?_
            · (try dsimp only at hSw); go_simp
            (try simp only [Act.put, List.setIfInBounds_toArray, List.set_cons_zero, List.set_cons_succ])
            refine wpAnyH_take (i := 3) (v := .pointer (some ⟨wr.heap.size, 1, none⟩)) rfl (by kernel_rfl) (by kernel_rfl) (by kernel_rfl) (fun _ _ _ h => h) (Or.inl ⟨by rfl, fun wS hSw => ?_⟩) (by assumption) ?_
            · (try dsimp only at hSw); go_simp
            (try simp only [Act.put, List.setIfInBounds_toArray, List.set_cons_zero, List.set_cons_succ])
            refine wpAnyH_take (i := 4) (v := .string dt) rfl (by kernel_rfl) (by kernel_rfl) (by kernel_rfl) (fun _ _ _ h => h) (Or.inl ⟨by rfl, fun wS hSw => ?_⟩) (by assumption) ?_
            · (try dsimp only at hSw); go_simp
            (try simp only [Act.put, List.setIfInBounds_toArray, List.set_cons_zero, List.set_cons_succ])
            refine wpAnyH_take (i := 5) (v := .pointer (some ⟨wr.heap.size, 2, none⟩)) rfl (by kernel_rfl) (by kernel_rfl) (by kernel_rfl) (fun _ _ _ h => h) (Or.inl ⟨by rfl, fun wS hSw => ?_⟩) (by assumption) ?_
            · (try dsimp only at hSw); go_simp
            (try simp only [Act.put, List.setIfInBounds_toArray, List.set_cons_zero, List.set_cons_succ])
            refine wpAnyH_take (i := 6) (v := .int .i64 T) rfl (by kernel_rfl) (by kernel_rfl) (by kernel_rfl) (fun _ _ _ h => h) (Or.inl ⟨by rfl, fun wS hSw => ?_⟩) (by assumption) ?_
            · (try dsimp only at hSw); go_simp
            (try simp only [Act.put, List.setIfInBounds_toArray, List.set_cons_zero, List.set_cons_succ])
            refine wpAnyH_take (i := 7) (v := .int .i64 0) rfl (by kernel_rfl) (by kernel_rfl) (by kernel_rfl) (fun _ _ _ h => h) (Or.inl ⟨by rfl, fun wS hSw => ?_⟩) (by assumption) ?_
            · (try dsimp only at hSw); go_simp
            (try simp only [Act.put, List.setIfInBounds_toArray, List.set_cons_zero, List.set_cons_succ])
            refine wpAnyH_take (i := 8) (v := .int .i64 T) rfl (by kernel_rfl) (by kernel_rfl) (by kernel_rfl) (fun _ _ _ h => h) (Or.inl ⟨by rfl, fun wS hSw => ?_⟩) (by assumption) ?_
            · (try dsimp only at hSw); go_simp
            (try simp only [Act.put, List.setIfInBounds_toArray, List.set_cons_zero, List.set_cons_succ])
            refine wpAnyH_take (i := 9) (v := .string (dt.extract 0 T.toNat)) rfl (by kernel_rfl) (by kernel_rfl) (by kernel_rfl) (fun _ _ _ h => h) (Or.inl ⟨by rfl, fun wS hSw => ?_⟩) (by assumption) ?_
            · (try dsimp only at hSw); go_simp
            (try simp only [Act.put, List.setIfInBounds_toArray, List.set_cons_zero, List.set_cons_succ])
            refine wpAnyH_take (i := 10) (v := .pointer (some ⟨g, k * 3, none⟩)) rfl (by kernel_rfl) (by kernel_rfl) (by kernel_rfl) (fun _ _ _ h => h) (Or.inl ⟨by rfl, fun wS hSw => ?_⟩) (by assumption) ?_
            · (try dsimp only at hSw); go_simp
            (try simp only [Act.put, List.setIfInBounds_toArray, List.set_cons_zero, List.set_cons_succ])
            refine wpAnyH_take (i := 11) (v := .pointer (some ⟨g, k * 3 + 1, none⟩)) rfl (by kernel_rfl) (by kernel_rfl) (by kernel_rfl) (fun _ _ _ h => h) (Or.inl ⟨by rfl, fun wS hSw => ?_⟩) (by assumption) ?_
            · (try dsimp only at hSw); go_simp
            (try simp only [Act.put, List.setIfInBounds_toArray, List.set_cons_zero, List.set_cons_succ])
            refine wpAnyH_ready (rs := [12]) (by kernel_rfl) (by simp) ?_
            refine AllReadyH.cons rfl (fun K hK => ?_) AllReadyH.nil
            go_simp
            refine hK.out _ _ ?_ (fun hHeld => ?_)
            · exact ⟨(World.cell?_setCell_far _ _ _ _ (fun e => nxg e.symm)).trans x1, (World.cell?_setCell_far _ _ _ _ (fun e => nfg e.symm)).trans f1, (World.cell?_setCell_far _ _ _ _ (fun e => nfg e.symm)).trans f2⟩
            clear hK K
            (try simp only [Act.put, List.setIfInBounds_toArray, List.set_cons_zero, List.set_cons_succ])
            refine wpAnyH_done (by kernel_rfl) ?_ _
            clear hHeld hsl f1 f2 g1 g2 z1 z2 x1
            generalize (F.setCell ⟨g, k * 3 + 1, none⟩ (.string (dt.extract 0 T.toNat))).drew = Y at *
            go_wp2
            exact ⟨⟨k + 1, by go_num, by omega, hide ⟨unhide OWY, unhide KY, unhide ZY, unhide BY⟩⟩, by simp [intOf]; omega⟩
        · rw [if_neg hkk] at hmq
          have hkk1 : ¬ (k : Int) < (keep.length : Int) := by omega
          have hkk2 : decide ((k : Int) < (keep.length : Int)) = false := decide_eq_false hkk1
          generalize keep.length = kn at hkk hkk1 hkk2 hk63
          have hT2 : T = sy := by omega
          subst hT2
          have hrem : ¬ (0 : Int) > (dt.size : Int) - T := by omega
          have hremb : decide ((0 : Int) > (dt.size : Int) - T) = false := decide_eq_false hrem
          have hwT : IntKind.i64.wrap T = T := by rw [IntKind.wrap_i64]; omega
          go_upto_region 12 with (fail)
          clear c1 y0 y1 y2
          generalize (wr.alloc (Obj.cells #[.string n0, .string dt, .int .i64 T] 56)) = F at *
          have OWY : Hid (((F.setCell ⟨g, k * 3 + 1, none⟩ (.string (dt.extract 0 T.toNat))).drew.setCell ⟨g, k * 3 + 2, none⟩ (.int .i64 T)).ownsRow C 56 3 (.slice (some ⟨g, 0, none⟩) N cap3) N (flatF (crashL keep (k + 1) d.files))) := hide (unhide HST _ (unhide OW))
          have KY : Hid (Blk ((F.setCell ⟨g, k * 3 + 1, none⟩ (.string (dt.extract 0 T.toNat))).drew.setCell ⟨g, k * 3 + 2, none⟩ (.int .i64 T)) w3.heap.size 24 #[.int .i64 d.room, .slice (some ⟨g, 0, none⟩) N cap3, .int .i64 d.fuse, .int .i64 d.fault, .bool d.down]) := hide (blk_far (b := g) (i := k * 3 + 2) (blk_far (b := g) (i := k * 3 + 1) (unhide KB) nxg (.string (dt.extract 0 T.toNat))) nxg (.int .i64 T))
          have ZY : Hid (Blk ((F.setCell ⟨g, k * 3 + 1, none⟩ (.string (dt.extract 0 T.toNat))).drew.setCell ⟨g, k * 3 + 2, none⟩ (.int .i64 T)) (w.heap.size + 1) 24 #[.int .i64 0, .slice none 0 0, .int .i64 0, .int .i64 0, .bool false]) := hide (blk_far (b := g) (i := k * 3 + 2) (blk_far (b := g) (i := k * 3 + 1) (unhide ZB) nzg (.string (dt.extract 0 T.toNat))) nzg (.int .i64 T))
          have BY : Hid (Below w.heap.size w ((F.setCell ⟨g, k * 3 + 1, none⟩ (.string (dt.extract 0 T.toNat))).drew.setCell ⟨g, k * 3 + 2, none⟩ (.int .i64 T))) := hide (by have h := ((unhide BB).setCell (p := ⟨g, k * 3 + 1, none⟩) hwg (.string (dt.extract 0 T.toNat))).setCell (p := ⟨g, k * 3 + 2, none⟩) hwg (.int .i64 T); exact ⟨h.os, h.tape, h.output, h.size, h.block⟩)
          have x1b : (F.setCell ⟨g, k * 3 + 1, none⟩ (.string (dt.extract 0 T.toNat))).drew.cell? ⟨w3.heap.size, 1, none⟩ = some (.slice (some ⟨g, 0, none⟩) N cap3) := (World.cell?_setCell_far _ _ _ _ (fun e => nxg e.symm)).trans x1
          have f2b : (F.setCell ⟨g, k * 3 + 1, none⟩ (.string (dt.extract 0 T.toNat))).drew.cell? ⟨wr.heap.size, 2, none⟩ = some (.int .i64 T) := (World.cell?_setCell_far _ _ _ _ (fun e => nfg e.symm)).trans f2
          have g2b : (F.setCell ⟨g, k * 3 + 1, none⟩ (.string (dt.extract 0 T.toNat))).drew.cell? ⟨g, k * 3 + 2, none⟩ = some (.int .i64 T) := (World.cell?_setCell_other _ _ _ _ (by simp)).trans g2
          have z2b : (F.setCell ⟨g, k * 3 + 1, none⟩ (.string (dt.extract 0 T.toNat))).drew.frozen? ⟨g, k * 3 + 2, none⟩ = false := by show World.frozen? (F.setCell ⟨g, k * 3 + 1, none⟩ (.string (dt.extract 0 T.toNat))) _ = false; simp [z2]
          clear OW KB ZB BB HST
          refine wp_region_held_drew (S := fun w' => w'.cell? ⟨w3.heap.size, 1, none⟩ = some (.slice (some ⟨g, 0, none⟩) N cap3) ∧ w'.cell? ⟨wr.heap.size, 1, none⟩ = some (.string dt) ∧ w'.cell? ⟨wr.heap.size, 2, none⟩ = some (.int .i64 T)) (by kernel_rfl) ?_ (fun hHeld => ?_)
          · exact ⟨x1, f1, f2⟩
          refine wpAnyH_take (i := 0) (v := .pointer (some ⟨w3.heap.size, 1, none⟩)) rfl (by kernel_rfl) (by kernel_rfl) (by kernel_rfl) (fun _ _ _ h => h) (Or.inl ⟨by rfl, fun wS hSw => ?_⟩) (by assumption) ?_
          · (try dsimp only at hSw); go_simp
          (try simp only [Act.put, List.setIfInBounds_toArray, List.set_cons_zero, List.set_cons_succ])
          refine wpAnyH_take (i := 1) (v := .slice (some ⟨g, 0, none⟩) N cap3) rfl (by kernel_rfl) (by kernel_rfl) (by kernel_rfl) (fun _ _ _ h => h) (Or.inl ⟨by rfl, fun wS hSw => ?_⟩) (by assumption) ?_
          · (try dsimp only at hSw); go_simp
          (try simp only [Act.put, List.setIfInBounds_toArray, List.set_cons_zero, List.set_cons_succ])
          refine wpAnyH_take (i := 2) (v := .int .i64 (k : Int)) rfl (by kernel_rfl) (by kernel_rfl) (by kernel_rfl) (fun _ _ _ h => h) (Or.inl ⟨by rfl, fun wS hSw => ?_⟩) (by assumption) ?_
          · (try dsimp only at hSw); go_simp
          (try simp only [Act.put, List.setIfInBounds_toArray, List.set_cons_zero, List.set_cons_succ])
          refine wpAnyH_take (i := 3) (v := .pointer (some ⟨wr.heap.size, 1, none⟩)) rfl (by kernel_rfl) (by kernel_rfl) (by kernel_rfl) (fun _ _ _ h => h) (Or.inl ⟨by rfl, fun wS hSw => ?_⟩) (by assumption) ?_
          · (try dsimp only at hSw); go_simp
          (try simp only [Act.put, List.setIfInBounds_toArray, List.set_cons_zero, List.set_cons_succ])
          refine wpAnyH_take (i := 4) (v := .string dt) rfl (by kernel_rfl) (by kernel_rfl) (by kernel_rfl) (fun _ _ _ h => h) (Or.inl ⟨by rfl, fun wS hSw => ?_⟩) (by assumption) ?_
          · (try dsimp only at hSw); go_simp
          (try simp only [Act.put, List.setIfInBounds_toArray, List.set_cons_zero, List.set_cons_succ])
          refine wpAnyH_take (i := 5) (v := .pointer (some ⟨wr.heap.size, 2, none⟩)) rfl (by kernel_rfl) (by kernel_rfl) (by kernel_rfl) (fun _ _ _ h => h) (Or.inl ⟨by rfl, fun wS hSw => ?_⟩) (by assumption) ?_
          · (try dsimp only at hSw); go_simp
          (try simp only [Act.put, List.setIfInBounds_toArray, List.set_cons_zero, List.set_cons_succ])
          refine wpAnyH_take (i := 6) (v := .int .i64 T) rfl (by kernel_rfl) (by kernel_rfl) (by kernel_rfl) (fun _ _ _ h => h) (Or.inl ⟨by rfl, fun wS hSw => ?_⟩) (by assumption) ?_
          · (try dsimp only at hSw); go_simp
          (try simp only [Act.put, List.setIfInBounds_toArray, List.set_cons_zero, List.set_cons_succ])
          refine wpAnyH_take (i := 7) (v := .int .i64 0) rfl (by kernel_rfl) (by kernel_rfl) (by kernel_rfl) (fun _ _ _ h => h) (Or.inl ⟨by rfl, fun wS hSw => ?_⟩) (by assumption) ?_
          · (try dsimp only at hSw); go_simp
          (try simp only [Act.put, List.setIfInBounds_toArray, List.set_cons_zero, List.set_cons_succ])
          refine wpAnyH_take (i := 8) (v := .int .i64 T) rfl (by kernel_rfl) (by kernel_rfl) (by kernel_rfl) (fun _ _ _ h => h) (Or.inl ⟨by rfl, fun wS hSw => ?_⟩) (by assumption) ?_
          · (try dsimp only at hSw); go_simp
          (try simp only [Act.put, List.setIfInBounds_toArray, List.set_cons_zero, List.set_cons_succ])
          refine wpAnyH_take (i := 9) (v := .string (dt.extract 0 T.toNat)) rfl (by kernel_rfl) (by kernel_rfl) (by kernel_rfl) (fun _ _ _ h => h) (Or.inl ⟨by rfl, fun wS hSw => ?_⟩) (by assumption) ?_
          · (try dsimp only at hSw); go_simp
          (try simp only [Act.put, List.setIfInBounds_toArray, List.set_cons_zero, List.set_cons_succ])
          refine wpAnyH_take (i := 10) (v := .pointer (some ⟨g, k * 3, none⟩)) rfl (by kernel_rfl) (by kernel_rfl) (by kernel_rfl) (fun _ _ _ h => h) (Or.inl ⟨by rfl, fun wS hSw => ?_⟩) (by assumption) ?_
          · (try dsimp only at hSw); go_simp
          (try simp only [Act.put, List.setIfInBounds_toArray, List.set_cons_zero, List.set_cons_succ])
          refine wpAnyH_take (i := 11) (v := .pointer (some ⟨g, k * 3 + 1, none⟩)) rfl (by kernel_rfl) (by kernel_rfl) (by kernel_rfl) (fun _ _ _ h => h) (Or.inl ⟨by rfl, fun wS hSw => ?_⟩) (by assumption) ?_
          · (try dsimp only at hSw); go_simp
          (try simp only [Act.put, List.setIfInBounds_toArray, List.set_cons_zero, List.set_cons_succ])
          refine wpAnyH_ready (rs := [12]) (by kernel_rfl) (by simp) ?_
          refine AllReadyH.cons rfl (fun K hK => ?_) AllReadyH.nil
          go_simp
          refine hK.out _ _ ?_ (fun hHeld => ?_)
          · exact ⟨(World.cell?_setCell_far _ _ _ _ (fun e => nxg e.symm)).trans x1, (World.cell?_setCell_far _ _ _ _ (fun e => nfg e.symm)).trans f1, (World.cell?_setCell_far _ _ _ _ (fun e => nfg e.symm)).trans f2⟩
          clear hK K
          (try simp only [Act.put, List.setIfInBounds_toArray, List.set_cons_zero, List.set_cons_succ])
          refine wpAnyH_done (by kernel_rfl) ?_ _
          clear hHeld hsl f1 f2 g1 g2 z1 z2 x1
          generalize (F.setCell ⟨g, k * 3 + 1, none⟩ (.string (dt.extract 0 T.toNat))).drew = Y at *
          go_wp2
          exact ⟨⟨k + 1, by go_num, by omega, hide ⟨unhide OWY, unhide KY, unhide ZY, unhide BY⟩⟩, by simp [intOf]; omega⟩
      · have hke : k = N := by omega
        have hfin : crashL keep k d.files = d.files.mapIdx (keepAt keep) := by rw [hke, ← unhide HN]; exact crashL_all _ _
        obtain ⟨OV, KV, ZV, BV⟩ := unhide HV
        rw [hfin] at OV
        have hne := own_ne OV KV (by decide)
        have hxz : w.heap.size + 1 ≠ w3.heap.size := by omega
        have hwx : w.heap.size ≤ w3.heap.size := by omega
        have hgek : ¬ (k : Int) < (N : Int) := by omega
        clear HV
        have KVH := hide KV
        have x0 := (unhide KVH).cell 0
        have x1 := (unhide KVH).cell 1
        have x2 := (unhide KVH).cell 2
        have x3 := (unhide KVH).cell 3
        have x4 := (unhide KVH).cell 4
        simp only [List.getElem?_toArray, List.getElem?_cons_succ, List.getElem?_cons_zero] at x0 x1 x2 x3 x4
        have q0 := (unhide KVH).frozen 0
        have q1 := (unhide KVH).frozen 1
        have q2 := (unhide KVH).frozen 2
        have q3 := (unhide KVH).frozen 3
        have q4 := (unhide KVH).frozen 4
        have KW : Hid (Blk (((wr.setCell ⟨w3.heap.size, 4, none⟩ (.bool false)).setCell ⟨w3.heap.size, 2, none⟩ (.int .i64 (-1))).setCell ⟨w3.heap.size, 3, none⟩ (.int .i64 (-1))) w3.heap.size 24 #[.int .i64 d.room, .slice a3 N cap3, .int .i64 (-1), .int .i64 (-1), .bool false]) := hide (((KV.set 4 (.bool false)).set 2 (.int .i64 (-1))).set 3 (.int .i64 (-1)))
        have Z : Hid (Blk (((wr.setCell ⟨w3.heap.size, 4, none⟩ (.bool false)).setCell ⟨w3.heap.size, 2, none⟩ (.int .i64 (-1))).setCell ⟨w3.heap.size, 3, none⟩ (.int .i64 (-1))) (w.heap.size + 1) 24 #[.int .i64 0, .slice none 0 0, .int .i64 0, .int .i64 0, .bool false]) := hide (blk_far (b := w3.heap.size) (i := 3) (blk_far (b := w3.heap.size) (i := 2) (blk_far (b := w3.heap.size) (i := 4) ZV hxz _) hxz _) hxz _)
        have B : Hid (Below w.heap.size w (((wr.setCell ⟨w3.heap.size, 4, none⟩ (.bool false)).setCell ⟨w3.heap.size, 2, none⟩ (.int .i64 (-1))).setCell ⟨w3.heap.size, 3, none⟩ (.int .i64 (-1)))) := hide (((BV.setCell (p := ⟨w3.heap.size, 4, none⟩) hwx _).setCell (p := ⟨w3.heap.size, 2, none⟩) hwx _).setCell (p := ⟨w3.heap.size, 3, none⟩) hwx _)
        have RW : Hid (RowF (((wr.setCell ⟨w3.heap.size, 4, none⟩ (.bool false)).setCell ⟨w3.heap.size, 2, none⟩ (.int .i64 (-1))).setCell ⟨w3.heap.size, 3, none⟩ (.int .i64 (-1))) (.slice a3 N cap3) (d.files.mapIdx (keepAt keep))) := hide (rowF_of_own (l := d.files.mapIdx (keepAt keep)) (by rw [List.length_mapIdx, unhide HN]; exact own_set (own_set (own_set OV hne) hne) hne) (by rw [List.length_mapIdx]; have := unhide HN; omega) (unhide HFE))
        clear OV KV ZV BV KVH
        go_upto_region 18 with (fail)
        generalize (((wr.setCell ⟨w3.heap.size, 4, none⟩ (.bool false)).setCell ⟨w3.heap.size, 2, none⟩ (.int .i64 (-1))).setCell ⟨w3.heap.size, 3, none⟩ (.int .i64 (-1))) = Y at *
        clear x0 x1 x2 x3 x4 q0 q1 q2 q3 q4
        have x0 := (unhide KW).cell 0
        have x1 := (unhide KW).cell 1
        have x2 := (unhide KW).cell 2
        have x3 := (unhide KW).cell 3
        have x4 := (unhide KW).cell 4
        simp only [List.getElem?_toArray, List.getElem?_cons_succ, List.getElem?_cons_zero] at x0 x1 x2 x3 x4
        have e0 := (unhide Z).cell 0
        have e1 := (unhide Z).cell 1
        have e2 := (unhide Z).cell 2
        have e3 := (unhide Z).cell 3
        have e4 := (unhide Z).cell 4
        simp only [List.getElem?_toArray, List.getElem?_cons_succ, List.getElem?_cons_zero] at e0 e1 e2 e3 e4
        have f0 := (unhide Z).frozen 0
        have f1 := (unhide Z).frozen 1
        have f2 := (unhide Z).frozen 2
        have f3 := (unhide Z).frozen 3
        have f4 := (unhide Z).frozen 4
        have RB := hide (below5 (s := w.heap.size + 1) (unhide B) (by omega))
        have RR := hide (rowF5 (unhide RW) (unhide Z) (by intro i x; match i with | 0 | 1 | 2 | 3 | 4 => simp | i + 5 => simp))
        go_wp2
        (try simp only [Exit.inBlock, Exit.then])
        refine bodyPost_ret (v := .tuple #[.agg #[.int .i64 (⟨d.room, d.files.mapIdx (keepAt keep), -1, -1, false⟩ : Fs).room, .slice a3 N cap3, .int .i64 (⟨d.room, d.files.mapIdx (keepAt keep), -1, -1, false⟩ : Fs).fuse, .int .i64 (⟨d.room, d.files.mapIdx (keepAt keep), -1, -1, false⟩ : Fs).fault, .bool (⟨d.room, d.files.mapIdx (keepAt keep), -1, -1, false⟩ : Fs).down], .int .i64 0]) ?_ rfl ⟨_, rfl, unhide RR _ _ _ _ _, unhide RB _ _ _ _ _⟩
        rw [results_cell_tmp rfl]
        go_simp
end Go.Proofs.Ytmfkhbofmaonkaa
