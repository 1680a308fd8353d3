/-
  What missivelaw04.DiskSafe does, over this seat's program: it answers true.
-/
import Derived.Test.YtagcdjjgflmihaaDlw
import Derived.Test.YtagcdjjgflmihaaDsf
import Derived.Test.YtagcdjjgflmihaaWdl
import Derived.Deep.QuietTactic
import Derived.BigQuiet
import Derived.Deep.RegionHeld3
set_option linter.unusedVariables false
set_option linter.unusedSimpArgs false
namespace Go.Proofs.Ytagcdjjgflmihaa
open Go.RowKit Go.Proofs.Dsk

set_option maxHeartbeats 16000000 in
set_option maxRecDepth 100000 in
theorem diskSafe_walk (d : Fs) (v : Value) (name : ByteArray) (vm : Value) (more : List File) (vk : Value) (keep : List Int) (w : World) (hfit : FitAll d) (h : RowF w v d.files) (hm : RowF w vm more) (hkp : RowI w vk keep) (hname : name.size ≤ 281474976710656) :
    Calls Try.prog 5 #[fsV d v, .string name, vm, vk] w fun e w' => e = .returned (.bool true) ∧ Below w.heap.size w w' := by
  have HLV := hide (fun X => lives_any X)
  have HSY := hide (fun (X : World) (hX : RowF X v d.files) => sync_any d v name X hfit hX)
  have hb0 := (Below.refl w.heap.size w).alloc (Nat.le_refl _) (Obj.cells #[.int .i64 d.room, v, .int .i64 d.fuse, .int .i64 d.fault, .bool d.down] 24)
  have k0 := Blk.new w 24 #[.int .i64 d.room, v, .int .i64 d.fuse, .int .i64 d.fault, .bool d.down]
  have HR0 := hide (h.below hb0)
  have HMR := hide hm
  have HKR := hide hkp
  obtain ⟨a, cap, hv, h63, _, _⟩ := id h
  subst hv
  obtain ⟨ma, mcap, hmv, hm63, hmf, hmc⟩ := hm
  subst hmv
  obtain ⟨ka, kcap, hkv, hk63, _, _⟩ := hkp
  subst hkv
  have HMF := hide hmf
  have HMC := hide hmc
  obtain ⟨N, hN⟩ : ∃ N, d.files.length = N := ⟨_, rfl⟩
  rw [hN] at k0 HR0 HSY h63 hb0 ⊢
  obtain ⟨MN, hMN⟩ : ∃ MN, more.length = MN := ⟨_, rfl⟩
  have HMN := hide hMN
  rw [hMN] at HMR hm63 ⊢
  have K0 := hide k0
  have B0 := hide hb0
  clear k0 hb0 hN h hmf hmc hMN hfit
  simp only [fsV] at HSY ⊢
  go_enter Try.func5, Try.ntmps5
  go_wp2_with fail
  refine (unhide HLV _).mono ?_
  rintro e w1 ⟨rfl, b1⟩
  have K1 := hide ((unhide K0).below b1)
  have R1 := hide ((unhide HR0).below b1)
  have B1 := hide (belows (unhide B0) b1)
  clear b1 K0 HR0 B0 HLV
  have c0 := (unhide K1).cell 0
  have c1 := (unhide K1).cell 1
  have c2 := (unhide K1).cell 2
  have c3 := (unhide K1).cell 3
  have c4 := (unhide K1).cell 4
  simp only [List.getElem?_toArray, List.getElem?_cons_succ, List.getElem?_cons_zero] at c0 c1 c2 c3 c4
  go_wp2_with fail
  clear c0 c1 c2 c3 c4
  refine (unhide HSY _ (unhide R1)).mono ?_
  rintro e w2 ⟨v2, rfl, rr, fit2, b2⟩
  have HOK := hide (fun h h2 => sync_ok (d := d) (n := name) h h2)
  obtain ⟨q2, hq2⟩ : ∃ q, syncR d name = q := ⟨_, rfl⟩
  rw [hq2] at HOK rr fit2 ⊢
  obtain ⟨x2, n2⟩ := q2
  simp only at HOK rr fit2 ⊢
  obtain ⟨a2, cap2, hv2, h263, _, _⟩ := id rr
  subst hv2
  obtain ⟨N2, hN2⟩ : ∃ N2, x2.files.length = N2 := ⟨_, rfl⟩
  have HN2 := hide hN2
  rw [hN2] at rr h263 ⊢
  clear hN2 hq2 HSY
  have bb := belows (unhide B1) b2
  have k := (unhide K1).below b2
  have c0 := k.cell 0
  have c1 := k.cell 1
  have c2 := k.cell 2
  have c3 := k.cell 3
  have c4 := k.cell 4
  have f0 := k.frozen 0
  have f1 := k.frozen 1
  have f2 := k.frozen 2
  have f3 := k.frozen 3
  have f4 := k.frozen 4
  simp only [List.getElem?_toArray, List.getElem?_cons_succ, List.getElem?_cons_zero] at c0 c1 c2 c3 c4
  have K : Hid (Blk (((((w2.setCell ⟨w.heap.size, 0, none⟩ (.int .i64 x2.room)).setCell ⟨w.heap.size, 1, none⟩ (.slice a2 N2 cap2)).setCell ⟨w.heap.size, 2, none⟩ (.int .i64 x2.fuse)).setCell ⟨w.heap.size, 3, none⟩ (.int .i64 x2.fault)).setCell ⟨w.heap.size, 4, none⟩ (.bool x2.down)) w.heap.size 24 #[.int .i64 x2.room, .slice a2 N2 cap2, .int .i64 x2.fuse, .int .i64 x2.fault, .bool x2.down]) := hide (((((k.set 0 (.int .i64 x2.room)).set 1 (.slice a2 N2 cap2)).set 2 (.int .i64 x2.fuse)).set 3 (.int .i64 x2.fault)).set 4 (.bool x2.down))
  have R := hide (rowF5 rr k (by intro i x; match i with | 0 | 1 | 2 | 3 | 4 => simp | i + 5 => simp) (.int .i64 x2.room) (.slice a2 N2 cap2) (.int .i64 x2.fuse) (.int .i64 x2.fault) (.bool x2.down))
  have B := hide (below5 (s := w.heap.size) bb (Nat.le_refl _) (.int .i64 x2.room) (.slice a2 N2 cap2) (.int .i64 x2.fuse) (.int .i64 x2.fault) (.bool x2.down))
  clear k rr bb
  clear b2 K1 R1 B1
  have HRD := hide (read_any x2 (.slice a2 N2 cap2) name _ fit2 (unhide R))
  obtain ⟨q3, hq3⟩ : ∃ q, readR x2 name = q := ⟨_, rfl⟩
  rw [hq3] at HOK HRD
  obtain ⟨was, n3⟩ := q3
  simp only [fsV] at HOK HRD
  clear hq3
  go_wp2_with fail
  clear c0 c1 c2 c3 c4 f0 f1 f2 f3 f4
  refine (unhide HRD).mono ?_
  rintro e w3 ⟨rfl, b3⟩
  have K3 := hide ((unhide K).below b3)
  have R3 := hide ((unhide R).below b3)
  have B3 := hide (belows (unhide B) b3)
  clear b3 K R B HRD
  by_cases hz2 : n2 = 0
  · subst hz2
    by_cases hz3 : n3 = 0
    · subst hz3
      obtain ⟨hr2, i, hi, hin, hid, his⟩ := unhide HOK rfl rfl
      have HI := hide hin
      have HD := hide hid
      have HS := hide his
      have HFIT2 := hide fit2
      clear HOK hin hid his fit2
      go_wp2
      generalize Value.agg #[.int .i64 d.room, .slice a N cap, .int .i64 d.fuse, .int .i64 d.fault, .bool d.down] = A0
      generalize Value.agg #[.int .i64 x2.room, .slice a2 N2 cap2, .int .i64 x2.fuse, .int .i64 x2.fault, .bool x2.down] = A2
      generalize Value.tuple #[A2, .int .i64 0] = T2
      generalize Value.tuple #[Value.string was, .int .i64 0] = T3
      go_loopw [12, 13, 43] (fun x y z wr => ∃ (k : Nat) (e : Fs) (a' : Option Addr) (n' c' : Nat), z = .int .i64 k ∧ k ≤ MN ∧ Hid (right e = true ∧ More x2.files e.files ∧ FitAll e ∧ RowF wr (.slice a' n' c') e.files ∧ Blk wr w.heap.size 24 #[.int .i64 e.room, .slice a' n' c', .int .i64 e.fuse, .int .i64 e.fault, .bool e.down] ∧ Below w.heap.size w wr)) (fun _ _ z _ => MN - (intOf z).toNat)
      case atStart => exact ⟨0, x2, a2, N2, cap2, rfl, Nat.zero_le _, hide ⟨hr2, More.refl _, unhide HFIT2, unhide R3, unhide K3, unhide B3⟩⟩
      case round =>
        obtain ⟨k, e, a', n', c', rfl, hk, HV⟩ := hrel
        have hwb := (unhide HV).2.2.2.2.2
        have hws := hwb.size
        by_cases hlt : k < MN
        · have hkl : k < more.length := by have := unhide HMN; omega
          obtain ⟨b, off, rfl, hb, hcl⟩ : ∃ b off, ma = some ⟨b, off, none⟩ ∧ b < w.heap.size ∧ ∀ j u, (flatF more)[j]? = some u → w.cell? ⟨b, off + j, none⟩ = some u := by
            rcases unhide HMC with h0 | h0
            · rw [h0] at hkl; simp at hkl
            · exact h0
          obtain ⟨p0, p1, p2⟩ := row_cells hcl hkl
          have y0 : wr.cell? ⟨b, off + k * 3, none⟩ = some (.string more[k].name) := (hwb.cell (p := ⟨b, off + k * 3, none⟩) hb).trans p0
          have y1 : wr.cell? ⟨b, off + k * 3 + 1, none⟩ = some (.string more[k].data) := (hwb.cell (p := ⟨b, off + k * 3 + 1, none⟩) hb).trans p1
          have y2 : wr.cell? ⟨b, off + k * 3 + 2, none⟩ = some (.int .i64 more[k].synced) := (hwb.cell (p := ⟨b, off + k * 3 + 2, none⟩) hb).trans p2
          have hlt1 : (k : Int) < (MN : Int) := by omega
          have hfz := unhide HMF _ (List.getElem_mem hkl)
          have hf1 := hfz.1
          have hf2 := hfz.2.1
          clear p0 p1 p2 hcl hfz hwb
          generalize more[k].name = n0 at y0 hf1
          generalize more[k].data = d0 at y1 hf2
          generalize more[k].synced = s0 at y2
          have bal : Below wr.heap.size wr (wr.alloc (Obj.cells #[.string n0, .string d0, .int .i64 s0] 47)) := (Below.refl _ _).alloc (Nat.le_refl _) _
          by_cases h20 : k < 20
          · have h20i : (k : Int) < 20 := by omega
            have bal2 : Below wr.heap.size wr ((wr.alloc (Obj.cells #[.string n0, .string d0, .int .i64 s0] 47)).alloc (Obj.cells #[.string d0] 9)) := belows bal ((Below.refl _ _).alloc (Nat.le_refl _) _)
            have HAP := hide (append_any e (.slice a' n' c') n0 (some ⟨wr.heap.size + 1, 0, none⟩) 1 1 [d0] _ (unhide HV).2.2.1 ((unhide HV).2.2.2.1.below bal2) (rowS_one (wr.alloc (Obj.cells #[.string n0, .string d0, .int .i64 s0] 47)) (wr.heap.size + 1) (by simp) d0 (by omega)))
            have HAM := hide (append_more (d := e) n0 [d0] (unhide HV).1)
            have k1 := (unhide HV).2.2.2.2.1.below bal
            have HKB := hide ((unhide HV).2.2.2.2.1.below bal2)
            have HBB := hide (belows (unhide HV).2.2.2.2.2 bal2)
            have HMO := hide (unhide HV).2.1
            have c0 := (k1).cell 0
            have c1 := (k1).cell 1
            have c2 := (k1).cell 2
            have c3 := (k1).cell 3
            have c4 := (k1).cell 4
            simp only [List.getElem?_toArray, List.getElem?_cons_succ, List.getElem?_cons_zero] at c0 c1 c2 c3 c4
            have g0 := (unhide HV).2.2.2.2.1.cell 0
            have g1 := (unhide HV).2.2.2.2.1.cell 1
            have g2 := (unhide HV).2.2.2.2.1.cell 2
            have g3 := (unhide HV).2.2.2.2.1.cell 3
            have g4 := (unhide HV).2.2.2.2.1.cell 4
            simp only [List.getElem?_toArray, List.getElem?_cons_succ, List.getElem?_cons_zero] at g0 g1 g2 g3 g4
            obtain ⟨q5, hq5⟩ : ∃ q, appendR e n0 [d0] = q := ⟨_, rfl⟩
            rw [hq5] at HAP HAM
            obtain ⟨x5, n5⟩ := q5
            simp only [fsV] at HAP HAM
            clear hq5 HV bal bal2 k1
            go_wp2_with fail
            refine (unhide HAP).mono ?_
            rintro e w5 ⟨v5, rfl, rr, fit5, b5⟩
            clear c0 c1 c2 c3 c4 g0 g1 g2 g3 g4 y0 y1 y2
            obtain ⟨a5, cap5, hv5, _⟩ := id rr
            subst hv5
            obtain ⟨N5, hN5⟩ : ∃ N5, x5.files.length = N5 := ⟨_, rfl⟩
            rw [hN5] at rr ⊢
            have bb := belows (unhide HBB) b5
            have k := (unhide HKB).below b5
            have c0 := k.cell 0
            have c1 := k.cell 1
            have c2 := k.cell 2
            have c3 := k.cell 3
            have c4 := k.cell 4
            have f0 := k.frozen 0
            have f1 := k.frozen 1
            have f2 := k.frozen 2
            have f3 := k.frozen 3
            have f4 := k.frozen 4
            simp only [List.getElem?_toArray, List.getElem?_cons_succ, List.getElem?_cons_zero] at c0 c1 c2 c3 c4
            have K : Hid (Blk (((((w5.setCell ⟨w.heap.size, 0, none⟩ (.int .i64 x5.room)).setCell ⟨w.heap.size, 1, none⟩ (.slice a5 N5 cap5)).setCell ⟨w.heap.size, 2, none⟩ (.int .i64 x5.fuse)).setCell ⟨w.heap.size, 3, none⟩ (.int .i64 x5.fault)).setCell ⟨w.heap.size, 4, none⟩ (.bool x5.down)) w.heap.size 24 #[.int .i64 x5.room, .slice a5 N5 cap5, .int .i64 x5.fuse, .int .i64 x5.fault, .bool x5.down]) := hide (((((k.set 0 (.int .i64 x5.room)).set 1 (.slice a5 N5 cap5)).set 2 (.int .i64 x5.fuse)).set 3 (.int .i64 x5.fault)).set 4 (.bool x5.down))
            have R := hide (rowF5 rr k (by intro i x; match i with | 0 | 1 | 2 | 3 | 4 => simp | i + 5 => simp) (.int .i64 x5.room) (.slice a5 N5 cap5) (.int .i64 x5.fuse) (.int .i64 x5.fault) (.bool x5.down))
            have B := hide (below5 (s := w.heap.size) bb (Nat.le_refl _) (.int .i64 x5.room) (.slice a5 N5 cap5) (.int .i64 x5.fuse) (.int .i64 x5.fault) (.bool x5.down))
            clear k rr bb
            have HFIT5 := hide fit5
            clear b5 HKB HBB HAP hN5 fit5
            go_wp2
            exact ⟨⟨k + 1, x5, a5, N5, cap5, by go_num, by omega, hide ⟨(unhide HAM).1, (unhide HMO).trans (unhide HAM).2, unhide HFIT5, unhide R, unhide K, unhide B⟩⟩, by simp [intOf]; omega⟩
          · have h20i : ¬ (k : Int) < 20 := by omega
            have HV2 := hide (show _ ∧ _ ∧ _ ∧ _ ∧ _ ∧ _ from ⟨(unhide HV).1, (unhide HV).2.1, (unhide HV).2.2.1, (unhide HV).2.2.2.1.below bal, (unhide HV).2.2.2.2.1.below bal, belows (unhide HV).2.2.2.2.2 bal⟩)
            clear HV bal
            go_wp2
            exact ⟨⟨k + 1, e, a', n', c', by go_num, by omega, HV2⟩, by simp [intOf]; omega⟩
        · obtain ⟨hre, hmo, hfe, hrow, hkb, _⟩ := unhide HV
          have HCR := hide (crash_any e (.slice a' n' c') (.slice ka keep.length kcap) keep wr hfe hrow ((unhide HKR).below hwb))
          rw [crash_right hre] at HCR
          obtain ⟨hi2, hin2, hid2, his2⟩ : ∃ hi2 : i < e.files.length, e.files[i].name = name ∧ Pre was e.files[i].data ∧ (was.size : Int) ≤ e.files[i].synced := by
            have h1 : i < e.files.length := by rw [hmo.1]; exact hi
            obtain ⟨m1, m2, m3⟩ := hmo.2 i hi h1
            exact ⟨h1, m1.trans (unhide HI), by rw [← unhide HD]; exact m2, by rw [m3, unhide HS]; omega⟩
          obtain ⟨is, hrd, hpre⟩ := safe (d := e) keep hre hi2 hin2 hid2 his2
          have HCOK := hide (crash_ok (d := e) keep hre)
          have HFO := hide (right_parts hre).2.2.1
          have HFD : Hid (∀ j (h : j < e.files.length), e.files[j].data.size ≤ 16777216) := hide (fun j h => by have h1 := size_le_used (List.getElem_mem h); have h2 := (right_parts hre).2.1; have h3 := (right_parts hre).1.2.1; omega)
          have h1024 : e.files.length ≤ 1024 := (right_parts hre).1.2.2.1
          obtain ⟨M, hM⟩ : ∃ M, e.files.length = M := ⟨_, rfl⟩
          have hM10 : M ≤ 1024 := by omega
          obtain ⟨rm, crm⟩ : ∃ rm, e.files.mapIdx (keepAt keep) = rm := ⟨_, rfl⟩
          have hrml : rm.length = M := by rw [← crm, ← hM]; simp
          have HG : Hid (∀ j (h : j < e.files.length) (h' : j < rm.length), rm[j] = keepAt keep j e.files[j]) := hide (fun j h h' => by subst crm; simp)
          rw [crm] at HCR HCOK hrd
          obtain ⟨ar, cr, hnv, _, _, hec⟩ := id hrow
          have HROW := hide hrow
          have HKB := hide hkb
          have HWB := hide hwb
          have HM := hide hM
          have HRML := hide hrml
          have HPRE := hide hpre
          have HEC := hide hec
          injection hnv with hnv1 hnv2 hnv3
          subst hnv1 hnv3
          rw [hM] at hnv2
          replace hnv2 := hnv2.symm
          subst hnv2
          have hcut := hpre.cut
          have hple := hpre.le
          clear hre hmo hfe hrow hkb HV hid2 his2 hin2 hi2 hM hrml hpre crm hwb hec HI HD HS
          have c0 := (unhide HKB).cell 0
          have c1 := (unhide HKB).cell 1
          have c2 := (unhide HKB).cell 2
          have c3 := (unhide HKB).cell 3
          have c4 := (unhide HKB).cell 4
          simp only [List.getElem?_toArray, List.getElem?_cons_succ, List.getElem?_cons_zero] at c0 c1 c2 c3 c4
          simp only [fsV] at HCR
          go_wp2_with fail
          refine (unhide HCR).mono ?_
          rintro e6 w6 ⟨v6, rfl, r6, fit6, b6⟩
          clear c0 c1 c2 c3 c4
          obtain ⟨a6, cap6, hv6, h663, _, hcc⟩ := id r6
          (try simp only at hv6)
          rw [unhide HRML] at hv6
          subst hv6
          have bal : Below w6.heap.size w6 (w6.alloc (Obj.cells #[.int .i64 e.room, .slice a6 M cap6, .int .i64 (-1), .int .i64 (-1), .bool false] 24)) := (Below.refl _ _).alloc (Nat.le_refl _) _
          have KC := hide (Blk.new w6 24 #[.int .i64 e.room, .slice a6 M cap6, .int .i64 (-1), .int .i64 (-1), .bool false])
          have HRC := hide (read_any ⟨e.room, rm, -1, -1, false⟩ (.slice a6 M cap6) name _ fit6 (r6.below bal))
          rw [hrd] at HRC
          simp only [fsV] at HRC
          have HR6 := hide (r6.below bal)
          have HF6 := hide fit6
          have HKB2 := hide (((unhide HKB).below b6).below bal)
          have HE2 := hide (((unhide HROW).below b6).below bal)
          have HB6 := hide (belows (belows (unhide HWB) b6) bal)
          clear bal b6 r6 fit6 HCR HKB HROW HWB hrd hcc
          go_wp2_with fail
          refine (unhide HRC).mono ?_
          rintro e7 w7 ⟨rfl, b7⟩
          have KC7 := hide ((unhide KC).below b7)
          have KB7 := hide ((unhide HKB2).below b7)
          have RC7 := hide ((unhide HR6).below b7)
          have RE7 := hide ((unhide HE2).below b7)
          have B7 := hide (belows (unhide HB6) b7)
          clear b7 KC HKB2 HR6 HE2 HB6 HRC
          have u1 := (unhide KC7).cell 1
          have d1 := (unhide KB7).cell 1
          simp only [List.getElem?_toArray, List.getElem?_cons_succ, List.getElem?_cons_zero] at u1 d1
          have hbq : (was.toList == was.toList) = true := by simp
          have hlenb : decide (is.size < was.size) = false := decide_eq_false (by omega)
          have hMM : ((M : Int) == (M : Int)) = true := by simp
          have hsl := fun X => slice_upto is (was.size : Int) was.size rfl hple X
          rw [hcut] at hsl
          clear hcut hple
          go_wp2
          generalize Value.agg #[.int .i64 e.room, .slice a' M c', .int .i64 e.fuse, .int .i64 e.fault, .bool e.down] = A5
          generalize Value.agg #[.int .i64 e.room, .slice a6 M cap6, .int .i64 (-1), .int .i64 (-1), .bool false] = A6
          generalize Value.tuple #[A6, .int .i64 0] = T6
          generalize Value.tuple #[Value.string is, .int .i64 0] = T7
          have hs7 : w7.heap.size = w7.heap.size := rfl
          generalize hwq : w7 = wq at *
          clear hwq hs7
          go_loopw [18, 19, 20, 106] (fun x y y2 z wr => ∃ k : Nat, z = .int .i64 k ∧ k ≤ M ∧ Hid (Below wq.heap.size wq wr)) (fun _ _ _ z _ => M - (intOf z).toNat)
          case atStart => exact ⟨0, rfl, Nat.zero_le _, hide (Below.refl _ _)⟩
          case round =>
            obtain ⟨k, rfl, hk, HBQ⟩ := hrel
            by_cases hlt : k < M
            · have hke : k < e.files.length := by have := unhide HM; omega
              have hkr : k < rm.length := by have := unhide HRML; omega
              obtain ⟨ae, ce, hve, _, _, hce⟩ := (unhide RE7).below (unhide HBQ)
              obtain ⟨b, off, hba, hb, hcl⟩ : ∃ b off, ae = some ⟨b, off, none⟩ ∧ b < wr.heap.size ∧ ∀ j u, (flatF e.files)[j]? = some u → wr.cell? ⟨b, off + j, none⟩ = some u := by
                rcases hce with h0 | h0
                · rw [h0] at hke; simp at hke
                · exact h0
              injection hve with hv1 hv2 hv3
              rw [hba] at hv1
              obtain ⟨ax, cx, hvx, _, _, hcx⟩ := (unhide RC7).below (unhide HBQ)
              obtain ⟨b2, off2, hba2, hb2, hcl2⟩ : ∃ b off, ax = some ⟨b, off, none⟩ ∧ b < wr.heap.size ∧ ∀ j u, (flatF rm)[j]? = some u → wr.cell? ⟨b, off + j, none⟩ = some u := by
                rcases hcx with h0 | h0
                · rw [show rm = [] from h0] at hkr; simp at hkr
                · exact h0
              injection hvx with hw1 hw2 hw3
              rw [hba2] at hw1
              subst hv1 hw1
              obtain ⟨p0, p1, p2⟩ := row_cells hcl hke
              obtain ⟨r0, r1, r2⟩ := row_cells hcl2 hkr
              have hgk := unhide HG k hke hkr
              obtain ⟨t1, t2, t3, t4, t5⟩ := keepAt_facts keep k (unhide HFO _ (List.getElem_mem hke))
              clear t4 t5
              rw [← hgk] at t1 t2 t3
              have tc := t2.cut
              have tl := t2.le
              have q1 := ((unhide KC7).below (unhide HBQ)).cell 1
              have q2 := ((unhide KB7).below (unhide HBQ)).cell 1
              simp only [List.getElem?_toArray, List.getElem?_cons_succ, List.getElem?_cons_zero] at q1 q2
              have hlt1 : (k : Int) < (M : Int) := by omega
              have HLT := hide hlt
              have hfe := (unhide HFO _ (List.getElem_mem hke))
              clear hce hcl hcl2 hcx hv2 hv3 hw2 hw3 hba hba2 hgk t2 hfe
              rw [t1] at r0
              rw [t3] at r2
              clear t1 t3
              have tl63 : (e.files[k].data.size : Int) ≤ 9223372036854775807 := by have := (unhide HFD k hke); omega
              generalize e.files[k].name = n0 at p0 r0
              generalize e.files[k].data = d0 at p1 tc tl tl63
              generalize e.files[k].synced = s0 at p2
              generalize rm[k].data = d9 at r1 r2 tc tl
              have z1 : (n0.toList == n0.toList) = true := by simp
              have z2 : (d9.toList == d9.toList) = true := by simp
              have z3 : ¬ ((d9.size : Int) > (d0.size : Int)) := by omega
              have z3b : decide ((d9.size : Int) > (d0.size : Int)) = false := decide_eq_false z3
              have z4 : ((d9.size : Int) == (d9.size : Int)) = true := by simp
              have z5 : decide (d9.size > d0.size) = false := decide_eq_false (by omega)
              have z6 : decide (d0.size < d9.size) = false := decide_eq_false (by omega)
              have z7 : (d9.size == d9.size) = true := by simp
              have hsl2 := fun X => slice_upto d0 (d9.size : Int) d9.size rfl tl X
              rw [tc] at hsl2
              have HBX := hide (belows (unhide HBQ) (belows ((Below.refl wr.heap.size wr).alloc (Nat.le_refl _) (Obj.cells #[.string n0, .string d0, .int .i64 s0] 47)) ((Below.refl _ _).alloc (Nat.le_refl _) (Obj.cells #[.string n0, .string d9, .int .i64 (d9.size : Int)] 47))))
              have nb : b2 ≠ wr.heap.size := by omega
              have v0 : (wr.alloc (Obj.cells #[.string n0, .string d0, .int .i64 s0] 47)).cell? ⟨b2, off2 + k * 3, none⟩ = some (.string n0) := (((Below.refl wr.heap.size wr).alloc (Nat.le_refl _) _).cell (p := ⟨b2, off2 + k * 3, none⟩) hb2).trans r0
              have v1 : (wr.alloc (Obj.cells #[.string n0, .string d0, .int .i64 s0] 47)).cell? ⟨b2, off2 + k * 3 + 1, none⟩ = some (.string d9) := (((Below.refl wr.heap.size wr).alloc (Nat.le_refl _) _).cell (p := ⟨b2, off2 + k * 3 + 1, none⟩) hb2).trans r1
              have v2 : (wr.alloc (Obj.cells #[.string n0, .string d0, .int .i64 s0] 47)).cell? ⟨b2, off2 + k * 3 + 2, none⟩ = some (.int .i64 (d9.size : Int)) := (((Below.refl wr.heap.size wr).alloc (Nat.le_refl _) _).cell (p := ⟨b2, off2 + k * 3 + 2, none⟩) hb2).trans r2
              have q1b := (((unhide KC7).below (unhide HBQ)).below ((Below.refl wr.heap.size wr).alloc (Nat.le_refl _) (Obj.cells #[.string n0, .string d0, .int .i64 s0] 47))).cell 1
              simp only [List.getElem?_toArray, List.getElem?_cons_succ, List.getElem?_cons_zero] at q1b
              clear tc HBQ
              have kf := (Blk.new wr 47 #[.string n0, .string d0, .int .i64 s0]).below ((Below.refl _ _).alloc (Nat.le_refl _) (Obj.cells #[.string n0, .string d9, .int .i64 (d9.size : Int)] 47))
              have kg := Blk.new (wr.alloc (Obj.cells #[.string n0, .string d0, .int .i64 s0] 47)) 47 #[.string n0, .string d9, .int .i64 (d9.size : Int)]
              simp only [World.size_alloc] at kg
              have HKF := hide kf
              have HKG := hide kg
              clear kf kg
              go_wp2
              clear v0 v1 v2 q1 q2 q1b p0 p1 p2 r0 r1 r2 u1 d1
              generalize ((wr.alloc (Obj.cells #[.string n0, .string d0, .int .i64 s0] 47)).alloc (Obj.cells #[.string n0, .string d9, .int .i64 (d9.size : Int)] 47)) = Y at HKF HKG HBX ⊢
              have o0 := (unhide HKF).cell 0
              have o1 := (unhide HKF).cell 1
              have o2 := (unhide HKF).cell 2
              have l0 := (unhide HKG).cell 0
              have l1 := (unhide HKG).cell 1
              have l2 := (unhide HKG).cell 2
              simp only [List.getElem?_toArray, List.getElem?_cons_succ, List.getElem?_cons_zero] at o0 o1 o2 l0 l1 l2
              clear RE7 RC7 KC7 KB7 B7 HFO HFD HG HF6 HCOK HRML HPRE HEC HKF HKG hsl nb hb hb2 hke hkr hMM z4 z7 tl63
              go_region_held3 (fun w' => w'.cell? ⟨wr.heap.size, 0, none⟩ = some (.string n0) ∧ w'.cell? ⟨wr.heap.size, 1, none⟩ = some (.string d0) ∧ w'.cell? ⟨wr.heap.size + 1, 0, none⟩ = some (.string n0) ∧ w'.cell? ⟨wr.heap.size + 1, 1, none⟩ = some (.string d9) ∧ w'.cell? ⟨wr.heap.size + 1, 2, none⟩ = some (.int .i64 (d9.size : Int))) (go_keep) (fail)
              go_wp2
              exact ⟨⟨k + 1, by go_num, by have := unhide HLT; omega, hide (below_drN (unhide HBX) _)⟩, by have := unhide HLT; simp [intOf]; omega⟩
            · have HCK := hide (check_any ⟨e.room, rm, -1, -1, false⟩ (.slice a6 M cap6) wr (unhide HF6).1 ((unhide RC7).below (unhide HBQ)))
              rw [unhide HCOK] at HCK
              simp only [fsV, if_true] at HCK
              have kc := (unhide KC7).below (unhide HBQ)
              have c0 := (kc).cell 0
              have c1 := (kc).cell 1
              have c2 := (kc).cell 2
              have c3 := (kc).cell 3
              have c4 := (kc).cell 4
              simp only [List.getElem?_toArray, List.getElem?_cons_succ, List.getElem?_cons_zero] at c0 c1 c2 c3 c4
              have HKC := hide kc
              have HBZ := hide (belows (unhide B7) (unhide HBQ))
              clear kc
              go_wp2_with fail
              refine (unhide HCK).mono ?_
              rintro e8 w8 ⟨rfl, b8⟩
              clear c0 c1 c2 c3 c4
              have g4 := ((unhide HKC).below b8).cell 4
              simp only [List.getElem?_toArray, List.getElem?_cons_succ, List.getElem?_cons_zero] at g4
              have B8 := hide (belows (unhide HBZ) b8)
              clear b8
              go_wp2
              go_ret
              exact ⟨rfl, unhide B8⟩
    · have hnz : ((n3 : Int) == 0) = false := by simp; omega
      have hnz2 : ((n3 : Int) != 0) = true := by simp; omega
      have hnz3 : ¬ (n3 : Int) = 0 := by omega
      clear HOK fit2 K3 R3
      go_wp2
      go_ret
      exact ⟨rfl, unhide B3⟩
  · have hnz : ((n2 : Int) == 0) = false := by simp; omega
    have hnz2 : ((n2 : Int) != 0) = true := by simp; omega
    have hnz3 : ¬ (n2 : Int) = 0 := by omega
    clear HOK fit2 K3 R3
    go_wp2
    go_ret
    exact ⟨rfl, unhide B3⟩
end Go.Proofs.Ytagcdjjgflmihaa
