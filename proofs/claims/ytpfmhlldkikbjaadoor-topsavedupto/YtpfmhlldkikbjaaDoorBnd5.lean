/-
  What disk.Crash does, over this seat's program.
-/
import Derived.Test.YtpfmhlldkikbjaaDoorBnd4
import Derived.Deep.QuietTactic
import Derived.BigQuiet
import Derived.Test.YtpfmhlldkikbjaaDoorBnd1
import Derived.Deep.RegionHeld3
set_option linter.unusedVariables false
set_option linter.unusedSimpArgs false
namespace Go.Proofs.YtpfmhlldkikbjaaDoor
open Go.RowKit Go.Proofs.Dsk

/-- The value v is a slice of numbers whose elements are l. -/
def RowI (w : World) (v : Value) (l : List Int) : Prop :=
  ∃ (a : Option Addr) (cap : Nat), v = .slice a l.length cap ∧ l.length ≤ 9223372036854775807 ∧ (∀ x ∈ l, -9223372036854775808 ≤ x ∧ x ≤ 9223372036854775807) ∧
    (l = [] ∨ ∃ b off, a = some ⟨b, off, none⟩ ∧ b < w.heap.size ∧ ∀ j (h : j < l.length), w.cell? ⟨b, off + j, none⟩ = some (.int .i64 l[j]))
theorem RowI.below {w w' : World} {v : Value} {l : List Int} (h : RowI w v l) (hb : Below w.heap.size w w') : RowI w' v l := by
  obtain ⟨a, cap, hv, hl, hn, hc⟩ := h
  refine ⟨a, cap, hv, hl, hn, ?_⟩
  rcases hc with hc | ⟨b, off, ha, hlt, hc⟩
  · exact Or.inl hc
  · have := hb.size
    refine Or.inr ⟨b, off, ha, by omega, fun j hj => ?_⟩
    rw [hb.cell (p := ⟨b, off + j, none⟩) hlt]
    exact hc j hj

theorem SysV.sh {w w' : World} {C B : Nat} {v : Value} {d : Fs} (h : SysV w C B v d) (hw : w' = { w with drawn := w'.drawn }) : SysV w' C B v d := by rw [hw]; exact h
/-- How many bytes more of a file are kept. -/
def moreK (keep : List Int) (i : Nat) (f : File) : Int := if i < keep.length then min (max (keep[i]!) 0) (f.data.size - f.synced) else 0
theorem keepAt_eq (keep : List Int) (i : Nat) (f : File) : keepAt keep i f = { f with data := f.data.extract 0 (f.synced + moreK keep i f).toNat, synced := f.synced + moreK keep i f } := rfl
theorem moreK_le (keep : List Int) (i : Nat) {f : File} (h : f.synced ≤ f.data.size) : 0 ≤ moreK keep i f ∧ moreK keep i f ≤ f.data.size - f.synced := by
  unfold moreK
  split
  · omega
  · omega
def crashL (keep : List Int) (k : Nat) (l : List File) : List File := l.mapIdx fun j f => if j < k then keepAt keep j f else f
theorem crashL_len (keep : List Int) (k : Nat) (l : List File) : (crashL keep k l).length = l.length := by simp [crashL]
theorem crashL_zero (keep : List Int) (l : List File) : crashL keep 0 l = l := by
  apply List.ext_getElem
  · simp [crashL]
  · intro i h1 h2; simp [crashL]
theorem crashL_all (keep : List Int) (l : List File) : crashL keep l.length l = l.mapIdx (keepAt keep) := by
  apply List.ext_getElem
  · simp [crashL]
  · intro i h1 h2
    simp only [crashL, List.length_mapIdx] at h1
    simp [crashL, h1]
theorem crashL_at (keep : List Int) (k : Nat) (l : List File) (h : k < l.length) (h' : k < (crashL keep k l).length) : (crashL keep k l)[k] = l[k] := by simp [crashL]
theorem crashL_step (keep : List Int) (k : Nat) (l : List File) (h : k < l.length) : (crashL keep k l).set k (keepAt keep k l[k]) = crashL keep (k + 1) l := by
  apply List.ext_getElem
  · simp [crashL]
  · intro i h1 h2
    rw [List.getElem_set]
    by_cases hk : k = i
    · subst hk; simp [crashL]
    · rw [if_neg hk]
      simp only [crashL, List.getElem_mapIdx]
      by_cases h3 : i < k
      · rw [if_pos h3, if_pos (by omega)]
      · rw [if_neg h3, if_neg (by omega)]
/-- A file of the list at work is put in another one's place: first its number, then its bytes. -/
theorem keep_step {w : World} {C B g m cap k : Nat} {d : Fs} {keep : List Int} (hm : d.files.length = m) (hk : k < d.files.length) (h : SysV w C B (.slice (some ⟨g, 0, none⟩) m cap) { d with files := crashL keep k d.files }) (hok : 0 ≤ d.files[k].synced ∧ d.files[k].synced ≤ d.files[k].data.size) :
    SysV ((w.setCell ⟨g, k * 3 + 2, none⟩ (.int .i64 (d.files[k].synced + moreK keep k d.files[k]))).setCell ⟨g, k * 3 + 1, none⟩ (.string (d.files[k].data.extract 0 (d.files[k].synced + moreK keep k d.files[k]).toNat))) C B (.slice (some ⟨g, 0, none⟩) m cap) { d with files := crashL keep (k + 1) d.files } := by
  have hk1 : k < (crashL keep k d.files).length := by rw [crashL_len]; exact hk
  have hat := crashL_at keep k d.files hk hk1
  have hmm := moreK_le keep k hok.2
  have hfi := h.2.1.2.1 _ (List.getElem_mem hk1)
  rw [hat] at hfi
  have h1 := SysV.fileM (d := { d with files := crashL keep k d.files }) (f := { d.files[k] with synced := d.files[k].synced + moreK keep k d.files[k] }) (u := .int .i64 (d.files[k].synced + moreK keep k d.files[k])) h (by show (crashL keep k d.files).length = m; rw [crashL_len]; exact hm) hk1 (show 2 < 3 by omega) (by show cellsF _ = (cellsF (crashL keep k d.files)[k]).set 2 _; rw [hat]; rfl) ⟨hfi.1, hfi.2.1, by show -9223372036854775808 ≤ d.files[k].synced + moreK keep k d.files[k]; omega, by show d.files[k].synced + moreK keep k d.files[k] ≤ 9223372036854775807; have := hfi.2.1; omega⟩
  have hk2 : k < ((crashL keep k d.files).set k { d.files[k] with synced := d.files[k].synced + moreK keep k d.files[k] }).length := by rw [List.length_set]; exact hk1
  have h2 := SysV.fileM (d := { d with files := (crashL keep k d.files).set k { d.files[k] with synced := d.files[k].synced + moreK keep k d.files[k] } }) (f := keepAt keep k d.files[k]) (u := .string (d.files[k].data.extract 0 (d.files[k].synced + moreK keep k d.files[k]).toNat)) h1 (by show List.length (List.set _ _ _) = m; rw [List.length_set, crashL_len]; exact hm) hk2 (show 1 < 3 by omega) (by rw [keepAt_eq]; simp [cellsF]) (by
    rw [keepAt_eq]
    exact ⟨hfi.1, Nat.le_trans (extract_le _ _) hfi.2.1, by show -9223372036854775808 ≤ d.files[k].synced + moreK keep k d.files[k]; omega, by show d.files[k].synced + moreK keep k d.files[k] ≤ 9223372036854775807; have := hfi.2.1; omega⟩)
  simp only [setset, crashL_step keep k d.files hk] at h2
  exact h2
end Go.Proofs.YtpfmhlldkikbjaaDoor

/-
  What disk.Crash does, over this seat's program: the walk.
-/
set_option linter.unusedVariables false
set_option linter.unusedSimpArgs false
namespace Go.Proofs.YtpfmhlldkikbjaaDoor
open Go.RowKit Go.Proofs.Dsk

theorem crash_right {d : Fs} {keep : List Int} (h : right d = true) : crashR d keep = (⟨d.room, d.files.mapIdx (keepAt keep), -1, -1, false⟩, 0) := by unfold crashR; rw [if_neg (by simp [h])]

set_option maxHeartbeats 8000000 in
set_option maxRecDepth 100000 in
theorem crash_any (d : Fs) (v vk : Value) (keep : List Int) (w : World) (hfit : FitAll d) (h : RowF w v d.files) (hkp : RowI w vk keep) :
    Calls Tryd.prog 10 #[fsV d v, vk] w fun e w' => ∃ v', e = .returned (.tuple #[fsV (crashR d keep).1 v', .int .i64 (crashR d keep).2]) ∧ RowF w' v' (crashR d keep).1.files ∧ FitAll (crashR d keep).1 ∧ Below w.heap.size w w' := by
  have hb1 := (((Below.refl _ w).alloc (Nat.le_refl _) (Obj.cells #[.int .i64 d.room, v, .int .i64 d.fuse, .int .i64 d.fault, .bool d.down] 31)).alloc (by simp) (Obj.cells #[.int .i64 0, .slice none 0 0, .int .i64 0, .int .i64 0, .bool false] 31))
  have hck := check_any d v _ hfit.1 (h.below hb1)
  have HRW := hide (h.below hb1)
  have HFIT := hide hfit
  obtain ⟨a, cap, rfl, h63, hff, hc⟩ := h
  obtain ⟨ka, kc, rfl, hk63, hkf, hkc⟩ := hkp
  have HKF := hide hkf
  have HKC := hide hkc
  clear hc hff hkf hkc
  have z0 := ((Blk.new w 31 #[.int .i64 d.room, .slice a d.files.length cap, .int .i64 d.fuse, .int .i64 d.fault, .bool d.down]).below ((Below.refl _ _).alloc (Nat.le_refl _) (Obj.cells #[.int .i64 0, .slice none 0 0, .int .i64 0, .int .i64 0, .bool false] 31)))
  have z1 := (Blk.new (w.alloc (Obj.cells #[.int .i64 d.room, .slice a d.files.length cap, .int .i64 d.fuse, .int .i64 d.fault, .bool d.down] 31)) 31 #[.int .i64 0, .slice none 0 0, .int .i64 0, .int .i64 0, .bool false])
  simp only [World.size_alloc] at z1
  cases hr : right d with
  | false =>
    have hw : crashR d keep = (zeroFs, 2) := by unfold crashR; rw [if_pos hr]
    rw [hr] at hck
    rw [hw]
    simp only [fsV, Bool.false_eq_true, if_false] at hck ⊢
    go_enter Tryd.func10, Tryd.ntmps10
    go_wp2_with fail
    refine hck.mono ?_
    rintro e w1 ⟨rfl, b1⟩
    have k1 := z1.below b1
    have e0 := k1.cell 0
    have e1 := k1.cell 1
    have e2 := k1.cell 2
    have e3 := k1.cell 3
    have e4 := k1.cell 4
    have f0 := k1.frozen 0
    have f1 := k1.frozen 1
    have f2 := k1.frozen 2
    have f3 := k1.frozen 3
    have f4 := k1.frozen 4
    simp only [List.getElem?_toArray, List.getElem?_cons_succ, List.getElem?_cons_zero] at e0 e1 e2 e3 e4
    have BW := hide (hb1.trans (b1.mono (by simp; omega)))
    clear k1 z0 z1 hb1 b1 hck hr hw
    have hlow := below5 (s := w.heap.size + 1) (unhide BW) (by omega)
    have BF := hide hlow
    clear hlow
    go_wp2
    (try simp only [Exit.inBlock, Exit.then])
    refine bodyPost_ret (v := .tuple #[.agg #[.int .i64 0, .slice none 0 0, .int .i64 0, .int .i64 0, .bool false], .int .i64 2]) ?_ rfl ⟨_, rfl, rowF_nil _ _ _, fit_empty (by omega) (by omega) (by omega) (by omega) (by omega) (by omega), unhide BF _ _ _ _ _⟩
    rw [results_cell_tmp rfl]
    go_simp
  | true =>
    rw [crash_right hr]
    rw [hr] at hck
    have hs := small_of_right hr
    have hp := right_parts hr
    have hn : d.files.length ≤ 1024 := hp.1.2.2.1
    have HFO : Hid (∀ k (h : k < d.files.length), 0 ≤ d.files[k].synced ∧ d.files[k].synced ≤ d.files[k].data.size ∧ d.files[k].data.size ≤ 16777216) := hide (fun k h => by
      have h1 := hp.2.2.1 _ (List.getElem_mem h)
      have h2 := size_le_used (List.getElem_mem h)
      have h3 := hp.2.1
      have h4 := hp.1.2.1
      simp only [fileOk, Bool.and_eq_true, decide_eq_true_eq] at h1
      omega)
    have HCP := hide (fun (W : World) (hW : RowF W (.slice a d.files.length cap) d.files) => copyOf_any d (.slice a d.files.length cap) W hn hs hW)
    clear hp hs
    simp only [fsV, if_true] at hck HCP ⊢
    go_enter Tryd.func10, Tryd.ntmps10
    go_wp2_with fail
    refine hck.mono ?_
    rintro e w1 ⟨rfl, b1⟩
    have k0 := z0.below b1
    have k1 := z1.below b1
    have c0 := k0.cell 0
    have c1 := k0.cell 1
    have c2 := k0.cell 2
    have c3 := k0.cell 3
    have c4 := k0.cell 4
    simp only [List.getElem?_toArray, List.getElem?_cons_succ, List.getElem?_cons_zero] at c0 c1 c2 c3 c4
    have hs1 := b1.size
    have hbw1 := hb1.trans (b1.mono (by simp; omega))
    have hrw1 := (unhide HRW).below b1
    simp only [World.size_alloc] at hs1
    have BW1 := hide hbw1
    have K1 := hide k1
    have CP := hide (unhide HCP w1 hrw1)
    clear k0 k1 z0 z1 hb1 b1 hck hr hbw1 hrw1 HRW HCP
    go_wp2_with fail
    refine (unhide CP).mono ?_
    rintro e w2 ⟨v', rfl, hown, b2⟩
    obtain ⟨a', cap', rfl⟩ := own_form hown
    have hs2 := b2.size
    have BW2 := hide ((unhide BW1).trans (b2.mono (unhide BW1).size))
    have K2 := (unhide K1).below b2
    have OWN := hide hown
    clear hown b2 c0 c1 c2 c3 c4 CP K1
    have hal := (Below.refl w2.heap.size w2).alloc (Nat.le_refl _) (Obj.cells #[.int .i64 d.room, .slice a' d.files.length cap', .int .i64 d.fuse, .int .i64 d.fault, .bool d.down] 65)
    have hown3 := (unhide OWN).alloc (Obj.cells #[.int .i64 d.room, .slice a' d.files.length cap', .int .i64 d.fuse, .int .i64 d.fault, .bool d.down] 65)
    obtain ⟨m, hm⟩ : ∃ m, d.files.length = m := ⟨_, rfl⟩
    have hsys : SysV (w2.alloc (Obj.cells #[.int .i64 d.room, .slice a' d.files.length cap', .int .i64 d.fuse, .int .i64 d.fault, .bool d.down] 65)) w1.heap.size w2.heap.size (.slice a' d.files.length cap') d := by
      refine ⟨hs2, unhide HFIT, Blk.new w2 _ _, hown3, fun e => ?_⟩
      have := ((unhide OWN).lt _ e).2
      omega
    have BW3 := hide ((unhide BW2).alloc (unhide BW2).size (Obj.cells #[.int .i64 d.room, .slice a' d.files.length cap', .int .i64 d.fuse, .int .i64 d.fault, .bool d.down] 65))
    have K3 := hide (K2.below hal)
    rw [hm] at hsys
    have SV3 := hide hsys
    have HM := hide hm
    have hB3 : w2.heap.size < (w2.alloc (Obj.cells #[.int .i64 d.room, .slice a' d.files.length cap', .int .i64 d.fuse, .int .i64 d.fault, .bool d.down] 65)).heap.size := by simp
    rw [hm] at hn h63 BW3 K3 hB3 ⊢
    generalize hB : w2.heap.size = B at *
    clear hal hown3 hsys OWN K2 BW2 BW1
    go_wp2
    generalize hW3 : w2.alloc (Obj.cells #[.int .i64 d.room, .slice a' m cap', .int .i64 d.fuse, .int .i64 d.fault, .bool d.down] 65) = W3 at *
    clear hW3 hm
    generalize w1.heap.size = C at *
    have HW0 : Hid (Below w.heap.size w W3) := BW3
    have hCw : w.heap.size + 1 < C := by omega
    have hCW3 : C ≤ W3.heap.size := by omega
    go_loopw [8, 9, 10, 24] (fun x y u z wr => ∃ k : Nat, z = .int .i64 k ∧ k ≤ m ∧ SysV wr C B (.slice a' m cap') { d with files := crashL keep k d.files } ∧ Below C W3 wr) (fun _ _ _ z _ => m - (intOf z).toNat)
    case atStart => exact ⟨0, rfl, Nat.zero_le _, by rw [crashL_zero]; exact unhide SV3, Below.refl _ _⟩
    case round =>
      obtain ⟨k, rfl, hk, hsv, hbw⟩ := hrel
      have cB1 := hsv.2.2.1.cell 1
      simp only [sysCells, List.getElem?_toArray, List.getElem?_cons_succ, List.getElem?_cons_zero] at cB1
      have HSV := hide hsv
      have HBW := hide hbw
      have hwsz := hbw.size
      by_cases hlt : k < m
      · have hkd : k < d.files.length := by have := unhide HM; omega
        have hk1 : k < ({ d with files := crashL keep k d.files } : Fs).files.length := by show k < (crashL keep k d.files).length; rw [crashL_len]; exact hkd
        obtain ⟨g, cap5, hv5, hgC, hgw, nBg, x0, x1, x2, hfz, _⟩ := hsv.at hk1
        injection hv5 with e1 e2 e3
        subst e1
        have hat := crashL_at keep k d.files hkd (by rw [crashL_len]; exact hkd)
        have x1' : wr.cell? ⟨g, k * 3 + 1, none⟩ = some (.string d.files[k].data) := by rw [x1]; show some (Value.string (crashL keep k d.files)[k].data) = _; rw [hat]
        have x2' : wr.cell? ⟨g, k * 3 + 2, none⟩ = some (.int .i64 d.files[k].synced) := by rw [x2]; show some (Value.int .i64 (crashL keep k d.files)[k].synced) = _; rw [hat]
        have hf1 := hfz (k * 3 + 1)
        have hf2 := hfz (k * 3 + 2)
        obtain ⟨o1, o2, o3⟩ := unhide HFO k hkd
        have hmo := moreK_le keep k o2
        have HST := hide (keep_step (unhide HM) hkd hsv ⟨o1, o2⟩)
        have HMO : Hid (moreK keep k d.files[k] = if k < keep.length then min (max (keep[k]!) 0) (d.files[k].data.size - d.files[k].synced) else 0) := hide rfl
        have hkm : (k : Int) < (m : Int) := by omega
        clear x0 x1 x2 hfz e2 e3 hat hk1 hsv hbw
        generalize d.files[k].data = dt at x1' o2 o3 hmo HST HMO
        generalize d.files[k].synced = sy at x2' o1 o2 hmo HST HMO
        generalize moreK keep k d.files[k] = mo at hmo HST HMO
        obtain ⟨hmo1, hmo2⟩ := hmo
        obtain ⟨T, hT⟩ : ∃ T : Int, sy + mo = T := ⟨_, rfl⟩
        have hT0 : 0 ≤ T := by omega
        have hT1 : T ≤ (dt.size : Int) := by omega
        rw [hT] at HST
        have hsl := fun W => slice_upto dt T T.toNat (by omega) (by omega) W
        have HWC : Hid ((wr.setCell ⟨g, k * 3 + 2, none⟩ (.int .i64 T)).cell? ⟨g, k * 3 + 1, none⟩ = some (.string dt) ∧ (wr.setCell ⟨g, k * 3 + 2, none⟩ (.int .i64 T)).cell? ⟨g, k * 3 + 2, none⟩ = some (.int .i64 T) ∧ (wr.setCell ⟨g, k * 3 + 2, none⟩ (.int .i64 T)).frozen? ⟨g, k * 3 + 1, none⟩ = false) := hide ⟨(World.cell?_setCell_other _ _ _ _ (by simp)).trans x1', by rw [World.cell?_setCell_same _ _ _ (by rw [x2'])], by simp [hf1]⟩
        have HB5 := hide (((unhide HBW).setCell (p := ⟨g, k * 3 + 2, none⟩) hgC (.int .i64 T)).setCell (p := ⟨g, k * 3 + 1, none⟩) hgC (.string (dt.extract 0 T.toNat)))
        by_cases hkk : k < keep.length
        · have hgk : keep[k]! = keep[k] := getElem!_pos keep k hkk
          have hmq := unhide HMO
          rw [if_pos hkk, hgk] at hmq
          obtain ⟨b, off, rfl, hb, hkcl⟩ : ∃ b off, ka = some ⟨b, off, none⟩ ∧ b < w.heap.size ∧ ∀ j (h : j < keep.length), w.cell? ⟨b, off + j, none⟩ = some (.int .i64 keep[j]) := by
            rcases unhide HKC with h0 | h0
            · rw [h0] at hkk; simp at hkk
            · exact h0
          have hbwr : Below w.heap.size w wr := (unhide HW0).trans ((unhide HBW).mono (by omega))
          have kx : wr.cell? ⟨b, off + k, none⟩ = some (.int .i64 keep[k]) := (hbwr.cell (p := ⟨b, off + k, none⟩) hb).trans (hkcl k hkk)
          have hkk1 : (k : Int) < (keep.length : Int) := by omega
          have hkv := unhide HKF _ (List.getElem_mem hkk)
          clear hgk hkcl hbwr
          generalize keep[k] = kv at kx hmq hkv
          generalize keep.length = kn at hkk hkk1 hk63
          obtain ⟨hkv1, hkv2⟩ := hkv
          go_wp2
          go_quiet (fail)
          rw [← hmq]
          clear hmq kx hkv1 hkv2
          (go_wp2)
          obtain ⟨y1, y2, y3⟩ := unhide HWC
          go_region
          all_goals
            go_wp2
            exact ⟨⟨k + 1, by go_num, by omega, (unhide HST).sh rfl, below_sh (unhide HB5) rfl⟩, by simp [intOf]; omega⟩
        · have hmq := unhide HMO
          rw [if_neg hkk] at hmq
          subst hmq
          have hkk1 : ¬ (k : Int) < (keep.length : Int) := by omega
          have hkk2 : keep.length ≤ k := by omega
          generalize keep.length = kn at hkk hkk1 hk63 hkk2
          (go_wp2)
          obtain ⟨y1, y2, y3⟩ := unhide HWC
          go_region
          all_goals
            go_wp2
            exact ⟨⟨k + 1, by go_num, by omega, (unhide HST).sh rfl, below_sh (unhide HB5) rfl⟩, by simp [intOf]; omega⟩
      · have hke : k = m := by omega
        have hfin : crashL keep k d.files = d.files.mapIdx (keepAt keep) := by rw [hke, ← unhide HM]; exact crashL_all _ _
        have hV := unhide HSV
        rw [hfin] at hV
        have kB := hV.2.2.1
        have K5 := (unhide K3).belowC (unhide HBW) (by omega)
        have c0 := kB.cell 0
        have c1 := kB.cell 1
        have c2 := kB.cell 2
        have c3 := kB.cell 3
        have c4 := kB.cell 4
        have g2 := kB.frozen 2
        have g3 := kB.frozen 3
        have g4 := kB.frozen 4
        have hCB := hV.1
        have hBne : B ≠ w.heap.size + 1 := by omega
        have V1 := hV.put (d' := { d with files := d.files.mapIdx (keepAt keep), down := false }) 4 (.bool false) rfl hV.2.1 (fun v => rfl)
        have V2 := V1.put (d' := { d with files := d.files.mapIdx (keepAt keep), down := false, fuse := -1 }) 2 (.int .i64 (-1)) rfl ⟨⟨hV.2.1.1.1, ⟨by show (-9223372036854775808 : Int) ≤ -1; omega, by show (-1 : Int) ≤ 9223372036854775807; omega⟩, hV.2.1.1.2.2⟩, hV.2.1.2⟩ (fun v => rfl)
        have V3 := V2.put (d' := ⟨d.room, d.files.mapIdx (keepAt keep), -1, -1, false⟩) 3 (.int .i64 (-1)) rfl ⟨⟨hV.2.1.1.1, ⟨by show (-9223372036854775808 : Int) ≤ -1; omega, by show (-1 : Int) ≤ 9223372036854775807; omega⟩, ⟨by show (-9223372036854775808 : Int) ≤ -1; omega, by show (-1 : Int) ≤ 9223372036854775807; omega⟩⟩, hV.2.1.2⟩ (fun v => rfl)
        have HF3 := hide V3.2.1
        have HO3 := hide V3.2.2.2.1
        have K6 := ((blk_far (b := B) (i := 4) K5 (fun e => hBne e.symm) (.bool false)) |> fun h => blk_far (b := B) (i := 2) h (fun e => hBne e.symm) (.int .i64 (-1))) |> fun h => blk_far (b := B) (i := 3) h (fun e => hBne e.symm) (.int .i64 (-1))
        have B6 := ((((unhide HBW).setCell (p := ⟨B, 4, none⟩) hCB (.bool false)).setCell (p := ⟨B, 2, none⟩) hCB (.int .i64 (-1))).setCell (p := ⟨B, 3, none⟩) hCB (.int .i64 (-1)))
        have BW6 := hide ((unhide HW0).trans (B6.mono (by omega)))
        have kB6 := V3.2.2.1
        simp only [sysCells, List.getElem?_toArray, List.getElem?_cons_succ, List.getElem?_cons_zero] at c0 c1 c2 c3 c4
        have RB := hide (below5 (s := w.heap.size + 1) (unhide BW6) (by omega))
        have RO := hide (own5 (s := w.heap.size + 1) (unhide HO3) (by omega))
        have e0 := K6.cell 0
        have e1 := K6.cell 1
        have e2 := K6.cell 2
        have e3 := K6.cell 3
        have e4 := K6.cell 4
        have f0 := K6.frozen 0
        have f1 := K6.frozen 1
        have f2 := K6.frozen 2
        have f3 := K6.frozen 3
        have f4 := K6.frozen 4
        have b0 := kB6.cell 0
        have b1 := kB6.cell 1
        have b2 := kB6.cell 2
        have b3 := kB6.cell 3
        have b4 := kB6.cell 4
        simp only [sysCells, List.getElem?_toArray, List.getElem?_cons_succ, List.getElem?_cons_zero] at e0 e1 e2 e3 e4 b0 b1 b2 b3 b4
        clear K6 kB6 B6 V1 V2 V3 kB hfin hV K5
        go_wp2
        (try simp only [Exit.inBlock, Exit.then])
        refine bodyPost_ret (v := .tuple #[.agg #[.int .i64 d.room, .slice a' m cap', .int .i64 (-1), .int .i64 (-1), .bool false], .int .i64 0]) ?_ rfl ⟨_, rfl, rowF_of_own (unhide RO _ _ _ _ _) (unhide HF3).2.2 (unhide HF3).2.1, unhide HF3, unhide RB _ _ _ _ _⟩
        rw [results_cell_tmp rfl]
        go_simp
end Go.Proofs.YtpfmhlldkikbjaaDoor

/-
  What disk.Rename's innermost step does where there is a file of the new name, over this seat's program.
-/
set_option linter.unusedVariables false
set_option linter.unusedSimpArgs false
namespace Go.Proofs.YtpfmhlldkikbjaaDoor
open Go.RowKit Go.Proofs.Dsk Go.Lib

end Go.Proofs.YtpfmhlldkikbjaaDoor

/-
  What disk.Rename's innermost step does where there is no file of the new name, over this seat's program.
-/
set_option linter.unusedVariables false
set_option linter.unusedSimpArgs false
namespace Go.Proofs.YtpfmhlldkikbjaaDoor
open Go.RowKit Go.Proofs.Dsk Go.Lib

end Go.Proofs.YtpfmhlldkikbjaaDoor

/-
  What disk.Rename does, over this seat's program.
-/
set_option linter.unusedVariables false
set_option linter.unusedSimpArgs false
namespace Go.Proofs.YtpfmhlldkikbjaaDoor
open Go.RowKit Go.Proofs.Dsk Go.Lib

/-- What Rename does with the file at a place of its copy. -/
def renameC (to : ByteArray) (i : Nat) (d : Fs) : Fs × Nat := if named to = false then (d, 1) else changeR d fun d => { d with files := renL d.files i to }

end Go.Proofs.YtpfmhlldkikbjaaDoor

/-
  Plain mathematics of what is renamed.
-/
set_option linter.unusedVariables false
namespace Go.Proofs.YtpfmhlldkikbjaaDoor
open Go.Proofs.Dsk

/-- A file system with other files. -/
def withF (d : Fs) (m : List File) : Fs := ⟨d.room, m, d.fuse, d.fault, d.down⟩
theorem used_cons (f : File) (l : List File) : used (f :: l) = f.data.size + used l := by simp [used]
theorem used_erase : ∀ {l : List File} {i : Nat} (h : i < l.length), used l = used (l.eraseIdx i) + l[i].data.size
  | [], i, h => by simp at h
  | f :: l, 0, h => by simp [used_cons]; omega
  | f :: l, i + 1, h => by
    have := used_erase (l := l) (i := i) (by simpa using h)
    simp only [List.eraseIdx_cons_succ, used_cons, List.getElem_cons_succ]
    omega
theorem used_insert : ∀ {l : List File} {i : Nat} {f : File}, i ≤ l.length → used (l.insertIdx i f) = used l + f.data.size
  | l, 0, f, _ => by simp [used_cons]; omega
  | [], i + 1, f, h => by simp at h
  | g :: l, i + 1, f, h => by
    have := used_insert (l := l) (i := i) (f := f) (by simpa using h)
    simp only [List.insertIdx_succ_cons, used_cons]
    omega
theorem used_set : ∀ (l : List File) (i : Nat) (f : File), used (l.set i f) ≤ used l + f.data.size
  | [], i, f => by simp [used]
  | g :: l, 0, f => by simp only [List.set_cons_zero, used_cons]; omega
  | g :: l, i + 1, f => by
    have := used_set l i f
    simp only [List.set_cons_succ, used_cons]
    omega

/-- What a list is with a file called otherwise. -/
structure Ren (l : List File) (i : Nat) (to : ByteArray) (hi : i < l.length) (m : List File) : Prop where
  rise : Rise m
  mem : (⟨to, l[i].data, l[i].synced⟩ : File) ∈ m
  sub : ∀ f ∈ m, f = ⟨to, l[i].data, l[i].synced⟩ ∨ (f ∈ l ∧ f.name ≠ l[i].name)
  le : m.length ≤ l.length
  ge : l.length ≤ m.length + 1
  fit : used m ≤ used l

theorem ren_is {l : List File} (h : Rise l) {i : Nat} (hi : i < l.length) (to : ByteArray) : Ren l i to hi (renL l i to) := by
  have hg : l[i]! = l[i] := getElem!_pos l i hi
  have h1 := rise_erase h i
  have hlen : (l.eraseIdx i).length = l.length - 1 := List.length_eraseIdx_of_lt hi
  have hmem : ∀ f ∈ l.eraseIdx i, f ∈ l ∧ f.name ≠ l[i].name := fun f hf => by
    rw [erase_filter h hi, List.mem_filter] at hf
    exact ⟨hf.1, by simpa using hf.2⟩
  have hus := used_erase hi
  by_cases hh : has (l.eraseIdx i) to = true
  · have e : renL l i to = (l.eraseIdx i).set (lb (l.eraseIdx i) to) ⟨to, l[i].data, l[i].synced⟩ := by unfold renL; simp only [hg]; rw [if_pos hh]
    rw [e]
    obtain ⟨hp, hn⟩ := has_lb h1 hh
    refine ⟨rise_set h1 hp (by rw [hn]), List.mem_set hp _, fun f hf => ?_, by rw [List.length_set]; omega, by rw [List.length_set]; omega, ?_⟩
    · rcases List.mem_or_eq_of_mem_set hf with h2 | h2
      · exact Or.inr (hmem f h2)
      · exact Or.inl h2
    · have := used_set (l.eraseIdx i) (lb (l.eraseIdx i) to) ⟨to, l[i].data, l[i].synced⟩
      simp only at this
      omega
  · have e : renL l i to = (l.eraseIdx i).insertIdx (lb (l.eraseIdx i) to) ⟨to, l[i].data, l[i].synced⟩ := by unfold renL; simp only [hg]; rw [if_neg hh]
    rw [e]
    have hle := lb_le (l.eraseIdx i) to
    have hil : ((l.eraseIdx i).insertIdx (lb (l.eraseIdx i) to) ⟨to, l[i].data, l[i].synced⟩).length = l.length := by rw [insert_len _ _ _ hle, hlen]; omega
    refine ⟨rise_insert h1 (f := ⟨to, l[i].data, l[i].synced⟩) (by simpa using hh), (List.mem_insertIdx hle).2 (Or.inl rfl), fun f hf => ?_, by omega, by omega, ?_⟩
    · rcases (List.mem_insertIdx hle).1 hf with h2 | h2
      · exact Or.inl h2
      · exact Or.inr (hmem f h2)
    · rw [used_insert hle]
      simp only
      omega

theorem spent_room (d : Fs) : (spent d).room = d.room ∧ (spent d).files = d.files ∧ (spent d).down = d.down := ⟨rfl, rfl, rfl⟩
theorem spent_right {d : Fs} {m : List File} (h : right d = true) (hl : m.length ≤ 1024) (hu : used m ≤ used d.files) (ho : ∀ f ∈ m, fileOk f = true) (hr : Rise m) : right (withF (spent d) m) = true := by
  obtain ⟨h1, h2, h3, h4⟩ := right_parts h
  refine right_yes (headOk_yes.2 ⟨h1.1, h1.2.1, hl, ?_, ?_⟩) ?_ (List.all_eq_true.2 ho) hr
  · show -1 ≤ (spent d).fuse
    simp only [spent]
    split <;> omega
  · show -1 ≤ (spent d).fault
    simp only [spent]
    split <;> omega
  · show (used m : Int) ≤ d.room
    omega

/-- A change that is done. -/
theorem changeR_ok {d : Fs} {f : Fs → Fs} (h : (changeR d f).2 = 0) : changeR d f = (f (spent d), 0) := by
  unfold changeR at h ⊢
  by_cases h0 : d.fuse = 0
  · rw [if_pos h0] at h; simp at h
  · rw [if_neg h0] at h ⊢
    by_cases h1 : d.fault = 0
    · rw [if_pos h1] at h; simp at h
    · rw [if_neg h1]
theorem workR_ok {d : Fs} {f : Fs → Fs × Nat} (h : (workR d f).2 = 0) : right d = true ∧ d.down = false ∧ workR d f = f d := by
  unfold workR at h ⊢
  by_cases h0 : right d = false
  · rw [if_pos h0] at h; simp at h
  · rw [if_neg h0] at h ⊢
    by_cases h1 : d.down = true
    · rw [if_pos h1] at h; simp at h
    · rw [if_neg h1]
      exact ⟨by simpa using h0, by simpa using h1, rfl⟩
theorem onR_ok {d : Fs} {n : ByteArray} {f : Nat → Fs → Fs × Nat} (h : (onR n f d).2 = 0) : has d.files n = true ∧ onR n f d = f (lb d.files n) d := by
  unfold onR at h ⊢
  by_cases h0 : has d.files n = true
  · rw [if_pos h0]; exact ⟨h0, rfl⟩
  · rw [if_neg h0] at h; simp at h

theorem rename_ok {d : Fs} {fr to : ByteArray} (h : (renameR d fr to).2 = 0) : right d = true ∧ d.down = false ∧ has d.files fr = true ∧ named to = true ∧ (renameR d fr to).1 = withF (spent d) (renL d.files (lb d.files fr) to) := by
  have e : renameR d fr to = workR d (onR fr (renameC to)) := rfl
  rw [e] at h ⊢
  obtain ⟨h1, h2, h3⟩ := workR_ok h
  rw [h3] at h ⊢
  obtain ⟨h4, h5⟩ := onR_ok h
  rw [h5] at h ⊢
  unfold renameC at h ⊢
  by_cases h6 : named to = false
  · rw [if_pos h6] at h; simp at h
  · rw [if_neg h6] at h ⊢
    refine ⟨h1, h2, h4, by simpa using h6, ?_⟩
    rw [changeR_ok h]
    rfl

/-- What is renamed is read there as it was. -/
theorem moved {d : Fs} {fr to : ByteArray} (h : (renameR d fr to).2 = 0) :
    (readR d fr).2 = 0 ∧ readR (renameR d fr to).1 to = ((readR d fr).1, 0) ∧ (fr = to ∨ (readR (renameR d fr to).1 fr).2 = 3) ∧ right (renameR d fr to).1 = true ∧ d.files.length ≤ (renameR d fr to).1.files.length + 1 ∧ (renameR d fr to).1.files.length ≤ 1024 := by
  obtain ⟨h1, h2, h3, h4, h5⟩ := rename_ok h
  rw [h5]
  obtain ⟨p1, p2, p3, p4⟩ := right_parts h1
  obtain ⟨hi, hn⟩ := has_lb p4 h3
  have hren := ren_is p4 hi to
  obtain ⟨m, hm⟩ : ∃ m, renL d.files (lb d.files fr) to = m := ⟨_, rfl⟩
  rw [hm] at hren ⊢
  have hrd : readR d fr = (d.files[lb d.files fr].data, 0) := by
    unfold readR
    rw [if_neg (by simp [h1]), if_neg (by simp [h2]), if_pos h3, getElem!_pos d.files _ hi]
  have hok : ∀ f ∈ m, fileOk f = true := fun f hf => by
    rcases hren.sub f hf with e | e
    · have := p3 _ (List.getElem_mem hi)
      rw [e]
      simp only [fileOk, Bool.and_eq_true, decide_eq_true_eq] at this ⊢
      exact ⟨⟨h4, this.1.2⟩, this.2⟩
    · exact p3 f e.1
  have hle : m.length ≤ 1024 := Nat.le_trans hren.le p1.2.2.1
  have hr : right (withF (spent d) m) = true := spent_right h1 hle hren.fit hok hren.rise
  have hdn : (withF (spent d) m).down = false := h2
  have hhas : has m to = true := has_iff.2 ⟨_, hren.mem, rfl⟩
  obtain ⟨j, hj, hje⟩ := List.getElem_of_mem hren.mem
  have hlb : lb m to = j := at_lb hren.rise hj (by rw [hje])
  refine ⟨by rw [hrd], ?_, ?_, hr, hren.ge, hle⟩
  · rw [hrd]
    unfold readR
    rw [if_neg (by rw [hr]; simp), if_neg (by rw [hdn]; simp), if_pos (show has (withF (spent d) m).files to = true from hhas)]
    show ((m[lb m to]!).data, 0) = _
    rw [hlb, getElem!_pos m j hj, hje]
  · by_cases he : fr = to
    · exact Or.inl he
    · right
      have hno : has m fr = false := by
        rw [← Bool.not_eq_true]
        intro hc
        obtain ⟨f, hf, hfn⟩ := has_iff.1 hc
        rcases hren.sub f hf with e | e
        · rw [e] at hfn; exact he hfn.symm
        · exact e.2 (by rw [hfn, hn])
      unfold readR
      rw [if_neg (by rw [hr]; simp), if_neg (by rw [hdn]; simp), if_neg (show ¬ has (withF (spent d) m).files fr = true by rw [show (withF (spent d) m).files = m from rfl, hno]; simp)]
end Go.Proofs.YtpfmhlldkikbjaaDoor

/-
  Plain mathematics of what is synced, put behind, and kept behind a crash.
-/
set_option linter.unusedVariables false
namespace Go.Proofs.YtpfmhlldkikbjaaDoor
open Go.Proofs.Dsk

/-- A text is the beginning of another one. -/
def Pre (a b : ByteArray) : Prop := a.data.toList <+: b.data.toList
theorem Pre.refl (a : ByteArray) : Pre a a := List.prefix_rfl
theorem Pre.trans {a b c : ByteArray} (h : Pre a b) (k : Pre b c) : Pre a c := List.IsPrefix.trans h k
theorem Pre.le {a b : ByteArray} (h : Pre a b) : a.size ≤ b.size := by rw [← sizeL, ← sizeL]; exact h.length_le
theorem Pre.cut {a b : ByteArray} (h : Pre a b) : b.extract 0 a.size = a := by
  apply ext_list
  rw [toList_upto, ← sizeL]
  exact (List.prefix_iff_eq_take.1 h).symm
theorem pre_join (s : ByteArray) (l : List ByteArray) : Pre s (joinB s l) := by
  show s.data.toList <+: (s.data.toList ++ l.flatMap fun t => t.data.toList).toArray.toList
  rw [List.toList_toArray]
  exact List.prefix_append _ _
theorem pre_extract {a b : ByteArray} {n : Nat} (h : Pre a b) (hn : a.size ≤ n) : Pre a (b.extract 0 n) := by
  unfold Pre at *
  rw [toList_upto]
  rw [← sizeL] at hn
  exact List.prefix_take_iff.2 ⟨h, hn⟩

/-- All files are as they were, but that bytes may stand behind. -/
def More (l m : List File) : Prop := m.length = l.length ∧ ∀ i (h : i < l.length) (h' : i < m.length), m[i].name = l[i].name ∧ Pre l[i].data m[i].data ∧ m[i].synced = l[i].synced
theorem More.refl (l : List File) : More l l := ⟨rfl, fun i h h' => ⟨rfl, Pre.refl _, rfl⟩⟩
theorem More.trans {a b c : List File} (h : More a b) (k : More b c) : More a c :=
  ⟨k.1.trans h.1, fun i hi hi' => by
    have hb : i < b.length := by rw [h.1]; exact hi
    obtain ⟨x1, x2, x3⟩ := h.2 i hi hb
    obtain ⟨y1, y2, y3⟩ := k.2 i hb hi'
    exact ⟨y1.trans x1, x2.trans y2, y3.trans x3⟩⟩
theorem rise_names {l m : List File} (hl : m.length = l.length) (hn : ∀ i (h : i < l.length) (h' : i < m.length), m[i].name = l[i].name) (h : Rise l) : Rise m := by
  rw [Rise, List.pairwise_iff_getElem] at h ⊢
  intro a b ha hb hab
  rw [hn a (by omega) ha, hn b (by omega) hb]
  exact h a b (by omega) (by omega) hab

theorem used_set_eq : ∀ {l : List File} {i : Nat} (h : i < l.length) (f : File), used (l.set i f) + l[i].data.size = used l + f.data.size
  | [], i, h, f => by simp at h
  | g :: l, 0, h, f => by simp only [List.set_cons_zero, used_cons, List.getElem_cons_zero]; omega
  | g :: l, i + 1, h, f => by
    have := used_set_eq (l := l) (i := i) (by simpa using h) f
    simp only [List.set_cons_succ, used_cons, List.getElem_cons_succ]
    omega

theorem putAt_more {d : Fs} {i : Nat} (hi : i < d.files.length) (data : List ByteArray) : More d.files (putAt i data d).files := by
  rw [putAt_set hi]
  refine ⟨by simp, fun j h h' => ?_⟩
  by_cases hj : i = j
  · subst hj
    have e : (d.files.set i (putF data d.files[i]))[i]'(by simpa using h) = putF data d.files[i] := List.getElem_set_self ..
    rw [show (({ d with files := d.files.set i (putF data d.files[i]) } : Fs).files)[i]'h' = putF data d.files[i] from e]
    exact ⟨rfl, pre_join _ _, rfl⟩
  · have e : (d.files.set i (putF data d.files[i]))[j]'(by simpa using h) = d.files[j] := List.getElem_set_ne hj _
    rw [show (({ d with files := d.files.set i (putF data d.files[i]) } : Fs).files)[j]'h' = d.files[j] from e]
    exact ⟨rfl, Pre.refl _, rfl⟩
theorem putAt_ok {d : Fs} {i : Nat} (hi : i < d.files.length) (data : List ByteArray) (hr : right d = true) (hf : (used d.files + total data : Int) ≤ d.room) : right (putAt i data d) = true := by
  obtain ⟨h1, h2, h3, h4⟩ := right_parts hr
  have hm := putAt_more hi data
  rw [putAt_set hi] at hm ⊢
  have hu := used_set_eq hi (putF data d.files[i])
  have hs : (putF data d.files[i]).data.size = d.files[i].data.size + total data := joinB_size _ _
  refine right_yes (headOk_yes.2 ⟨h1.1, h1.2.1, by show (d.files.set i _).length ≤ 1024; rw [List.length_set]; exact h1.2.2.1, h1.2.2.2.1, h1.2.2.2.2⟩) ?_ (List.all_eq_true.2 fun f hf => ?_) (rise_names hm.1 (fun j h h' => (hm.2 j h h').1) h4)
  · show (used (d.files.set i (putF data d.files[i])) : Int) ≤ d.room
    omega
  · rcases List.mem_or_eq_of_mem_set hf with h5 | h5
    · exact h3 f h5
    · have h6 := h3 _ (List.getElem_mem hi)
      rw [h5]
      simp only [fileOk, Bool.and_eq_true, decide_eq_true_eq] at h6 ⊢
      refine ⟨⟨h6.1.1, h6.1.2⟩, ?_⟩
      show d.files[i].synced ≤ ((putF data d.files[i]).data.size : Int)
      omega
theorem right_num {d : Fs} {fuse fault : Int} {down : Bool} (h : right d = true) (h1 : -1 ≤ fuse) (h2 : -1 ≤ fault) : right ⟨d.room, d.files, fuse, fault, down⟩ = true := by
  obtain ⟨p1, p2, p3, p4⟩ := right_parts h
  exact right_yes (headOk_yes.2 ⟨p1.1, p1.2.1, p1.2.2.1, h1, h2⟩) p2 (List.all_eq_true.2 p3) p4
theorem spent_ok {d : Fs} (h : right d = true) : right (spent d) = true := by
  obtain ⟨p1, _⟩ := right_parts h
  refine right_num h ?_ ?_
  · split <;> omega
  · split <;> omega

/-- Bytes that are put behind a file, or are not. -/
theorem append_more {d : Fs} (n : ByteArray) (data : List ByteArray) (h : right d = true) : right (appendR d n data).1 = true ∧ More d.files (appendR d n data).1.files := by
  have e : appendR d n data = workR d (onR n (appendC data)) := rfl
  rw [e]
  unfold workR
  rw [if_neg (by simp [h])]
  by_cases hd : d.down = true
  · rw [if_pos hd]; exact ⟨h, More.refl _⟩
  · rw [if_neg hd]
    unfold onR
    by_cases hh : has d.files n = true
    · rw [if_pos hh]
      obtain ⟨hi, _⟩ := has_lb (right_parts h).2.2.2 hh
      unfold appendC
      by_cases hf : (used d.files + total data : Int) ≤ d.room
      · rw [if_pos hf]
        by_cases h0 : d.fuse = 0
        · rw [if_pos h0]
          have : changeR (putAt (lb d.files n) data d) (putAt (lb d.files n) data) = ({ putAt (lb d.files n) data d with down := true }, 9) := by unfold changeR; rw [if_pos (show (putAt (lb d.files n) data d).fuse = 0 from h0)]
          rw [this]
          have hr := putAt_ok hi data h hf
          obtain ⟨p1, _⟩ := right_parts hr
          exact ⟨right_num hr p1.2.2.2.1 p1.2.2.2.2, putAt_more hi data⟩
        · rw [if_neg h0]
          unfold changeR
          rw [if_neg h0]
          obtain ⟨p1, _⟩ := right_parts h
          by_cases h1 : d.fault = 0
          · rw [if_pos h1]
            refine ⟨right_num h ?_ (by omega), More.refl _⟩
            split <;> omega
          · rw [if_neg h1]
            exact ⟨putAt_ok (d := spent d) hi data (spent_ok h) hf, putAt_more (d := spent d) hi data⟩
      · rw [if_neg hf]; exact ⟨h, More.refl _⟩
    · rw [if_neg hh]; exact ⟨h, More.refl _⟩

/-- What is synced is whole. -/
theorem sync_ok {d : Fs} {n : ByteArray} (h : (syncR d n).2 = 0) (hr : (readR (syncR d n).1 n).2 = 0) :
    right (syncR d n).1 = true ∧ ∃ i, ∃ hi : i < (syncR d n).1.files.length, (syncR d n).1.files[i].name = n ∧ (syncR d n).1.files[i].data = (readR (syncR d n).1 n).1 ∧ (syncR d n).1.files[i].synced = ((readR (syncR d n).1 n).1.size : Int) := by
  have e : syncR d n = workR d (onR n (fun i d => changeR d fun d => { d with files := d.files.modify i syncF })) := rfl
  have hfiles : has d.files n = true ∧ right d = true ∧ (syncR d n).1.files = d.files.modify (lb d.files n) syncF := by
    rw [e] at h ⊢
    obtain ⟨h1, h2, h3⟩ := workR_ok h
    rw [h3] at h ⊢
    obtain ⟨h4, h5⟩ := onR_ok h
    rw [h5] at h ⊢
    refine ⟨h4, h1, ?_⟩
    rw [changeR_ok h]
    rfl
  obtain ⟨hh, hrt, hfl⟩ := hfiles
  obtain ⟨x, hx⟩ : ∃ x, (syncR d n).1 = x := ⟨_, rfl⟩
  rw [hx] at hr hfl ⊢
  have hrd : right x = true ∧ has x.files n = true ∧ readR x n = ((x.files[lb x.files n]!).data, 0) := by
    unfold readR at hr ⊢
    by_cases h0 : right x = false
    · rw [if_pos h0] at hr; simp at hr
    · rw [if_neg h0] at hr ⊢
      by_cases h1 : x.down = true
      · rw [if_pos h1] at hr; simp at hr
      · rw [if_neg h1] at hr ⊢
        by_cases h2 : has x.files n = true
        · rw [if_pos h2]; exact ⟨by simpa using h0, h2, rfl⟩
        · rw [if_neg h2] at hr; simp at hr
  obtain ⟨q1, q2, q3⟩ := hrd
  obtain ⟨hi, hn⟩ := has_lb (right_parts hrt).2.2.2 hh
  have hlen : x.files.length = d.files.length := by rw [hfl]; simp
  have hat : x.files[lb d.files n]'(by omega) = syncF d.files[lb d.files n] := by
    simp only [hfl]
    simp
  have hlb : lb x.files n = lb d.files n := at_lb (right_parts q1).2.2.2 (i := lb d.files n) (by omega) (by rw [hat]; exact hn)
  refine ⟨q1, lb d.files n, by omega, by rw [hat]; exact hn, ?_, ?_⟩
  · rw [q3, hlb, getElem!_pos x.files _ (by omega)]
  · rw [q3, hlb, getElem!_pos x.files _ (by omega), hat]
    rfl

/-- What a crash keeps. -/
theorem keepAt_facts (keep : List Int) (i : Nat) {f : File} (h : fileOk f = true) : (keepAt keep i f).name = f.name ∧ Pre (keepAt keep i f).data f.data ∧ (keepAt keep i f).synced = ((keepAt keep i f).data.size : Int) ∧ f.synced ≤ (keepAt keep i f).synced ∧ (∀ a, Pre a f.data → (a.size : Int) ≤ f.synced → Pre a (keepAt keep i f).data) := by
  simp only [fileOk, Bool.and_eq_true, decide_eq_true_eq] at h
  obtain ⟨⟨h0, h1⟩, h2⟩ := h
  obtain ⟨m1, m2⟩ := moreK_le keep i h2
  rw [keepAt_eq]
  have hz : (f.data.extract 0 (f.synced + moreK keep i f).toNat).size = (f.synced + moreK keep i f).toNat := by rw [size_part _ _ _ (by omega)]; omega
  refine ⟨rfl, ?_, ?_, ?_, ?_⟩
  · show (f.data.extract 0 (f.synced + moreK keep i f).toNat).data.toList <+: f.data.data.toList
    rw [toList_upto]
    exact List.take_prefix _ _
  · show f.synced + moreK keep i f = ((f.data.extract 0 (f.synced + moreK keep i f).toNat).size : Int)
    rw [hz]
    omega
  · show f.synced ≤ f.synced + moreK keep i f
    omega
  · intro a ha hs
    exact pre_extract ha (by omega)

theorem used_le_of {l m : List File} (hl : m.length = l.length) (h : ∀ i (h : i < l.length) (h' : i < m.length), m[i].data.size ≤ l[i].data.size) : used m ≤ used l := by
  induction l generalizing m with
  | nil => cases m with
    | nil => simp
    | cons => simp at hl
  | cons f l ih => cases m with
    | nil => simp at hl
    | cons g m =>
      rw [used_cons, used_cons]
      have h0 := h 0 (by simp) (by simp)
      have h1 := ih (m := m) (by simpa using hl) (fun i h2 h3 => by have h4 := h (i + 1) (by simp; omega) (by simp; omega); simpa only [List.getElem_cons_succ] using h4)
      simp only [List.getElem_cons_zero] at h0
      omega
theorem crash_ok {d : Fs} (keep : List Int) (h : right d = true) : right ⟨d.room, d.files.mapIdx (keepAt keep), -1, -1, false⟩ = true := by
  obtain ⟨p1, p2, p3, p4⟩ := right_parts h
  have hl : (d.files.mapIdx (keepAt keep)).length = d.files.length := by simp
  have hg : ∀ i (h : i < d.files.length) (h' : i < (d.files.mapIdx (keepAt keep)).length), (d.files.mapIdx (keepAt keep))[i] = keepAt keep i d.files[i] := fun i h h' => by simp
  refine right_yes (headOk_yes.2 ⟨p1.1, p1.2.1, by show (d.files.mapIdx (keepAt keep)).length ≤ 1024; rw [hl]; exact p1.2.2.1, by show (-1 : Int) ≤ -1; omega, by show (-1 : Int) ≤ -1; omega⟩) ?_ (List.all_eq_true.2 fun f hf => ?_) (rise_names hl (fun i h h' => by rw [hg i h h']; exact (keepAt_facts keep i (p3 _ (List.getElem_mem h))).1) p4)
  · show (used (d.files.mapIdx (keepAt keep)) : Int) ≤ d.room
    have := used_le_of hl (fun i h h' => by rw [hg i h h']; exact (keepAt_facts keep i (p3 _ (List.getElem_mem h))).2.1.le)
    omega
  · obtain ⟨i, hi, rfl⟩ := List.getElem_of_mem hf
    have hi2 : i < (d.files.mapIdx (keepAt keep)).length := hi
    have hi' : i < d.files.length := by omega
    rw [show (({ room := d.room, files := d.files.mapIdx (keepAt keep), fuse := -1, fault := -1, down := false } : Fs).files)[i]'hi = keepAt keep i d.files[i] from hg i hi' hi2]
    have hk := keepAt_facts keep i (p3 _ (List.getElem_mem hi'))
    have ho := p3 _ (List.getElem_mem hi')
    simp only [fileOk, Bool.and_eq_true, decide_eq_true_eq] at ho ⊢
    obtain ⟨k1, k2, k3, k4, _⟩ := hk
    refine ⟨⟨by rw [k1]; exact ho.1.1, by omega⟩, by omega⟩
theorem read_at {d : Fs} {n : ByteArray} {i : Nat} (h : right d = true) (hd : d.down = false) (hi : i < d.files.length) (hn : d.files[i].name = n) : readR d n = (d.files[i].data, 0) := by
  have hp := (right_parts h).2.2.2
  have hh : has d.files n = true := has_iff.2 ⟨_, List.getElem_mem hi, hn⟩
  have hl := at_lb hp hi hn
  unfold readR
  rw [if_neg (by simp [h]), if_neg (by simp [hd]), if_pos hh, hl, getElem!_pos d.files i hi]
/-- What was synced is there behind a crash. -/
theorem safe {d : Fs} {n was : ByteArray} (keep : List Int) {i : Nat} (h : right d = true) (hi : i < d.files.length) (hn : d.files[i].name = n) (hw : Pre was d.files[i].data) (hs : (was.size : Int) ≤ d.files[i].synced) :
    ∃ is, readR ⟨d.room, d.files.mapIdx (keepAt keep), -1, -1, false⟩ n = (is, 0) ∧ Pre was is := by
  have hk := keepAt_facts keep i ((right_parts h).2.2.1 _ (List.getElem_mem hi))
  refine ⟨(keepAt keep i d.files[i]).data, ?_, hk.2.2.2.2 was hw hs⟩
  have := read_at (d := ⟨d.room, d.files.mapIdx (keepAt keep), -1, -1, false⟩) (n := n) (i := i) (crash_ok keep h) rfl (by simpa using hi) (by simp [hk.1, hn])
  rw [this]
  simp
end Go.Proofs.YtpfmhlldkikbjaaDoor
