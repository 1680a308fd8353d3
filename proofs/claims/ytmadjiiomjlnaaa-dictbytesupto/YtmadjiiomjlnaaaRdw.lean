/-
  What the document's Write of layer 14 does, over this seat's program.
-/
import Derived.Test.YtmadjiiomjlnaaaRdb
import Derived.Deep.RegionHeld3
set_option linter.unusedVariables false
namespace Go.Proofs.Ytmadjiiomjlnaaa
open Go.RowKit Go.Proofs.Num Go.Proofs.Dct

theorem cat_bts (t : List UInt8) (s : ByteArray) : bts t ++ s = bts (t ++ s.data.toList) := by
  apply ext_list
  rw [toList_bts, ByteArray.data_append, Array.toList_append, toList_bts]
/-- A box with an entry's data. -/
structure Bx (W : World) (b ky : Nat) (D : ByteArray) : Prop where
  c0 : W.cell? ⟨b, 0, none⟩ = some (.int .u64 (ky : Int))
  c1 : W.cell? ⟨b, 1, none⟩ = some (.string D)
  lt : b < W.heap.size
theorem Bx.below {W W' : World} {b ky : Nat} {D : ByteArray} (h : Bx W b ky D) (hb : Below W.heap.size W W') : Bx W' b ky D := by
  have := hb.size
  have := h.lt
  exact ⟨(hb.cell (p := ⟨b, 0, none⟩) h.lt).trans h.c0, (hb.cell (p := ⟨b, 1, none⟩) h.lt).trans h.c1, by omega⟩

set_option maxHeartbeats 4000000 in
set_option maxRecDepth 100000 in
theorem refWrite_any (v : Value) (l : List Ent) (w : World) (h : RowE w v l) (htot : (datas (l.map lstE)).length ≤ 1099511627776) :
    Calls Try.prog 8 #[v] w fun e w' => e = .returned (.tuple #[.string (bts (writeD (l.map lstE)).1), .int .i64 ((writeD (l.map lstE)).2 : Int)]) ∧ Below w.heap.size w w' := by
  have HR := hide h
  have HTOT := hide htot
  clear htot
  obtain ⟨a, cap, hv, hl4, hfit, hrest⟩ := h
  subst hv
  have HFT := hide hfit
  obtain ⟨T, hT⟩ : ∃ T, T = l.length := ⟨_, rfl⟩
  rw [← hT] at HR hl4 ⊢
  have HTL := hide hT
  clear hrest hT hfit
  go_enter Try.func8, Try.ntmps8
  go_wp2
  go_loopw [4, 12] (fun xi z wr => ∃ k q : Nat, z = .int .i64 (k : Int) ∧ k ≤ T ∧ Hid (∀ (j : Nat) (h : j + 1 < l.length), j + 1 < k → (l[j]).1 < (l[j + 1]).1) ∧ Hid (wr = w.drewN q)) (fun _ z _ => T - (intOf z).toNat)
  case atStart => exact ⟨0, 0, rfl, Nat.zero_le _, hide (fun j h hj => by omega), hide rfl⟩
  case round =>
    obtain ⟨k, q, rfl, hk, HA, HQ⟩ := hrel
    have hQ := unhide HQ
    subst hQ
    by_cases hlt : k < T
    · have hlt1 : (k : Int) < (T : Int) := by omega
      have hbw : Below w.heap.size w (w.drewN q) := below_drewN (Below.refl _ _) q
      have hkl : k < l.length := by have := unhide HTL; omega
      by_cases h0 : k = 0
      · subst h0
        have HA9 : Hid (∀ (j : Nat) (h : j + 1 < l.length), j + 1 < 0 + 1 → (l[j]).1 < (l[j + 1]).1) := hide (fun j h hj => by omega)
        clear HA hbw HQ
        obtain ⟨W, hW⟩ : ∃ W, W = w.drewN q := ⟨_, rfl⟩
        rw [← hW]
        have HW := hide hW
        clear hW
        go_wp2
        go_quiet (fail)
        go_wp2
        exact ⟨⟨0 + 1, q + nq, by go_num, by omega, HA9, hide (by rw [unhide HW]; simp)⟩, by simp [intOf]; omega⟩
      · have h0i : (0 : Int) < (k : Int) := by omega
        obtain ⟨j, rfl⟩ : ∃ j, k = j + 1 := ⟨k - 1, by omega⟩
        have hjl : j < l.length := by omega
        obtain ⟨b, off, cap', hv', hblt, hcell⟩ := RowG.at cellsE_len ((unhide HR).below hbw) (j := j + 1) hkl
        obtain ⟨b2, off2, cap2, hv2, hblt2, hcell2⟩ := RowG.at cellsE_len ((unhide HR).below hbw) (j := j) hjl
        injection hv' with e1 e2 e3
        subst e1
        injection hv2 with e4 e5 e6
        injection e4 with e7
        injection e7 with e8 e9
        subst e8 e9
        have c0 := hcell 0 (by omega)
        have d0 := hcell2 0 (by omega)
        simp only [cellsE, List.getElem?_cons_zero, Nat.add_zero] at c0 d0
        clear e2 e3 e5 e6 hcell hcell2 hblt2 h0
        have hx := (unhide HFT l[j + 1] (List.getElem_mem hkl)).1
        have hy := (unhide HFT l[j] (List.getElem_mem hjl)).1
        have HBW := hide hbw
        clear hbw
        by_cases hle : (l[j + 1]).1 ≤ (l[j]).1
        · have hfin : writeD (l.map lstE) = ([], 12) := by
            apply writeD_order
            rw [rises_iff]
            rintro ⟨_, h2⟩
            have := h2 j (by rw [keys_len]; exact hkl)
            rw [keys_at l j hjl, keys_at l (j + 1) hkl] at this
            omega
          have HF := hide hfin
          generalize (l[j + 1]).1 = x at c0 hx hle
          generalize (l[j]).1 = y at d0 hy hle
          have hlei : (x : Int) ≤ (y : Int) := by omega
          clear hfin HA hk hle HQ
          generalize w.drewN q = W at *
          go_wp2
          go_quiet (fail)
          go_wp2
          go_ret2
          exact ⟨by rw [unhide HF]; rfl, below_drewN (unhide HBW) _⟩
        · have hA9 : ∀ (i : Nat) (h : i + 1 < l.length), i + 1 < j + 1 + 1 → (l[i]).1 < (l[i + 1]).1 := by
            intro i h hi
            by_cases hij : i = j
            · subst hij; omega
            · exact unhide HA i h (by omega)
          have HA9 := hide hA9
          generalize (l[j + 1]).1 = x at c0 hx hle
          generalize (l[j]).1 = y at d0 hy hle
          have hlei : ¬ (x : Int) ≤ (y : Int) := by omega
          clear hA9 HA hle HQ HBW
          obtain ⟨W, hW⟩ : ∃ W, W = w.drewN q := ⟨_, rfl⟩
          rw [← hW] at c0 d0 hblt ⊢
          have HW := hide hW
          clear hW
          go_wp2
          go_quiet (fail)
          go_wp2
          exact ⟨⟨j + 1 + 1, q + nq, by go_num, by omega, HA9, hide (by rw [unhide HW]; simp)⟩, by simp [intOf]; omega⟩
    · have hlt1 : ¬ (k : Int) < (T : Int) := by omega
      have hris : rises 0 (keysE (l.map lstE)) = true := by
        rw [rises_iff]
        refine ⟨fun _ => Nat.zero_le _, fun j hj => ?_⟩
        rw [keys_len] at hj
        rw [keys_at l j (by omega), keys_at l (j + 1) hj]
        exact unhide HA j hj (by have := unhide HTL; omega)
      have HRS := hide hris
      by_cases h6 : 65536 < T
      · have hfin : writeD (l.map lstE) = ([], 15) := writeD_long hris (by have := unhide HTL; rw [List.length_map]; omega)
        have HF := hide hfin
        have h6i : (65536 : Int) < (T : Int) := by omega
        clear hris hfin HA hk HQ
        go_wp2
        go_ret2
        exact ⟨by rw [unhide HF]; rfl, below_drewN (Below.refl _ _) q⟩
      · have h6i : ¬ (65536 : Int) < (T : Int) := by omega
        have hfin : writeD (l.map lstE) = (putL T ++ (heads 0 ((l.map lstE).map szE) ++ datas (l.map lstE)), 0) := by
          have h1 := writeD_done hris (by have := unhide HTL; rw [List.length_map]; omega)
          rw [List.length_map, ← unhide HTL] at h1
          exact h1
        have HF := hide hfin
        have hT10 := putL_len10 (n := T) (by omega)
        have HPT := hide (fun W => refPut_any T W (by omega))
        have HRW : Hid (RowE (w.drewN q) (.slice a T cap) l) := hide ((unhide HR).below (below_drewN (Below.refl _ _) q))
        have HBW : Hid (Below w.heap.size w (w.drewN q)) := hide (below_drewN (Below.refl _ _) q)
        have HT10 := hide hT10
        clear hris hfin HA hk HQ hT10 HR
        generalize w.drewN q = u at HRW HBW ⊢
        go_wp2_with fail
        refine (unhide HPT _).mono ?_
        rintro e W1 ⟨rfl, hb⟩
        have HB1 := hide hb
        clear hb HPT
        go_wp2
        go_loopw [5, 6, 7, 8, 9, 41] (fun xs xd xi xe xg z wr => ∃ (k : Nat) (acc dat : List UInt8), z = .int .i64 k ∧ xs = .string (bts acc) ∧ xd = .string (bts dat) ∧ k ≤ T ∧ Hid (acc = putL T ++ heads 0 (((l.map lstE).map szE).take k)) ∧ acc.length ≤ 10 + 20 * k ∧ Hid (dat = datas ((l.map lstE).take k)) ∧ Hid (Below u.heap.size u wr)) (fun _ _ _ _ _ z _ => T - (intOf z).toNat)
        case atStart => exact ⟨0, putL T, [], rfl, rfl, rfl, Nat.zero_le _, hide (by simp [heads]), by have := unhide HT10; omega, hide (by simp [datas]), HB1⟩
        case round =>
          obtain ⟨k, acc, dat, rfl, rfl, rfl, hk, HA, hal, HDT, HB⟩ := hrel
          by_cases hlt : k < T
          · have hlt1 : (k : Int) < (T : Int) := by omega
            have hkl : k < l.length := by have := unhide HTL; omega
            obtain ⟨b, off, cap', hv', hblt, hcell⟩ := RowG.at cellsE_len ((unhide HRW).below (unhide HB)) (j := k) hkl
            injection hv' with e1 e2 e3
            subst e1
            have c0 := hcell 0 (by omega)
            have c1 := hcell 1 (by omega)
            simp only [cellsE, List.getElem?_cons_zero, List.getElem?_cons_succ, Nat.add_zero] at c0 c1
            clear e2 e3 hcell
            have hx := (unhide HFT l[k] (List.getElem_mem hkl)).1
            have hy := (unhide HFT l[k] (List.getElem_mem hkl)).2
            have hnx := sz_next l k hkl
            have hlast : lastL 0 (((l.map lstE).map szE).take k) ≤ (l[k]).1 := by
              have h1 := rises_take (unhide HRS) (k + 1)
              have h2 : (keysE (l.map lstE)).take (k + 1) = (((l.map lstE).map szE).take k ++ [((l[k]).1, (l[k]).2.size)]).map (·.1) := by
                rw [← hnx, List.map_take, keys_sz]
              rw [h2] at h1
              exact rises_last h1
            have hA9 : acc ++ (putL ((l[k]).1 - lastL 0 (((l.map lstE).map szE).take k)) ++ putL (l[k]).2.size) = putL T ++ heads 0 (((l.map lstE).map szE).take (k + 1)) := by
              rw [hnx, heads_snoc, unhide HA]
              simp
            have hD9 : dat ++ (l[k]).2.data.toList = datas ((l.map lstE).take (k + 1)) := by rw [dat_next l k hkl, unhide HDT]
            have hdl : dat.length + (l[k]).2.size ≤ 1099511627776 := by
              have h1 := congrArg List.length hD9
              have h2 := datas_take (l.map lstE) (k + 1)
              have h3 := unhide HTOT
              rw [List.length_append, sizeL] at h1
              omega
            have HA9 := hide hA9
            have HD9 := hide hD9
            have hbv : (bts acc).size = acc.length := size_bts acc
            have hbd : (bts dat).size = dat.length := size_bts dat
            have hzr := (unhide HB).size
            have HBV : Hid (Below u.heap.size u (wr.alloc (.cells #[.int .u64 ((l[k]).1 : Int), .string (l[k]).2] 41))) := hide ((unhide HB).alloc hzr _)
            have HTV : Hid (Bx (wr.alloc (.cells #[.int .u64 ((l[k]).1 : Int), .string (l[k]).2] 41)) wr.heap.size (l[k]).1 (l[k]).2) := hide ⟨(Blk.cell (Blk.new wr _ _) 0).trans rfl, (Blk.cell (Blk.new wr _ _) 1).trans rfl, by simp⟩
            have HRV : Hid (RowE (wr.alloc (.cells #[.int .u64 ((l[k]).1 : Int), .string (l[k]).2] 41)) (.slice (some ⟨b, off, none⟩) T cap) l) := hide ((unhide HRW).below (unhide HBV))
            clear hA9 hD9 hnx HA HDT
            by_cases h0 : k = 0
            · have hl0 : lastL 0 (((l.map lstE).map szE).take k) = 0 := by rw [h0, List.take_zero, lastL_nil]
              rw [hl0, Nat.sub_zero] at HA9
              have h0i : ¬ (0 : Int) < (k : Int) := by omega
              clear hlast HRV HB hl0 h0
              generalize (l[k]).1 = ky at c0 hx HA9 HBV HTV
              generalize (l[k]).2 = D at c1 hy HA9 HD9 HBV HTV hdl
              have p1 := putL_len10 (n := ky) (by omega)
              have p2 := putL_len10 (n := D.size) (by omega)
              have hs1 : (bts (putL ky)).size ≤ 10 := by rw [size_bts]; exact p1
              have hs2 : (bts (putL D.size)).size ≤ 10 := by rw [size_bts]; exact p2
              have hal9 : (acc ++ (putL ky ++ putL D.size)).length ≤ 10 + 20 * (k + 1) := by rw [List.length_append, List.length_append]; omega
              have HAL9 := hide hal9
              have HP1 := hide (fun W => refPut_any ky W (by omega))
              have HP2 := hide (fun W => refPut_any D.size W (by omega))
              have hkyi : (ky : Int) ≤ 18446744073709551615 := by omega
              have hwz : IntKind.u64.wrap (D.size : Int) = (D.size : Int) := wrap_u64 _ (by omega)
              obtain ⟨V, hV⟩ : ∃ V, V = wr.alloc (.cells #[.int .u64 (ky : Int), .string D] 41) := ⟨_, rfl⟩
              clear p1 p2 hal9
              go_wp2
              rw [← hV] at HBV HTV ⊢
              clear hV c0 c1
              obtain ⟨y0, y1, ylt⟩ := unhide HTV
              go_wp2
              go_region_with (first
                | (go_at_call_of 23 (Value.int .u64 (ky : Int)); refine (unhide HP1 _).mono ?_; rintro e wA ⟨rfl, sA⟩; have TA : Bx wA wr.heap.size ky D := (by first | exact Bx.below TB sA | exact Bx.below (W := V.drew) ⟨y0, y1, ylt⟩ sA); have ⟨yA0, yA1, _⟩ := TA)
                | (go_at_call_of 23 (Value.int .u64 (D.size : Int)); refine (unhide HP2 _).mono ?_; rintro e wB ⟨rfl, sB⟩; have TB : Bx wB wr.heap.size ky D := (by first | exact Bx.below TA sB | exact Bx.below (W := V.drew) ⟨y0, y1, ylt⟩ sB); have ⟨yB0, yB1, _⟩ := TB))
              all_goals
                have HBF := hide (belows' (unhide HBV) (belows' (show Below V.heap.size V wA from ⟨sA.os, sA.tape, sA.output, sA.size, sA.block⟩) sB))
                have z1 : wB.cell? ⟨wr.heap.size, 1, none⟩ = some (.string D) := TB.c1
                clear sA sB TA TB HTV HBV HP1 HP2 y0 y1 ylt yA0 yA1 yB0 yB1
                go_wp2
                exact ⟨⟨k + 1, acc ++ (putL ky ++ putL D.size), dat ++ D.data.toList, by go_num, by rw [bts_append, bts_append], by rw [cat_bts], by omega, HA9, unhide HAL9, HD9, HBF⟩, by simp [intOf]; omega⟩
            · obtain ⟨j, rfl⟩ : ∃ j, k = j + 1 := ⟨k - 1, by omega⟩
              have hjl : j < l.length := by omega
              have hlj : lastL 0 (((l.map lstE).map szE).take (j + 1)) = (l[j]).1 + 1 := by rw [sz_next l j hjl, lastL_snoc]
              rw [hlj] at HA9 hlast
              obtain ⟨b2, off2, cap2, hv2, hblt2, hcell2⟩ := RowG.at cellsE_len (unhide HRV) (j := j) hjl
              injection hv2 with e4 e5 e6
              injection e4 with e7
              injection e7 with e8 e9
              subst e8 e9
              have d0 := hcell2 0 (by omega)
              simp only [cellsE, List.getElem?_cons_zero, Nat.add_zero] at d0
              have h0i : (0 : Int) < ((j + 1 : Nat) : Int) := by omega
              clear HRV HB h0 hlj e5 e6 hcell2
              generalize (l[j]).1 = pv at d0 HA9 hlast
              generalize (l[j + 1]).1 = ky at c0 hx HA9 HBV HTV d0 hlast
              generalize (l[j + 1]).2 = D at c1 hy HA9 HD9 HBV HTV hdl d0
              have p1 := putL_len10 (n := ky - (pv + 1)) (by omega)
              have p2 := putL_len10 (n := D.size) (by omega)
              have hs1 : (bts (putL (ky - (pv + 1)))).size ≤ 10 := by rw [size_bts]; exact p1
              have hs2 : (bts (putL D.size)).size ≤ 10 := by rw [size_bts]; exact p2
              have hal9 : (acc ++ (putL (ky - (pv + 1)) ++ putL D.size)).length ≤ 10 + 20 * (j + 1 + 1) := by rw [List.length_append, List.length_append]; omega
              have HAL9 := hide hal9
              obtain ⟨gp, hgp⟩ : ∃ gp, gp = ky - (pv + 1) := ⟨_, rfl⟩
              rw [← hgp] at HA9 hs1 HAL9
              have HP1 := hide (fun W => refPut_any gp W (by omega))
              have HP2 := hide (fun W => refPut_any D.size W (by omega))
              have hkyi : (ky : Int) ≤ 18446744073709551615 := by omega
              have hpvi : (pv : Int) + 1 ≤ (ky : Int) := by omega
              have hwz : IntKind.u64.wrap (D.size : Int) = (D.size : Int) := wrap_u64 _ (by omega)
              obtain ⟨V, hV⟩ : ∃ V, V = wr.alloc (.cells #[.int .u64 (ky : Int), .string D] 41) := ⟨_, rfl⟩
              have hge : (ky : Int) - (pv : Int) - 1 = (gp : Int) := by omega
              have HGE := hide hge
              clear p1 p2 hal9 hgp hlast hge
              go_wp2
              rw [← hV] at HBV HTV d0 ⊢
              clear hV c0 c1
              obtain ⟨y0, y1, ylt⟩ := unhide HTV
              go_wp2
              go_quiet (fail)
              rw [unhide HGE]
              clear HGE d0 hpvi
              have HBV2 : Hid (Below u.heap.size u (V.drewN nq)) := hide (below_drewN (unhide HBV) nq)
              have HTV2 : Hid (Bx (V.drewN nq) wr.heap.size ky D) := hide ⟨y0, y1, ylt⟩
              clear HBV HTV y0 y1 ylt
              generalize V.drewN nq = V2 at HBV2 HTV2 ⊢
              obtain ⟨y0, y1, ylt⟩ := unhide HTV2
              go_wp2
              go_region_with (first
                | (go_at_call_of 23 (Value.int .u64 (gp : Int)); refine (unhide HP1 _).mono ?_; rintro e wA ⟨rfl, sA⟩; have TA : Bx wA wr.heap.size ky D := (by first | exact Bx.below TB sA | exact Bx.below (W := V2.drew) ⟨y0, y1, ylt⟩ sA); have ⟨yA0, yA1, _⟩ := TA)
                | (go_at_call_of 23 (Value.int .u64 (D.size : Int)); refine (unhide HP2 _).mono ?_; rintro e wB ⟨rfl, sB⟩; have TB : Bx wB wr.heap.size ky D := (by first | exact Bx.below TA sB | exact Bx.below (W := V2.drew) ⟨y0, y1, ylt⟩ sB); have ⟨yB0, yB1, _⟩ := TB))
              all_goals
                have HBF := hide (belows' (unhide HBV2) (belows' (show Below V2.heap.size V2 wA from ⟨sA.os, sA.tape, sA.output, sA.size, sA.block⟩) sB))
                have z1 : wB.cell? ⟨wr.heap.size, 1, none⟩ = some (.string D) := TB.c1
                clear sA sB TA TB HTV2 HBV2 HP1 HP2 y0 y1 ylt yA0 yA1 yB0 yB1
                go_wp2
                exact ⟨⟨j + 1 + 1, acc ++ (putL gp ++ putL D.size), dat ++ D.data.toList, by go_num, by rw [bts_append, bts_append], by rw [cat_bts], by omega, HA9, unhide HAL9, HD9, HBF⟩, by simp [intOf]; omega⟩
          · have hlt1 : ¬ (k : Int) < (T : Int) := by omega
            have hac : acc ++ dat = putL T ++ (heads 0 ((l.map lstE).map szE) ++ datas (l.map lstE)) := by
              rw [unhide HA, unhide HDT, List.take_of_length_le (by have := unhide HTL; simp; omega), List.take_of_length_le (by have := unhide HTL; simp; omega), List.append_assoc]
            have HFF : Hid (writeD (l.map lstE) = (acc ++ dat, 0)) := hide (by rw [unhide HF, hac])
            have hdl : dat.length ≤ 1099511627776 := by
              rw [unhide HDT]
              have h2 := datas_take (l.map lstE) k
              have h3 := unhide HTOT
              omega
            have hbv : (bts acc).size = acc.length := size_bts acc
            have hbd : (bts dat).size = dat.length := size_bts dat
            have HBB := hide ((unhide HBW).trans ((unhide HB).mono (unhide HBW).size))
            clear hac HA HDT HF HB
            go_wp2
            go_ret2
            exact ⟨by rw [unhide HFF, bts_append]; rfl, unhide HBB⟩
end Go.Proofs.Ytmadjiiomjlnaaa
