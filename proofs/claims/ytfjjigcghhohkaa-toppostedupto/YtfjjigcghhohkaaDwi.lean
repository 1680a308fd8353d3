/-
  What dict.Write does, over this seat's program.
-/
import Derived.Test.YtfjjigcghhohkaaDic
import Derived.Test.YtfjjigcghhohkaaWso
import Derived.Test.YtfjjigcghhohkaaDcu
set_option linter.unusedVariables false
namespace Go.Proofs.Ytfjjigcghhohkaa
open Go.RowKit Go.Proofs.Num Go.Proofs.Dct

theorem keys_at (l : List Ent) (j : Nat) (h : j < l.length) : (keysE (l.map lstE))[j]'(by simpa [keysE] using h) = (l[j]).1 := by simp [keysE, lstE]
theorem keys_len (l : List Ent) : (keysE (l.map lstE)).length = l.length := by simp [keysE]
theorem datas_take (l : List EntL) (k : Nat) : (datas (l.take k)).length ≤ (datas l).length := by
  induction l generalizing k with
  | nil => simp
  | cons e r ih =>
    cases k with
    | zero => simp [datas]
    | succ k => rw [List.take_succ_cons, datas_cons, datas_cons, List.length_append, List.length_append]; have := ih k; omega
theorem sz_next (l : List Ent) (k : Nat) (h : k < l.length) : ((l.map lstE).map szE).take (k + 1) = ((l.map lstE).map szE).take k ++ [((l[k]).1, (l[k]).2.size)] := by
  rw [List.take_succ_eq_append_getElem (by simpa using h)]
  simp only [List.getElem_map, szE, lstE, sizeL]
theorem dat_next (l : List Ent) (k : Nat) (h : k < l.length) : datas ((l.map lstE).take (k + 1)) = datas ((l.map lstE).take k) ++ (l[k]).2.data.toList := by
  rw [List.take_succ_eq_append_getElem (by simpa using h), datas_snoc]
  simp [lstE]

set_option maxHeartbeats 4000000 in
set_option maxRecDepth 100000 in
theorem dwrite_any (v : Value) (l : List Ent) (w : World) (h : RowE w v l) (htot : (datas (l.map lstE)).length ≤ 1099511627776) :
    Calls Try.prog 14 #[v] w fun e w' => e = .returned (.tuple #[.string (bts (writeD (l.map lstE)).1), .int .i64 ((writeD (l.map lstE)).2 : Int)]) ∧ Below w.heap.size w w' := by
  have HR := hide h
  have HTOT := hide htot
  clear htot
  obtain ⟨a, cap, hv, hl4, hfit, hrest⟩ := h
  subst hv
  have HFT := hide hfit
  obtain ⟨T, hT⟩ : ∃ T, T = l.length := ⟨_, rfl⟩
  rw [← hT] at HR hl4 ⊢
  have HTL := hide hT
  clear hrest hT hfit
  go_enter Try.func14, Try.ntmps14
  go_wp2
  go_loopw [4] (fun z wr => ∃ k q : Nat, z = .int .i64 ((k + 1 : Nat) : Int) ∧ (k + 1 ≤ T ∨ k = 0) ∧ Hid (∀ (j : Nat) (h : j + 1 < l.length), j + 1 ≤ k → (l[j]).1 < (l[j + 1]).1) ∧ Hid (wr = w.drewN q)) (fun z _ => T + 1 - (intOf z).toNat)
  case atStart => exact ⟨0, 0, rfl, Or.inr rfl, hide (fun j h hj => by omega), hide rfl⟩
  case round =>
    obtain ⟨k, q, rfl, hk, HA, HQ⟩ := hrel
    have hQ := unhide HQ
    subst hQ
    by_cases hlt : k + 1 < T
    · have hlt1 : ((k + 1 : Nat) : Int) < (T : Int) := by omega
      have hbw : Below w.heap.size w (w.drewN q) := below_drewN (Below.refl _ _) q
      have hkl : k + 1 < l.length := by have := unhide HTL; omega
      obtain ⟨b, off, cap', hv', hblt, hcell⟩ := RowG.at cellsE_len ((unhide HR).below hbw) (j := k + 1) hkl
      obtain ⟨b2, off2, cap2, hv2, hblt2, hcell2⟩ := RowG.at cellsE_len ((unhide HR).below hbw) (j := k) (by omega)
      injection hv' with e1 e2 e3
      subst e1
      injection hv2 with e4 e5 e6
      injection e4 with e7
      injection e7 with e8 e9
      subst e8 e9
      have c0 := hcell 0 (by omega)
      have d0 := hcell2 0 (by omega)
      simp only [cellsE, List.getElem?_cons_zero, Nat.add_zero] at c0 d0
      clear e2 e3 e5 e6 hcell hcell2 hblt2
      have hx := (unhide HFT l[k + 1] (List.getElem_mem hkl)).1
      have hy := (unhide HFT l[k] (List.getElem_mem (by omega))).1
      have HBW := hide hbw
      clear hbw
      by_cases hle : (l[k + 1]).1 ≤ (l[k]).1
      · have hfin : writeD (l.map lstE) = ([], 12) := by
          apply writeD_order
          rw [rises_iff]
          rintro ⟨_, h2⟩
          have := h2 k (by rw [keys_len]; exact hkl)
          rw [keys_at l k (by omega), keys_at l (k + 1) hkl] at this
          omega
        have HF := hide hfin
        generalize (l[k + 1]).1 = x at c0 hx hle
        generalize (l[k]).1 = y at d0 hy hle
        have hlei : (x : Int) ≤ (y : Int) := by omega
        clear hfin HA hk hle HQ
        generalize w.drewN q = W at *
        go_wp2
        go_quiet (fail)
        go_wp2
        go_ret2
        exact ⟨by rw [unhide HF]; rfl, below_drewN (unhide HBW) _⟩
      · have hA9 : ∀ (j : Nat) (h : j + 1 < l.length), j + 1 ≤ k + 1 → (l[j]).1 < (l[j + 1]).1 := by
          intro j h hj
          by_cases hjk : j = k
          · subst hjk; omega
          · exact unhide HA j h (by omega)
        have HA9 := hide hA9
        generalize (l[k + 1]).1 = x at c0 hx hle
        generalize (l[k]).1 = y at d0 hy hle
        have hlei : ¬ (x : Int) ≤ (y : Int) := by omega
        clear hA9 HA hk hle HQ HBW
        obtain ⟨W, hW⟩ : ∃ W, W = w.drewN q := ⟨_, rfl⟩
        rw [← hW] at c0 d0 hblt ⊢
        have HW := hide hW
        clear hW
        go_wp2
        go_quiet (fail)
        go_wp2
        exact ⟨⟨k + 1, q + nq, by go_num, by omega, HA9, hide (by rw [unhide HW]; simp)⟩, by simp [intOf]; omega⟩
    · have hlt1 : ¬ ((k + 1 : Nat) : Int) < (T : Int) := by omega
      have hris : rises 0 (keysE (l.map lstE)) = true := by
        rw [rises_iff]
        refine ⟨fun _ => Nat.zero_le _, fun j hj => ?_⟩
        rw [keys_len] at hj
        rw [keys_at l j (by omega), keys_at l (j + 1) hj]
        exact unhide HA j hj (by have := unhide HTL; omega)
      have HRS := hide hris
      by_cases h6 : 65536 < T
      · have hfin : writeD (l.map lstE) = ([], 15) := writeD_long hris (by have := unhide HTL; rw [List.length_map]; omega)
        have HF := hide hfin
        have h6i : (65536 : Int) < (T : Int) := by omega
        clear hris hfin HA hk HQ
        go_wp2
        go_ret2
        exact ⟨by rw [unhide HF]; rfl, below_drewN (Below.refl _ _) q⟩
      · have h6i : ¬ (65536 : Int) < (T : Int) := by omega
        have hfin : writeD (l.map lstE) = (putL T ++ (heads 0 ((l.map lstE).map szE) ++ datas (l.map lstE)), 0) := by
          have h1 := writeD_done hris (by have := unhide HTL; rw [List.length_map]; omega)
          rw [List.length_map, ← unhide HTL] at h1
          exact h1
        have HF := hide hfin
        have hT10 := putL_len10 (n := T) (by omega)
        have HPT := hide (fun W => put_any T W (by omega))
        have HT10 := hide hT10
        have HRW : Hid (RowE (w.drewN q) (.slice a T cap) l) := hide ((unhide HR).below (below_drewN (Below.refl _ _) q))
        have HBW : Hid (Below w.heap.size w (w.drewN q)) := hide (below_drewN (Below.refl _ _) q)
        clear hris hfin HA hk HQ hT10 HR
        generalize w.drewN q = u at HRW HBW ⊢
        have HW0 := hide (Wr.new u)
        go_wp2_with fail
        refine (unhide HPT _).mono ?_
        rintro e W1 ⟨rfl, hb⟩
        have HW1 := hide ((unhide HW0).below hb)
        clear hb HW0 HPT
        go_wp2_with fail
        refine (yStr (unhide HW1) (bts (putL T)) (by rw [size_bts]; have := unhide HT10; simp; omega)).mono ?_
        rintro e W2 ⟨rfl, h2⟩
        rw [toList_bts, List.nil_append] at h2
        have HW2 := hide h2
        clear h2 HW1
        go_wp2
        go_loopw [6, 8, 39] (fun x xe z wr => ∃ (k m : Nat) (acc : List UInt8), z = .int .i64 k ∧ x = .int .u64 m ∧ k ≤ T ∧ Hid (m = lastL 0 (((l.map lstE).map szE).take k) % 18446744073709551616) ∧ Hid (acc = putL T ++ heads 0 (((l.map lstE).map szE).take k)) ∧ acc.length ≤ 10 + 20 * k ∧ Hid (Wr u wr acc)) (fun _ _ z _ => T - (intOf z).toNat)
        case atStart => exact ⟨0, 0, putL T, rfl, rfl, Nat.zero_le _, hide (by simp [lastL_nil]), hide (by simp [heads]), by have := unhide HT10; omega, HW2⟩
        case round =>
          obtain ⟨k, m, acc, rfl, rfl, hk, HM, HA, hal, HW⟩ := hrel
          by_cases hlt : k < T
          · have hlt1 : (k : Int) < (T : Int) := by omega
            have hkl : k < l.length := by have := unhide HTL; omega
            obtain ⟨b, off, cap', hv', hblt, hcell⟩ := RowG.at cellsE_len ((unhide HRW).below (unhide HW).bel) (j := k) hkl
            injection hv' with e1 e2 e3
            subst e1
            have c0 := hcell 0 (by omega)
            have c1 := hcell 1 (by omega)
            simp only [cellsE, List.getElem?_cons_zero, List.getElem?_cons_succ, Nat.add_zero] at c0 c1
            clear e2 e3 hcell
            have hx := (unhide HFT l[k] (List.getElem_mem hkl)).1
            have hy := (unhide HFT l[k] (List.getElem_mem hkl)).2
            have hnx := sz_next l k hkl
            have hlast : lastL 0 (((l.map lstE).map szE).take k) ≤ (l[k]).1 := by
              have h1 := rises_take (unhide HRS) (k + 1)
              have h2 : (keysE (l.map lstE)).take (k + 1) = (((l.map lstE).map szE).take k ++ [((l[k]).1, (l[k]).2.size)]).map (·.1) := by
                rw [← hnx, List.map_take, keys_sz]
              rw [h2] at h1
              exact rises_last h1
            have hm := unhide HM
            rw [Nat.mod_eq_of_lt (by omega)] at hm
            rw [← hm] at hlast
            have hA9 : acc ++ (putL ((l[k]).1 - m) ++ putL (l[k]).2.size) = putL T ++ heads 0 (((l.map lstE).map szE).take (k + 1)) := by
              rw [hnx, heads_snoc, ← hm, unhide HA]
              simp
            have hM9 : lastL 0 (((l.map lstE).map szE).take (k + 1)) = (l[k]).1 + 1 := by rw [hnx, lastL_snoc]
            have HA9 := hide hA9
            have HM9 := hide hM9
            clear hA9 hM9 hnx hm HM HA
            generalize (l[k]).1 = ky at c0 hx hlast HA9 HM9
            generalize (l[k]).2 = D at c1 hy HA9
            have p1 := putL_len10 (n := ky - m) (by omega)
            have p2 := putL_len10 (n := D.size) (by omega)
            have HP12 := hide (And.intro p1 p2)
            have hsub : (ky : Int) - (m : Int) = ((ky - m : Nat) : Int) := by omega
            have HP1 := hide (fun W => put_any (ky - m) W (by omega))
            have HP2 := hide (fun W => put_any D.size W (by omega))
            have HX0 := hide (WrX.new (unhide HW) 44 #[.int .u64 (ky : Int), .string D])
            have hkyi : (ky : Int) ≤ 18446744073709551615 := by omega
            have hmki : (m : Int) ≤ (ky : Int) := by omega
            have hne8 : 44 ≠ 5 := by decide
            clear p1 p2 HW
            go_wp2_with fail
            generalize wr.alloc (.cells #[.int .u64 (ky : Int), .string D] 44) = V0 at HX0 ⊢
            refine (unhide HP1 _).mono ?_
            rintro e V1 ⟨rfl, hb⟩
            have HX1 := hide ((unhide HX0).below hb)
            clear hb HX0 HP1
            go_wp2_with fail
            refine (xStr (unhide HX1) hne8 (bts (putL (ky - m))) (by rw [size_bts]; have := (unhide HP12).1; omega)).mono ?_
            rintro e V2 ⟨rfl, h2⟩
            rw [toList_bts] at h2
            have d0 : V2.cell? ⟨wr.heap.size, 0, none⟩ = some (.int .u64 (ky : Int)) := (Blk.cell h2.box 0).trans rfl
            have d1 : V2.cell? ⟨wr.heap.size, 1, none⟩ = some (.string D) := (Blk.cell h2.box 1).trans rfl
            have HX2 := hide h2
            clear h2 HX1 c0 c1
            go_wp2_with fail
            refine (unhide HP2 _).mono ?_
            rintro e V3 ⟨rfl, hb⟩
            have HX3 := hide ((unhide HX2).below hb)
            clear hb HX2 HP2 d0 d1
            go_wp2_with fail
            refine (xStr (unhide HX3) hne8 (bts (putL D.size)) (by rw [size_bts, List.length_append]; have := (unhide HP12).1; have := (unhide HP12).2; omega)).mono ?_
            rintro e V4 ⟨rfl, h4⟩
            rw [toList_bts, List.append_assoc] at h4
            have d0 : V4.cell? ⟨wr.heap.size, 0, none⟩ = some (.int .u64 (ky : Int)) := (Blk.cell h4.box 0).trans rfl
            have HX4 := hide h4.wr
            clear h4 HX3
            have hal9 : (acc ++ (putL (ky - m) ++ putL D.size)).length ≤ 10 + 20 * (k + 1) := by
              have h1 := (unhide HP12).1
              have h2 := (unhide HP12).2
              rw [List.length_append, List.length_append]
              omega
            by_cases hmax : ky = 18446744073709551615
            · subst hmax
              clear hsub
              go_wp2
              exact ⟨⟨k + 1, 0, _, by go_num, rfl, by omega, hide (by rw [unhide HM9]), HA9, hal9, HX4⟩, by simp [intOf]; omega⟩
            · have hmx : (ky : Int) + 1 ≤ 18446744073709551615 := by omega
              clear hsub
              go_wp2
              exact ⟨⟨k + 1, ky + 1, _, by go_num, by go_num, by omega, hide (by rw [unhide HM9, Nat.mod_eq_of_lt (by omega)]), HA9, hal9, HX4⟩, by simp [intOf]; omega⟩
          · have hlt1 : ¬ (k : Int) < (T : Int) := by omega
            have hacc : acc = putL T ++ heads 0 ((l.map lstE).map szE) := by
              rw [unhide HA, List.take_of_length_le (by have := unhide HTL; simp; omega)]
            have hal2 : acc.length ≤ 1310730 := by omega
            have HAC := hide hacc
            clear hacc HM HA hal
            go_wp2
            go_loopw [10, 61] (fun xe z wr => ∃ (k : Nat) (ac : List UInt8), z = .int .i64 k ∧ k ≤ T ∧ Hid (ac = acc ++ datas ((l.map lstE).take k)) ∧ ac.length ≤ 1099512938506 ∧ Hid (Wr u wr ac)) (fun _ z _ => T - (intOf z).toNat)
            case atStart => exact ⟨0, acc, rfl, Nat.zero_le _, hide (by simp [datas]), by omega, HW⟩
            case round =>
              obtain ⟨k, ac, rfl, hk, HA, hal, HW⟩ := hrel
              by_cases hlt : k < T
              · have hlt1 : (k : Int) < (T : Int) := by omega
                have hkl : k < l.length := by have := unhide HTL; omega
                obtain ⟨b, off, cap', hv', hblt, hcell⟩ := RowG.at cellsE_len ((unhide HRW).below (unhide HW).bel) (j := k) hkl
                injection hv' with e1 e2 e3
                subst e1
                have c0 := hcell 0 (by omega)
                have c1 := hcell 1 (by omega)
                simp only [cellsE, List.getElem?_cons_zero, List.getElem?_cons_succ, Nat.add_zero] at c0 c1
                clear e2 e3 hcell
                have hy := (unhide HFT l[k] (List.getElem_mem hkl)).2
                have hnx := dat_next l k hkl
                have hA9 : ac ++ (l[k]).2.data.toList = acc ++ datas ((l.map lstE).take (k + 1)) := by rw [hnx, unhide HA, List.append_assoc]
                have HA9 := hide hA9
                have hal9 : (ac ++ (l[k]).2.data.toList).length ≤ 1099512938506 := by
                  rw [hA9, List.length_append]
                  have h1 := datas_take (l.map lstE) (k + 1)
                  have h2 := unhide HTOT
                  omega
                have HAL := hide hal9
                have hsD := sizeL (l[k]).2
                rw [List.length_append, hsD] at hal9
                generalize (l[k]).1 = ky at c0
                generalize (l[k]).2 = D at c1 hy HA9 HAL hal9
                have HX0 := hide (WrX.new (unhide HW) 44 #[.int .u64 (ky : Int), .string D])
                have hne8 : 44 ≠ 5 := by decide
                clear HW HA hnx hA9 hsD
                go_wp2_with fail
                generalize wr.alloc (.cells #[.int .u64 (ky : Int), .string D] 44) = V0 at HX0 ⊢
                refine (xStr (unhide HX0) hne8 D (by omega)).mono ?_
                rintro e V2 ⟨rfl, h2⟩
                have HX2 := hide h2.wr
                clear h2 HX0 c0 c1
                go_wp2
                exact ⟨⟨k + 1, _, by go_num, by omega, HA9, unhide HAL, HX2⟩, by simp [intOf]; omega⟩
              · have hlt1 : ¬ (k : Int) < (T : Int) := by omega
                have hac : ac = putL T ++ (heads 0 ((l.map lstE).map szE) ++ datas (l.map lstE)) := by
                  rw [unhide HA, unhide HAC, List.take_of_length_le (by have := unhide HTL; simp; omega), List.append_assoc]
                have HFF : Hid (writeD (l.map lstE) = (ac, 0)) := hide (by rw [unhide HF, hac])
                have HST := hide (Try.Builder_String_any_k u.heap.size u.heap.size ac wr (unhide HW).isb (unhide HW).bel.size)
                have HBB := hide ((unhide HBW).trans ((unhide HW).bel.mono (unhide HBW).size))
                have hzu := (unhide HBW).size
                clear hac HA HAC HW HF
                go_wp2_with fail
                refine (unhide HST).mono ?_
                rintro e w2 ⟨rfl, _, hb2, _⟩
                go_wp2
                go_ret2
                exact ⟨by rw [unhide HFF]; rfl, (unhide HBB).trans (hb2.mono hzu)⟩
end Go.Proofs.Ytfjjigcghhohkaa
