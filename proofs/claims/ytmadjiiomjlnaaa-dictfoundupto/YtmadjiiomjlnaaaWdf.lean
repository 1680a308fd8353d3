/-
  The walk of missivelaw14.DictFound, over this seat's program.
-/
import Derived.Test.YtmadjiiomjlnaaaWdk
import Derived.Test.YtmadjiiomjlnaaaDcf
set_option linter.unusedVariables false
namespace Go.Proofs.Ytmadjiiomjlnaaa
open Go.RowKit Go.Proofs.Num Go.Proofs.Dct

theorem any_next (l : List Ent) (key k : Nat) (h : k < l.length) : (l.take (k + 1)).any (fun e => decide (e.1 = key)) = ((l.take k).any (fun e => decide (e.1 = key)) || decide ((l[k]).1 = key)) := by
  rw [List.take_succ_eq_append_getElem h, List.any_append]
  simp
theorem any_lst (l : List Ent) (key : Nat) : (l.map lstE).any (fun e => decide (e.1 = key)) = l.any (fun e => decide (e.1 = key)) := by
  rw [List.any_map]
  rfl

def fcode (b : Bool) : Nat := if b then 0 else 3

set_option maxHeartbeats 4000000 in
set_option maxRecDepth 100000 in
theorem dictFound_walk (v : Value) (l : List Ent) (key : Int) (w : World) (h : RowE w v l) (hw : (Lit.int .u64 key).wf = true) (hsum : sumE l ≤ 1048576) :
    Calls Try.prog 6 #[v, .int .u64 key] w fun e w' => e = .returned (.bool true) ∧ Below w.heap.size w w' := by
  obtain ⟨ky0, rfl⟩ : ∃ k : Nat, key = (k : Int) := by
    simp only [Lit.wf, Bool.and_eq_true, decide_eq_true_eq] at hw
    have h1 : IntKind.u64.min = 0 := by decide
    exact ⟨key.toNat, by omega⟩
  have hky : ky0 ≤ 18446744073709551615 := by
    simp only [Lit.wf, Bool.and_eq_true, decide_eq_true_eq] at hw
    have h2 : IntKind.u64.max = 18446744073709551615 := by decide
    omega
  clear hw
  have HL := hide (dlives_any w)
  have HR := hide h
  have HSUM := hide hsum
  have hft := h
  obtain ⟨ad, cap, hv, hl4, hfit, _⟩ := hft
  have HFT := hide hfit
  subst hv
  clear hsum hfit h
  obtain ⟨t, k, htk⟩ : ∃ t k, writeD (l.map lstE) = (t, k) := ⟨_, _, rfl⟩
  obtain ⟨T, hT⟩ : ∃ T, T = l.length := ⟨_, rfl⟩
  rw [← hT] at HR hl4 ⊢
  have HTL := hide hT
  clear hT
  go_enter Try.func6, Try.ntmps6
  go_wp2_with fail
  refine (unhide HL).mono ?_
  clear HL
  rintro e W1 ⟨rfl, hb1⟩
  have HB1 := hide hb1
  have HR1 := hide ((unhide HR).below hb1)
  clear hb1 HR
  have HW := hide (dwrite_any _ l W1 (unhide HR1) (by have h1 := datas_sum l; have h2 := unhide HSUM; omega))
  rw [htk] at HW
  have HTK := hide htk
  clear htk
  go_wp2_with fail
  refine (unhide HW).mono ?_
  clear HW
  rintro e W2 ⟨rfl, hb2⟩
  have HB2 := hide (belows' (unhide HB1) hb2)
  have HR2 := hide ((unhide HR1).below hb2)
  clear hb2 HB1 HR1
  by_cases hk : k = 0
  · subst hk
    have htl := written_len (fit_lst (unhide HFT)) (unhide HTK)
    have hsz : (bts t).size ≤ 140737488355328 := by rw [size_bts]; have := unhide HSUM; omega
    have hris := (write_ok (unhide HTK)).1
    have hfr : ∀ k, findR (bts t).data.toList k = seekE k (l.map lstE) := fun k => by rw [toList_bts]; exact findR_written (fit_lst (unhide HFT)) (unhide HTK) k
    have hrd : readD (bts t).data.toList = .ok (l.map lstE, t.length) := by
      have := read_written [] (fit_lst (unhide HFT)) (unhide HTK)
      rw [List.append_nil] at this
      rw [toList_bts]
      exact this
    have HFR := hide hfr
    have HRD := hide hrd
    have HRS := hide hris
    have HFD := hide (fun (k : Nat) (W : World) (hk : k ≤ 18446744073709551615) => dfind_any (bts t) k W hsz hk)
    have HRG := hide (fun (k : Nat) (W : World) (hk : k ≤ 18446744073709551615) => drange_any (bts t) k k W hsz hk hk)
    clear htl hsz hris hfr hrd HTK
    generalize bts t = S at *
    have HFIN : Hid (∀ W, Calls Try.prog 13 #[.string S, .int .u64 (ky0 : Int)] W fun e w' => ∃ x, e = .returned (.tuple #[.string x, .int .i64 (fcode (l.any (fun e => decide (e.1 = ky0))) : Int)]) ∧ Below W.heap.size W w') := hide (by
      intro W
      refine (unhide HFD ky0 W hky).mono ?_
      rintro e w' ⟨rfl, hb⟩
      refine ⟨bts (findR S.data.toList ky0).1, ?_, hb⟩
      have h2 : (findR S.data.toList ky0).2 = fcode (l.any (fun e => decide (e.1 = ky0))) := by rw [unhide HFR, seek_code, any_lst]; rfl
      rw [h2])
    go_wp2
    go_loopw [7, 9, 29] (fun xs xe z wr => ∃ k : Nat, z = .int .i64 k ∧ k ≤ T ∧ k ≤ 60 ∧ xs = .bool ((l.take k).any (fun e => decide (e.1 = ky0))) ∧ Hid (Below W2.heap.size W2 wr)) (fun _ _ z _ => T - (intOf z).toNat)
    case atStart => exact ⟨0, rfl, Nat.zero_le _, by omega, by simp, hide (Below.refl _ _)⟩
    case round =>
      obtain ⟨k, rfl, hk, hk6, rfl, HB⟩ := hrel
      by_cases hlt : k < T
      · have hlt1 : (k : Int) < (T : Int) := by omega
        have hkl : k < l.length := by have := unhide HTL; omega
        obtain ⟨b, off, cp, hv1, hblt, hcell⟩ := RowG.at cellsE_len ((unhide HR2).below (unhide HB)) (j := k) hkl
        injection hv1 with e1 e2 e3
        subst e1
        have c0 := hcell 0 (by omega)
        have c1 := hcell 1 (by omega)
        simp only [cellsE, List.getElem?_cons_zero, List.getElem?_cons_succ, Nat.add_zero] at c0 c1
        clear e2 e3 hcell
        have hzr := (unhide HB).size
        by_cases h60 : k = 60
        · subst h60
          have hgt : (60 : Int) < (T : Int) := by omega
          have HBX := hide (belows' (unhide HB2) ((unhide HB).alloc hzr (.cells #[.int .u64 ((l[60]).1 : Int), .string (l[60]).2] 41)))
          generalize (l[60]).1 = a1 at c0 HBX
          generalize (l[60]).2 = a2 at c1 HBX
          generalize (l.take 60).any (fun e => decide (e.1 = ky0)) = is at *
          clear HFD HRG HFR HRD HRS
          go_wp2_with fail
          refine (unhide HFIN _).mono ?_
          rintro e w5 ⟨x5, rfl, hb5⟩
          have HB5 := hide (belows' (unhide HBX) hb5)
          clear hb5
          generalize fcode (l.any fun e => decide (e.1 = ky0)) = ec at *
          go_wp2
          go_ret
          exact ⟨by simp, unhide HB5⟩
        · have h60i : ((k : Int) == 60) = false := by simp; omega
          have hx := (unhide HFT l[k] (List.getElem_mem hkl)).1
          have hkm : k < (l.map lstE).length := by simpa using hkl
          have hgm : (l.map lstE)[k] = lstE l[k] := by simp
          have HF := hide (fun W => unhide HFD (l[k]).1 W hx)
          have hsk := seek_at (l.map lstE) 0 (unhide HRS) k hkm
          rw [hgm] at hsk
          have hsk2 : findR S.data.toList (l[k]).1 = ((l[k]).2.data.toList, 0) := by rw [unhide HFR]; exact hsk
          rw [hsk2, bts_toList] at HF
          have HG := hide (fun W => unhide HRG (l[k]).1 W hx)
          have hfl := filter_at (l.map lstE) 0 (unhide HRS) k hkm
          rw [hgm] at hfl
          have hfl2 : ((l.map lstE).filter (inB (l[k]).1 (l[k]).1)).map entB = [l[k]] := by
            have : (lstE l[k]).1 = (l[k]).1 := rfl
            rw [this] at hfl
            rw [hfl, List.map_cons, List.map_nil, entB_lst]
          have hnx := any_next l ky0 k hkl
          have hbe : (((l[k]).1 : Int) == (ky0 : Int)) = decide ((l[k]).1 = ky0) := by
            by_cases hq : (l[k]).1 = ky0
            · rw [hq]; simp
            · rw [decide_eq_false hq]; simp; omega
          have HBX := hide ((unhide HB).alloc hzr (.cells #[.int .u64 ((l[k]).1 : Int), .string (l[k]).2] 41))
          have HKX := hide (Blk.new wr 41 #[.int .u64 ((l[k]).1 : Int), .string (l[k]).2])
          have HFL := hide hfl2
          have HNX := hide hnx
          have hrow1 : ∀ W', DRange S (l[k]).1 (l[k]).1 W' = DRange S (l[k]).1 (l[k]).1 W' := fun _ => rfl
          clear hsk hsk2 hfl hfl2 hnx hgm hkm hrow1
          obtain ⟨ky, hky1⟩ : ∃ ky, ky = (l[k]).1 := ⟨_, rfl⟩
          obtain ⟨D, hD1⟩ : ∃ D, D = (l[k]).2 := ⟨_, rfl⟩
          have hpair : l[k] = (ky, D) := by rw [hky1, hD1]
          rw [hpair] at HFL
          have HFL2 : Hid (((l.map lstE).filter (inB ky ky)).map entB = [(ky, D)]) := HFL
          rw [← hky1] at c0 hx HF HG HBX HKX HNX hbe
          rw [← hD1] at c1 HF HBX HKX
          clear hpair hky1 hD1
          obtain ⟨is, his⟩ : ∃ is, is = (l.take k).any (fun e => decide (e.1 = ky0)) := ⟨_, rfl⟩
          obtain ⟨eq, heq⟩ : ∃ eq, eq = decide (ky = ky0) := ⟨_, rfl⟩
          rw [← his] at HNX ⊢
          rw [← heq] at HNX hbe
          clear his heq HFL HFD HRG HFR HRS HFIN HSUM
          have hwa : wr.heap.size < (wr.alloc (.cells #[.int .u64 (ky : Int), .string D] 41)).heap.size := by simp
          have hxi : (ky : Int) ≤ 18446744073709551615 := by omega
          cases is
          all_goals
            go_wp2_with fail
            generalize wr.alloc (.cells #[.int .u64 (ky : Int), .string D] 41) = V0 at HBX HKX hwa ⊢
            refine (unhide HF _).mono ?_
            rintro e V1 ⟨rfl, hb⟩
            have HB1 := hide (belows' (unhide HBX) hb)
            have HK1 := hide ((unhide HKX).below hb)
            have d0 : V1.cell? ⟨wr.heap.size, 0, none⟩ = some (.int .u64 (ky : Int)) := ((unhide HK1).cell 0).trans rfl
            clear hb HBX HKX HF c0 c1
            go_wp2_with fail
            refine (unhide HG _).mono ?_
            rintro e V2 ⟨vr, cr, rfl, hr, hb⟩
            unfold DRange at hr
            rw [unhide HRD] at hr
            simp only at hr
            rw [unhide HFL2] at hr
            obtain ⟨hrow, rfl⟩ := hr
            obtain ⟨rb, roff, rcap, hvr, hrlt, hrc⟩ := RowG.at cellsE_len hrow (j := 0) (by simp)
            subst hvr
            have HB3 := hide (belows' (unhide HB1) hb)
            have HK2 := hide ((unhide HK1).below hb)
            have d0 : V2.cell? ⟨wr.heap.size, 0, none⟩ = some (.int .u64 (ky : Int)) := ((unhide HK2).cell 0).trans rfl
            have d1 : V2.cell? ⟨wr.heap.size, 1, none⟩ = some (.string D) := ((unhide HK2).cell 1).trans rfl
            have r0 := hrc 0 (by omega)
            have r1 := hrc 1 (by omega)
            simp only [List.getElem_cons_zero, cellsE, List.getElem?_cons_zero, List.getElem?_cons_succ, Nat.add_zero, Nat.zero_mul] at r0 r1
            simp only [List.length_cons, List.length_nil, Nat.zero_add]
            clear hb HB1 HK1 HG hrow hrc
            go_wp2
            go_quiet (fail)
            go_wp2
            exact ⟨⟨k + 1, by go_num, by omega, by omega, by rw [unhide HNX]; simp, hide (below_drewN (unhide HB3) _)⟩, by simp [intOf]; omega⟩
      · have hlt1 : ¬ (k : Int) < (T : Int) := by omega
        have hle : ¬ (60 : Int) < (T : Int) := by omega
        rw [List.take_of_length_le (by have := unhide HTL; omega)]
        have HBX := hide (belows' (unhide HB2) (unhide HB))
        generalize l.any (fun e => decide (e.1 = ky0)) = is at *
        clear HFD HRG HFR HRD HRS HB HB2
        go_wp2_with fail
        refine (unhide HFIN _).mono ?_
        rintro e w5 ⟨x5, rfl, hb5⟩
        have HB5 := hide (belows' (unhide HBX) hb5)
        clear hb5
        cases is
        · rw [show fcode false = 3 from rfl]
          go_wp2
          go_ret
          exact ⟨by simp, unhide HB5⟩
        · rw [show fcode true = 0 from rfl]
          go_wp2
          go_ret
          exact ⟨by simp, unhide HB5⟩
  · have hk' : ((k : Int) == 0) = false := by simp; omega
    have ht := write_no (unhide HTK) hk
    subst ht
    clear HTK
    rw [show bts [] = ⟨#[]⟩ from rfl]
    go_wp2
    go_ret
    exact ⟨rfl, unhide HB2⟩
end Go.Proofs.Ytmadjiiomjlnaaa
