/-
  The walk of missivelaw14.DictBack, over this seat's program.
-/
import Derived.Test.YtmadjiiomjlnaaaDlv
import Derived.Test.YtmadjiiomjlnaaaDoe
set_option linter.unusedVariables false
namespace Go.Proofs.Ytmadjiiomjlnaaa
open Go.RowKit Go.Proofs.Num Go.Proofs.Dct

theorem fit_lst {l : List Ent} (h : ∀ x ∈ l, FitE x) : FitL (l.map lstE) := by
  intro e he
  obtain ⟨x, hx, rfl⟩ := List.mem_map.1 he
  have := h x hx
  refine ⟨this.1, ?_⟩
  show x.2.data.toList.length ≤ _
  rw [sizeL]
  have := this.2
  omega
theorem datas_sum (l : List Ent) : (datas (l.map lstE)).length + l.length * 3 = sumE l := by
  induction l with
  | nil => rfl
  | cons e r ih =>
    have hs := sizeL e.2
    simp only [List.map_cons, datas_cons, List.length_append, List.length_cons, sumE, lstE] at ih ⊢
    omega
theorem written_len {l : List Ent} {t : List UInt8} (hf : FitL (l.map lstE)) (h : writeD (l.map lstE) = (t, 0)) : t.length ≤ 10 + 8 * sumE l := by
  obtain ⟨h1, h2, rfl⟩ := write_ok h
  have h3 := heads_append_len 0 ((l.map lstE).map szE) (fit_sz hf)
  have h4 := datas_sum l
  have h5 := putL_len10 (n := (l.map lstE).length) (by omega)
  rw [List.length_map, List.length_map] at h3
  simp only [List.length_append]
  omega
theorem bts_cat (t : List UInt8) (s : ByteArray) : (bts t ++ s).data.toList = t ++ s.data.toList := by
  rw [ByteArray.data_append, Array.toList_append, toList_bts]
theorem cat_rest (t : List UInt8) (s : ByteArray) : (bts t ++ s).extract t.length (bts t ++ s).size = s := by
  apply ext_list
  rw [toList_from, bts_cat, List.drop_left]
theorem cat_take (s : ByteArray) (q : Nat) : bts (s.data.toList.take q) ++ s.extract q s.size = s := by
  apply ext_list
  rw [bts_cat, toList_from, List.take_append_drop]

set_option maxHeartbeats 2000000 in
set_option maxRecDepth 100000 in
theorem dictBack_walk (v : Value) (l : List Ent) (s : ByteArray) (w : World) (h : RowE w v l) (hsum : sumE l + s.size ≤ 1048576) :
    Calls Try.prog 5 #[v, .string s] w fun e w' => e = .returned (.bool true) ∧ Below w.heap.size w w' := by
  have HL := hide (dlives_any w)
  have HR := hide h
  have HSUM := hide hsum
  have hft := h
  obtain ⟨ad, cap, hv, _, hfit, _⟩ := hft
  have HFT := hide hfit
  subst hv
  have hsl : (s.size : Int) ≤ 1048576 := by omega
  clear hsum hfit h
  obtain ⟨t, k, htk⟩ : ∃ t k, writeD (l.map lstE) = (t, k) := ⟨_, _, rfl⟩
  have HREST : Hid (∀ W, Calls Try.prog 9 #[.string s] W fun e w' => ∃ v x, ∃ c : Nat, e = .returned (.tuple #[v, .string x, .int .i64 c]) ∧ DRead s w' v x c ∧ Below W.heap.size W w') := hide (fun W => dread_any s W (by omega))
  go_enter Try.func5, Try.ntmps5
  go_wp2_with fail
  refine (unhide HL).mono ?_
  clear HL
  rintro e W1 ⟨rfl, hb1⟩
  have HB1 := hide hb1
  have HR1 := hide ((unhide HR).below hb1)
  clear hb1 HR
  have HW := hide (dwrite_any _ l W1 (unhide HR1) (by have h1 := datas_sum l; have h2 := unhide HSUM; omega))
  rw [htk] at HW
  have HTK := hide htk
  clear htk
  go_wp2_with fail
  refine (unhide HW).mono ?_
  clear HW
  rintro e W2 ⟨rfl, hb2⟩
  have HB2 := hide (belows' (unhide HB1) hb2)
  have HR2 := hide ((unhide HR1).below hb2)
  clear hb2 HB1 HR1
  by_cases hk : k = 0
  · subst hk
    have htl := written_len (fit_lst (unhide HFT)) (unhide HTK)
    have htl2 : t.length + s.size ≤ 16777216 := by have := unhide HSUM; omega
    have hrd := read_written s.data.toList (fit_lst (unhide HFT)) (unhide HTK)
    have hsz : (bts t).size = t.length := size_bts t
    have HRA := hide (fun W => dread_any (bts t ++ s) W (by rw [ByteArray.size_append, size_bts]; omega))
    have HRD := hide hrd
    clear htl hrd
    go_wp2_with fail
    refine (unhide HRA _).mono ?_
    clear HRA
    rintro e W3 ⟨vm, x, c, rfl, hr, hb3⟩
    unfold DRead at hr
    rw [bts_cat, unhide HRD] at hr
    simp only at hr
    rw [map_entB_lst, cat_rest] at hr
    obtain ⟨hrm, hx, rfl⟩ := hr
    have hx' := hx.symm
    clear hx
    subst hx'
    have HB3 := hide (belows' (unhide HB2) hb3)
    have HSM := hide (sameE_any vm _ l l W3 hrm ((unhide HR2).below hb3))
    rw [decide_eq_true rfl] at HSM
    obtain ⟨am, cm, hvm, _⟩ := hrm
    subst hvm
    clear hb3 HB2 HR2
    go_wp2_with fail
    refine (unhide HSM).mono ?_
    clear HSM
    rintro e W4 ⟨rfl, hb4⟩
    have HB4 := hide (belows' (unhide HB3) hb4)
    clear hb4 HB3
    go_wp2_with fail
    refine (unhide HREST _).mono ?_
    clear HREST
    rintro e W5 ⟨vp, x, c, rfl, hr, hb5⟩
    have HB5 := hide (belows' (unhide HB4) hb5)
    clear hb5 HB4
    unfold DRead at hr
    cases hE : readD s.data.toList with
    | error e =>
      rw [hE] at hr
      obtain ⟨rfl, rfl, rfl⟩ := hr
      have hc := readD_err_code hE
      have hne : ((c : Int) == 0) = false := by simp; omega
      clear hE hc
      go_wp2
      go_ret
      exact ⟨by simp, unhide HB5⟩
    | ok z =>
      obtain ⟨l2, q⟩ := z
      rw [hE] at hr
      obtain ⟨hrp, rfl, rfl⟩ := hr
      have hok := read_ok hE
      rw [sizeL] at hok
      have HWP := hide (dwrite_any vp (l2.map entB) W5 hrp (by rw [map_lst_entB]; have := hok.2.2.2.2.1; omega))
      rw [map_lst_entB, hok.1] at HWP
      obtain ⟨ap, cp, hvp, _⟩ := hrp
      subst hvp
      have hcat := cat_take s q
      have hu1 : (bts (s.data.toList.take q)).size ≤ 1048576 := by rw [size_bts, List.length_take, sizeL]; omega
      have hx1 : (s.extract q s.size).size ≤ 1048576 := by rw [ByteArray.size_extract]; omega
      clear hE hok
      generalize bts (s.data.toList.take q) = U at HWP hcat hu1
      generalize s.extract q s.size = X at hcat hx1 ⊢
      generalize (l2.map entB).length = M at HWP ⊢
      have hux : ((U ++ X).toList == s.toList) = true := by rw [hcat]; simp
      have hu2 : (U.size : Int) ≤ 1048576 := by omega
      have hx2 : (X.size : Int) ≤ 1048576 := by omega
      clear hcat
      go_wp2_with fail
      refine (unhide HWP).mono ?_
      clear HWP
      rintro e W6 ⟨rfl, hb6⟩
      have HB6 := hide (belows' (unhide HB5) hb6)
      clear hb6 HB5
      go_wp2
      go_ret
      exact ⟨by simp, unhide HB6⟩
  · have hk' : ((k : Int) == 0) = false := by simp; omega
    clear HR2
    go_wp2_with fail
    refine (unhide HREST _).mono ?_
    clear HREST
    rintro e W5 ⟨vp, x, c, rfl, hr, hb5⟩
    have HB5 := hide (belows' (unhide HB2) hb5)
    clear hb5 HB2
    unfold DRead at hr
    cases hE : readD s.data.toList with
    | error e =>
      rw [hE] at hr
      obtain ⟨rfl, rfl, rfl⟩ := hr
      have hc := readD_err_code hE
      have hne : ((c : Int) == 0) = false := by simp; omega
      clear hE hc
      go_wp2
      go_ret
      exact ⟨by simp, unhide HB5⟩
    | ok z =>
      obtain ⟨l2, q⟩ := z
      rw [hE] at hr
      obtain ⟨hrp, rfl, rfl⟩ := hr
      have hok := read_ok hE
      rw [sizeL] at hok
      have HWP := hide (dwrite_any vp (l2.map entB) W5 hrp (by rw [map_lst_entB]; have := hok.2.2.2.2.1; omega))
      rw [map_lst_entB, hok.1] at HWP
      obtain ⟨ap, cp, hvp, _⟩ := hrp
      subst hvp
      have hcat := cat_take s q
      have hu1 : (bts (s.data.toList.take q)).size ≤ 1048576 := by rw [size_bts, List.length_take, sizeL]; omega
      have hx1 : (s.extract q s.size).size ≤ 1048576 := by rw [ByteArray.size_extract]; omega
      clear hE hok
      generalize bts (s.data.toList.take q) = U at HWP hcat hu1
      generalize s.extract q s.size = X at hcat hx1 ⊢
      generalize (l2.map entB).length = M at HWP ⊢
      have hux : ((U ++ X).toList == s.toList) = true := by rw [hcat]; simp
      have hu2 : (U.size : Int) ≤ 1048576 := by omega
      have hx2 : (X.size : Int) ≤ 1048576 := by omega
      clear hcat
      go_wp2_with fail
      refine (unhide HWP).mono ?_
      clear HWP
      rintro e W6 ⟨rfl, hb6⟩
      have HB6 := hide (belows' (unhide HB5) hb6)
      clear hb6 HB5
      go_wp2
      go_ret
      exact ⟨by simp, unhide HB6⟩
end Go.Proofs.Ytmadjiiomjlnaaa
