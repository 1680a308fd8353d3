/-
  What head.Parse does, its fields being a row of its own, over this seat's program.
-/
import Derived.Test.YtedpimhhbajljaaGreatDoorHpb
set_option linter.unusedVariables false
namespace Go.Proofs.YtedpimhhbajljaaGreatDoor
open Go.RowKit Go.Proofs.Hed

set_option maxHeartbeats 40000000 in
set_option maxRecDepth 100000 in
/-- head.Parse tells the fields, and where the body begins. -/
theorem parse_own (s : ByteArray) (w : World) (hs : s.size ≤ 16777216) :
    Calls Tryz.prog 67 #[.string s] w fun e w' => ∃ v l, e = .returned (.tuple #[v, .int .i64 ((parseL s.data.toList).2 : Int)]) ∧ (RowF w' v l ∧ w'.ownsRow w.heap.size 40 2 v l.length (flatF l)) ∧ l.map lst = (parseL s.data.toList).1.take 1024 ∧ Below w.heap.size w w' := by
  have hsl := sizeL s
  have HF0 := hide (firstLine_any s w (by omega))
  go_enter Tryz.func67, Tryz.ntmps67
  go_wp2
  refine wp_scope_both 0 1 (by decide) (Jfield s w) (Jmore s w) (leftP s) rfl rfl ?_ ?_ ?_
  · intro hp
    go_wp2_with fail
    refine (unhide HF0).mono ?_
    rintro e w1 ⟨rfl, rfl⟩
    go_wp2
    go_step3
    rename_i K hK
    refine hK _ _ (hp _ _ (Jfield.mk 0 (.slice none 0 0) [] [] rfl (Nat.zero_le _) (hide ⟨rfl, Nat.zero_add _, rfl, by simp, by simp⟩) (hide ⟨rfl, Or.inl ⟨rfl, rfl⟩⟩) (hide (Below.refl _ _))))
  · rintro a' w' hp1 ⟨k, lv, acc, all, u, rfl, hk, HI, HO, HB⟩
    have HP1 := hide hp1
    clear hp1
    have hdl : (s.data.toList.drop k).length = s.size - k := by rw [List.length_drop, hsl]
    have hln := lineN_le (s.data.toList.drop k)
    have hlo := lineOf_len (s.data.toList.drop k)
    have HCT := hide (fun W => cut_any (bts (lineOf (s.data.toList.drop k))) W (by rw [size_bts]; omega))
    rw [toList_bts] at HCT
    have HROW := hide (fun (W : World) (h : W.ownsRow w.heap.size 40 2 lv acc.length (flatF acc)) => rowF_of_own h (by have := (unhide HI).len; omega) (unhide HI).fits)
    by_cases h0 : lineOf (s.data.toList.drop k) = []
    · have hz := parseL_end h0
      have hI := unhide HI
      have hf := hI.flds
      have hb := hI.body
      rw [hz] at hf hb
      simp only [List.append_nil] at hf
      simp only at hb
      have HFL := hide hf
      have HBD := hide hb
      rw [h0] at HCT ⊢
      have he : (bts []).toList.isEmpty = true := by rw [empty_size, size_bts]; rfl
      have hcn : colon [] = none := rfl
      rw [hcn] at HCT
      simp only at HCT
      generalize lineN (s.data.toList.drop k) = z at *
      clear hf hb hz hI h0 hlo hcn
      go_wp2_with fail
      refine (unhide HCT _).mono ?_
      rintro e w2 ⟨rfl, q, rfl⟩
      go_wp2
      simp only [jumpTwo]
      go_ret2
      refine ⟨lv, acc, ?_, ⟨unhide HROW _ (unhide HO), unhide HO⟩, by rw [(unhide HI).kept, unhide HFL], below_drewN (unhide HB) _⟩
      rw [← unhide HBD]
      go_num
    · have he : (bts (lineOf (s.data.toList.drop k))).toList.isEmpty = false := by
        rw [empty_size, size_bts]
        exact decide_eq_false (fun h => h0 (List.eq_nil_of_length_eq_zero h))
      cases hc : colon (lineOf (s.data.toList.drop k)) with
      | none =>
        have hz := parseL_none h0 hc
        have hI := unhide HI
        have hf := hI.flds
        have hb := hI.body
        rw [hz] at hf hb
        simp only [List.append_nil] at hf
        simp only [Nat.add_zero] at hb
        have HFL := hide hf
        have HBD := hide hb
        rw [hc] at HCT
        simp only at HCT
        generalize lineN (s.data.toList.drop k) = z at *
        generalize bts (lineOf (s.data.toList.drop k)) = line at *
        clear hf hb hz hI h0 hlo hc
        go_wp2_with fail
        refine (unhide HCT _).mono ?_
        rintro e w2 ⟨rfl, q, rfl⟩
        go_wp2
        simp only [jumpTwo]
        go_ret2
        refine ⟨lv, acc, ?_, ⟨unhide HROW _ (unhide HO), unhide HO⟩, by rw [(unhide HI).kept, unhide HFL], below_drewN (unhide HB) _⟩
        rw [← unhide HBD]
        rfl
      | some p =>
        obtain ⟨n, x⟩ := p
        have hcl := colon_len hc
        have HNM := hide (fun W => isName_any (bts n) W (by rw [size_bts]; omega))
        rw [toList_bts] at HNM
        rw [hc] at HCT
        simp only at HCT
        cases hn : isNm n with
        | false =>
          have hz := parseL_no h0 hc hn
          have hI := unhide HI
          have hf := hI.flds
          have hb := hI.body
          rw [hz] at hf hb
          simp only [List.append_nil] at hf
          simp only [Nat.add_zero] at hb
          have HFL := hide hf
          have HBD := hide hb
          rw [hn] at HNM
          generalize lineN (s.data.toList.drop k) = z at *
          generalize bts (lineOf (s.data.toList.drop k)) = line at *
          clear hf hb hz hI h0 hlo hc hcl hn
          go_wp2_with fail
          refine (unhide HCT _).mono ?_
          rintro e w2 ⟨rfl, q, rfl⟩
          go_wp2_with fail
          refine (unhide HNM _).mono ?_
          rintro e w3 ⟨rfl, rfl⟩
          go_wp2
          simp only [jumpTwo]
          go_ret2
          refine ⟨lv, acc, ?_, ⟨unhide HROW _ (unhide HO), unhide HO⟩, by rw [(unhide HI).kept, unhide HFL], below_drewN (unhide HB) _⟩
          rw [← unhide HBD]
          rfl
        | true =>
          have hz := parseL_field h0 hc hn
          have hI := unhide HI
          have hf := hI.flds
          have hb := hI.body
          rw [hz] at hf hb
          simp only [List.drop_drop] at hf hb
          have hlp := lineN_pos (line_ne h0)
          rw [hn] at HNM
          have HI1 : Hid (Inv1 s.data.toList (k + lineN (s.data.toList.drop k)) all acc n ([] ++ x)) := hide ⟨by
            rw [← hf, List.nil_append, Nat.add_assoc], by rw [← hb]; simp only [Nat.add_assoc], hI.kept, hI.len, hI.fits⟩
          have hkz : k + lineN (s.data.toList.drop k) ≤ s.size := by omega
          have hxl : ([] : List UInt8).length + x.length ≤ k + lineN (s.data.toList.drop k) := by simp; omega
          have hnl : n.length ≤ s.size := by omega
          generalize lineN (s.data.toList.drop k) = z at *
          generalize bts (lineOf (s.data.toList.drop k)) = line at *
          clear hf hb hz hI h0 hlo hc hcl hn
          go_wp2_with fail
          refine (unhide HCT _).mono ?_
          rintro e w2 ⟨rfl, q, rfl⟩
          go_wp2_with fail
          refine (unhide HNM _).mono ?_
          rintro e w3 ⟨rfl, rfl⟩
          go_wp2
          go_step3
          rename_i K hK
          refine hK _ _ (unhide HP1 _ _ (Jmore.mk k z w'.heap.size lv acc all n x [] (w'.drewN q) rfl hkz hlp hxl hnl HI1 (hide (Lib.IsBuilderF.of (Lib.fresh_isBuilder 65 5 (w'.drewN q)))) rfl HO (hide (show Below (w'.drewN q).heap.size (w'.drewN q) _ from (Below.refl _ _).alloc (Nat.le_refl _) _)) (hide (below_drewN (unhide HB) _))) (Nat.le_refl _))
  · rintro a' w' ⟨k, z, b, lv, acc, all, n, piece, bs, wb, u, rfl, hkz, hz1, hbl, hnl, HI, HBU, hwb, HO, HBB, HBW⟩
    have HWS := hide (writeString_k b b bs (bts piece) w' (unhide HBU) (by rw [size_bts]; omega) (by have := (unhide HBB).size; omega))
    rw [toList_bts] at HWS
    have S1 := fun W => slice_from s ((k : Int) + (z : Int)) (k + z) (by omega) hkz W
    have HFL := hide (fun W => firstLine_any (s.extract (k + z) s.size) W (by rw [size_part s (k + z) s.size (Nat.le_refl _)]; omega))
    rw [toList_from] at HFL
    generalize s.extract (k + z) s.size = sx at S1 HFL
    have hdl : (s.data.toList.drop (k + z)).length = s.size - (k + z) := by rw [List.length_drop, hsl]
    have hln := lineN_le (s.data.toList.drop (k + z))
    have hlo := lineOf_len (s.data.toList.drop (k + z))
    rw [hdl] at hln
    obtain ⟨L, hL⟩ : ∃ L, lineOf (s.data.toList.drop (k + z)) = L := ⟨_, rfl⟩
    obtain ⟨z2, hz2⟩ : ∃ z2, lineN (s.data.toList.drop (k + z)) = z2 := ⟨_, rfl⟩
    rw [hL, hz2] at HFL hlo
    rw [hz2] at hln
    have HLZ := hide (And.intro hL hz2)
    have HNUM := hide (And.intro hkz (And.intro hz1 (And.intro hbl (And.intro hnl (And.intro hln (And.intro hlo (And.intro hwb hs)))))))
    have hkb : (k : Int) + (z : Int) ≤ 16777216 := by omega
    clear hL hz2 hkz hz1 hbl hnl hln hlo hwb hs hdl hsl HBU
    go_wp2_with fail
    refine (unhide HWS).mono ?_
    rintro e w2 ⟨rfl, hbu2, b2⟩
    have HBU2 := hide hbu2
    have HBB2 := hide ((unhide HBB).trans b2)
    clear hbu2 b2 HWS HBB
    go_wp2_with fail
    refine (unhide HFL _).mono ?_
    rintro e w2 ⟨rfl, rfl⟩
    clear HFL S1
    cases hg : goesOn L with
    | true =>
      obtain ⟨c, r, rfl⟩ : ∃ c r, L = c :: r := by
        cases L with
        | nil => cases hg
        | cons c r => exact ⟨c, r, rfl⟩
      have hg' : isB c = true := hg
      obtain ⟨X, hX⟩ : ∃ X, bts (c :: r) = X := ⟨_, rfl⟩
      have hXs : 0 < X.size := by rw [← hX, size_bts]; simp
      have hXl : X.data.toList = c :: r := by rw [← hX, toList_bts]
      have hXc : isB X[0] = true := by rw [goes_first hXl hXs]; exact hg
      have hemp : X.toList.isEmpty = false := by rw [empty_size]; exact decide_eq_false (by omega)
      have HBL := hide (fun W => isBlank_any X[0] W)
      rw [hXc] at HBL
      have hgg : goesOn (lineOf (s.data.toList.drop (k + z))) = true := by rw [(unhide HLZ).1]; exact hg
      have hI2 := inv1_go (unhide HI) hgg
      rw [(unhide HLZ).1, (unhide HLZ).2] at hI2
      have hz2p := lineN_pos (goes_ne hgg)
      rw [(unhide HLZ).2] at hz2p
      have HI2 := hide hI2
      have HZP := hide hz2p
      have HXX := hide hX
      rw [hX]
      have hxs' : (0 : Int) < (X.size : Int) := by omega
      clear hX hg hg' hgg hI2 hz2p hXc hXl
      go_wp2_with fail
      refine (unhide HBL _).mono ?_
      rintro e w2 ⟨rfl, rfl⟩
      go_wp2
      go_step3
      obtain ⟨q1, q2, q3, q4, q5, q6, q7, q8⟩ := unhide HNUM
      refine Or.inr ⟨rfl, Jmore.mk (k + z) z2 b lv acc all n (c :: r) (bs ++ piece) wb ?_ (by omega) (unhide HZP) (by rw [List.length_append]; omega) q4 HI2 HBU2 q7 HO HBB2 HBW, ?_⟩
      · rw [show ((k + z : Nat) : Int) = (k : Int) + (z : Int) by omega, unhide HXX]
        rfl
      · simp only [leftP]
        simp [intOf]
        omega
    | false =>
      obtain ⟨la, lc, rfl⟩ : ∃ la lc, lv = .slice la acc.length lc := by
        rcases (unhide HO).2 with ⟨hv, h0⟩ | ⟨g, cap, cur, hv, _⟩
        · exact ⟨none, 0, by rw [hv, h0]⟩
        · exact ⟨_, _, hv⟩
      have hI := unhide HI
      have hacl := hI.len
      have hgg : goesOn (lineOf (s.data.toList.drop (k + z))) = false := by rw [(unhide HLZ).1]; exact hg
      obtain ⟨q1, q2, q3, q4, q5, q6, q7, q8⟩ := unhide HNUM
      have htl := trimL_len (bs ++ piece)
      rw [List.length_append] at htl
      have HCL := hide (fun W => cloneS_any (bts n) W (by rw [size_bts]; omega))
      have HTR := hide (fun W => trim_any ⟨(bs ++ piece).toArray⟩ W (by show (bts (bs ++ piece)).size ≤ _; rw [size_bts, List.length_append]; omega))
      rw [show (ByteArray.mk (bs ++ piece).toArray).data.toList = bs ++ piece from toList_bts _] at HTR
      have hfit : Fits (bts n, bts (trimL (bs ++ piece))) := ⟨by show (bts n).size ≤ _; rw [size_bts]; omega, by show (bts (trimL (bs ++ piece))).size ≤ _; rw [size_bts]; omega⟩
      obtain ⟨X, hX⟩ : ∃ X, bts L = X := ⟨_, rfl⟩
      have hXs : X.size = L.length := by rw [← hX, size_bts]
      have hXl : X.data.toList = L := by rw [← hX, toList_bts]
      have HXX := hide hX
      rw [hX]
      obtain ⟨i0, hi, hz0, hzz1, hz2⟩ := info_parts fldInfo
      clear q1 q2 q3 q4 q5 q6 q7 q8 hX htl
      by_cases hlen : acc.length < 1024
      · have hinv : Inv s.data.toList (k + z) (all ++ [(n, trimL (bs ++ piece))]) (acc ++ [(bts n, bts (trimL (bs ++ piece)))]) := inv1_stop hI hgg (by
          have := kept_more (f := (bts n, bts (trimL (bs ++ piece)))) hI.kept hlen
          rw [this]
          simp only [lst, toList_bts]) (by simp; omega) (by
          intro f hf
          rw [List.mem_append, List.mem_singleton] at hf
          rcases hf with hf | rfl
          · exact hI.fits f hf
          · exact hfit)
        have HIY := hide hinv
        have hlen' : (acc.length : Int) < 1024 := by omega
        clear hinv hI hgg hfit hacl
        by_cases hL0 : X.size = 0
        · have hemp : X.toList.isEmpty = true := by rw [empty_size]; exact decide_eq_true hL0
          clear hXs hXl hg hL0
          go_wp2_with fail
          refine (unhide HCL _).mono ?_
          rintro e w4 ⟨rfl, b4⟩
          have hz3 : b ≤ w2.heap.size := by have := (unhide HBB2).size; have := (unhide HNUM).2.2.2.2.2.2.1; omega
          have HBU4 := hide (isB_below (unhide HBU2) b4)
          have HBB4 := hide ((unhide HBB2).trans (b4.mono hz3))
          have HZ4 : Hid (b ≤ w4.heap.size) := hide (by have := (unhide HBB4).size; have := (unhide HNUM).2.2.2.2.2.2.1; omega)
          clear b4 hz3 HBU2 HBB2 HCL
          go_wp2_with fail
          refine (Tryz.Builder_String_any_k b b (bs ++ piece) w4 (unhide HBU4) (unhide HZ4)).mono ?_
          rintro e w5 ⟨rfl, _, b5, _⟩
          have HBB5 := hide ((unhide HBB4).trans b5)
          clear b5 HBU4 HBB4 HZ4
          go_wp2_with fail
          refine (unhide HTR _).mono ?_
          rintro e w6 ⟨rfl, b6⟩
          have hbb6 : Below b wb w6 := (unhide HBB5).trans (b6.mono (by have := (unhide HBB5).size; have := (unhide HNUM).2.2.2.2.2.2.1; omega))
          have hwb := (unhide HNUM).2.2.2.2.2.2.1
          have hown6 := own_below (unhide HO) (by rw [hwb]; exact hbb6)
          have hbw6 : Below w.heap.size w w6 := (unhide HBW).trans (hbb6.mono (by have := (unhide HBW).size; omega))
          have hz6 := hbw6.size
          have HB6 := hide hbw6
          clear b6 hbb6 hbw6 HBB5 HTR hwb
          go_wp2_with (at_builtin; refine wpList_append_own _ rfl _ _ 22 rfl w.heap.size 40 i0 (.agg #[.string ByteArray.empty, .string ByteArray.empty]) 2 32 Tryz.underlying22 hi hz0 hzz1 hz2 rfl (by decide) _ _ _ rfl (hown6.alloc _) ⟨w6.heap.size, 0, none⟩ 1 1 [.string (bts n), .string (bts (trimL (bs ++ piece)))] rfl rfl (two_cells _ _ _ _) (by intro u hu; simp at hu; rcases hu with rfl | rfl <;> rfl) (by unfold maxLen; omega) (by omega) (by simp; omega) ?_)
          intro v' w7 hown7 hgrow _
          have HB7 := hide (own_up hown6 hgrow (unhide HB6) hz6)
          have HO7 := hide hown7
          clear hown6 hown7 hgrow
          go_wp2
          go_step3
          obtain ⟨q1, q2, q3, q4, q5, q6, q7, q8⟩ := unhide HNUM
          refine Or.inl ⟨rfl, Jfield.mk (k + z) v' (acc ++ [(bts n, bts (trimL (bs ++ piece)))]) (all ++ [(n, trimL (bs ++ piece))]) ?_ q1 HIY ?_ HB7, ?_⟩
          · rw [show ((k + z : Nat) : Int) = (k : Int) + (z : Int) by omega, (unhide HLZ).1, (unhide HLZ).2, unhide HXX]
            rfl
          · have h7 := unhide HO7
            rw [show flatF acc ++ [.string (bts n), .string (bts (trimL (bs ++ piece)))] = flatF (acc ++ [(bts n, bts (trimL (bs ++ piece)))]) by rw [flatF_append]; rfl] at h7
            exact hide (by simpa using h7)
          · simp only [leftP]
            simp [intOf]
            omega
        · have hemp : X.toList.isEmpty = false := by rw [empty_size]; exact decide_eq_false hL0
          have hL1 : 0 < X.size := by omega
          have HBL := hide (fun W => isBlank_any X[0] W)
          rw [goes_first hXl hL1, hg] at HBL
          have hl0 : (0 : Int) < (X.size : Int) := by omega
          clear hXs hXl hg hL0
          go_wp2_with fail
          refine (unhide HBL _).mono ?_
          rintro e w2 ⟨rfl, rfl⟩
          go_wp2_with fail
          refine (unhide HCL _).mono ?_
          rintro e w4 ⟨rfl, b4⟩
          have hz3 : b ≤ w2.heap.size := by have := (unhide HBB2).size; have := (unhide HNUM).2.2.2.2.2.2.1; omega
          have HBU4 := hide (isB_below (unhide HBU2) b4)
          have HBB4 := hide ((unhide HBB2).trans (b4.mono hz3))
          have HZ4 : Hid (b ≤ w4.heap.size) := hide (by have := (unhide HBB4).size; have := (unhide HNUM).2.2.2.2.2.2.1; omega)
          clear b4 hz3 HBU2 HBB2 HCL
          go_wp2_with fail
          refine (Tryz.Builder_String_any_k b b (bs ++ piece) w4 (unhide HBU4) (unhide HZ4)).mono ?_
          rintro e w5 ⟨rfl, _, b5, _⟩
          have HBB5 := hide ((unhide HBB4).trans b5)
          clear b5 HBU4 HBB4 HZ4
          go_wp2_with fail
          refine (unhide HTR _).mono ?_
          rintro e w6 ⟨rfl, b6⟩
          have hbb6 : Below b wb w6 := (unhide HBB5).trans (b6.mono (by have := (unhide HBB5).size; have := (unhide HNUM).2.2.2.2.2.2.1; omega))
          have hwb := (unhide HNUM).2.2.2.2.2.2.1
          have hown6 := own_below (unhide HO) (by rw [hwb]; exact hbb6)
          have hbw6 : Below w.heap.size w w6 := (unhide HBW).trans (hbb6.mono (by have := (unhide HBW).size; omega))
          have hz6 := hbw6.size
          have HB6 := hide hbw6
          clear b6 hbb6 hbw6 HBB5 HTR hwb
          go_wp2_with (at_builtin; refine wpList_append_own _ rfl _ _ 22 rfl w.heap.size 40 i0 (.agg #[.string ByteArray.empty, .string ByteArray.empty]) 2 32 Tryz.underlying22 hi hz0 hzz1 hz2 rfl (by decide) _ _ _ rfl (hown6.alloc _) ⟨w6.heap.size, 0, none⟩ 1 1 [.string (bts n), .string (bts (trimL (bs ++ piece)))] rfl rfl (two_cells _ _ _ _) (by intro u hu; simp at hu; rcases hu with rfl | rfl <;> rfl) (by unfold maxLen; omega) (by omega) (by simp; omega) ?_)
          intro v' w7 hown7 hgrow _
          have HB7 := hide (own_up hown6 hgrow (unhide HB6) hz6)
          have HO7 := hide hown7
          clear hown6 hown7 hgrow
          go_wp2
          go_step3
          obtain ⟨q1, q2, q3, q4, q5, q6, q7, q8⟩ := unhide HNUM
          refine Or.inl ⟨rfl, Jfield.mk (k + z) v' (acc ++ [(bts n, bts (trimL (bs ++ piece)))]) (all ++ [(n, trimL (bs ++ piece))]) ?_ q1 HIY ?_ HB7, ?_⟩
          · rw [show ((k + z : Nat) : Int) = (k : Int) + (z : Int) by omega, (unhide HLZ).1, (unhide HLZ).2, unhide HXX]
            rfl
          · have h7 := unhide HO7
            rw [show flatF acc ++ [.string (bts n), .string (bts (trimL (bs ++ piece)))] = flatF (acc ++ [(bts n, bts (trimL (bs ++ piece)))]) by rw [flatF_append]; rfl] at h7
            exact hide (by simpa using h7)
          · simp only [leftP]
            simp [intOf]
            omega
      · have hinv : Inv s.data.toList (k + z) (all ++ [(n, trimL (bs ++ piece))]) acc := inv1_stop hI hgg (kept_full hI.kept hlen) hI.len hI.fits
        have HIN := hide hinv
        have hlen' : ¬ (acc.length : Int) < 1024 := by omega
        clear hinv hI hgg hfit hacl HCL HTR
        by_cases hL0 : X.size = 0
        · have hemp : X.toList.isEmpty = true := by rw [empty_size]; exact decide_eq_true hL0
          clear hXs hXl hg hL0
          have hwb := (unhide HNUM).2.2.2.2.2.2.1
          have hbb2 := unhide HBB2
          have hown6 := own_below (unhide HO) (by rw [hwb]; exact hbb2)
          have HO7 := hide hown6
          have HB7 := hide ((unhide HBW).trans (hbb2.mono (by have := (unhide HBW).size; omega)))
          clear hbb2 hown6 hwb
          go_wp2
          go_step3
          obtain ⟨q1, q2, q3, q4, q5, q6, q7, q8⟩ := unhide HNUM
          refine Or.inl ⟨rfl, Jfield.mk (k + z) (.slice la acc.length lc) acc (all ++ [(n, trimL (bs ++ piece))]) ?_ q1 HIN HO7 HB7, ?_⟩
          · rw [show ((k + z : Nat) : Int) = (k : Int) + (z : Int) by omega, (unhide HLZ).1, (unhide HLZ).2, unhide HXX]
            rfl
          · simp only [leftP]
            simp [intOf]
            omega
        · have hemp : X.toList.isEmpty = false := by rw [empty_size]; exact decide_eq_false hL0
          have hL1 : 0 < X.size := by omega
          have HBL := hide (fun W => isBlank_any X[0] W)
          rw [goes_first hXl hL1, hg] at HBL
          have hl0 : (0 : Int) < (X.size : Int) := by omega
          clear hXs hXl hg hL0
          go_wp2_with fail
          refine (unhide HBL _).mono ?_
          rintro e w2 ⟨rfl, rfl⟩
          have hwb := (unhide HNUM).2.2.2.2.2.2.1
          have hbb2 := unhide HBB2
          have hown6 := own_below (unhide HO) (by rw [hwb]; exact hbb2)
          have HO7 := hide hown6
          have HB7 := hide ((unhide HBW).trans (hbb2.mono (by have := (unhide HBW).size; omega)))
          clear hbb2 hown6 hwb
          go_wp2
          go_step3
          obtain ⟨q1, q2, q3, q4, q5, q6, q7, q8⟩ := unhide HNUM
          refine Or.inl ⟨rfl, Jfield.mk (k + z) (.slice la acc.length lc) acc (all ++ [(n, trimL (bs ++ piece))]) ?_ q1 HIN HO7 HB7, ?_⟩
          · rw [show ((k + z : Nat) : Int) = (k : Int) + (z : Int) by omega, (unhide HLZ).1, (unhide HLZ).2, unhide HXX]
            rfl
          · simp only [leftP]
            simp [intOf]
            omega

end Go.Proofs.YtedpimhhbajljaaGreatDoor
