/-
  The walk of missivetop.TopPosted, over this seat's program.
-/
import Derived.Test.YtfjjigcghhohkaaWtp
set_option linter.unusedVariables false
namespace Go.Proofs.Ytfjjigcghhohkaa
open Go.RowKit Go.Proofs.Num Go.Proofs.Dct Go.Proofs.Pna Go.Proofs.Pst

set_option maxHeartbeats 4000000 in
set_option maxRecDepth 100000 in
theorem topPosted_walk (aa ab : Option Addr) (a b : List Nat) (ca cb n : Nat) (w : World) (ha : Row32 w (.slice aa a.length ca) a) (hb : Row32 w (.slice ab b.length cb) b) (hca : a.length ≤ ca) (hcb : b.length ≤ cb) (hn : n ≤ 4294967295) :
    Calls Try.prog 5 #[.slice aa a.length ca, .slice ab b.length cb, .int .u32 (n : Int)] w fun e w' => e = .returned (.bool true) ∧ Below w.heap.size w w' := by
  have hfa : ∀ y ∈ a, y ≤ 4294967295 := (by obtain ⟨_, _, _, _, hft, _⟩ := ha; exact hft)
  have hfb : ∀ y ∈ b, y ≤ 4294967295 := (by obtain ⟨_, _, _, _, hft, _⟩ := hb; exact hft)
  have HFA := hide hfa
  have HFB := hide hfb
  have HA := hide ha
  have HB := hide hb
  have HL := hide (begins_any w)
  clear hfa hfb ha hb
  obtain ⟨Ta, hTa⟩ : ∃ T, T = a.length := ⟨_, rfl⟩
  obtain ⟨Tb, hTb⟩ : ∃ T, T = b.length := ⟨_, rfl⟩
  rw [← hTa] at HA hca ⊢
  rw [← hTb] at HB hcb ⊢
  have HTA := hide hTa
  have HTB := hide hTb
  clear hTa hTb
  go_enter Try.func5, Try.ntmps5
  go_wp2_with fail
  refine (unhide HL).mono ?_
  clear HL
  rintro e W1 ⟨rfl, hb1⟩
  have HB1 := hide hb1
  have HA1 := hide ((unhide HA).below hb1)
  have HC1 := hide ((unhide HB).below hb1)
  clear hb1 HA HB
  have HW := hide (pack_any aa a Ta ca W1 (unhide HA1) (unhide HTA) hca)
  go_wp2_with fail
  refine (unhide HW).mono ?_
  clear HW
  rintro e W2 ⟨rfl, hb2⟩
  have HB2 := hide (belows' (unhide HB1) hb2)
  have HA2 := hide ((unhide HA1).below hb2)
  have HC2 := hide ((unhide HC1).below hb2)
  clear hb2 HB1 HA1 HC1
  have HW := hide (pack_any ab b Tb cb W2 (unhide HC2) (unhide HTB) hcb)
  by_cases hka : chk a = 0
  rotate_left
  · rw [if_neg hka]
    obtain ⟨k, hk⟩ : ∃ k, k = chk a := ⟨_, rfl⟩
    rw [← hk] at hka ⊢
    have hk1 : ((k : Int) == 0) = false := by simp; omega
    have hk2 : ((k : Int) != 0) = true := by simp [bne, hk1]
    clear hk hka
    go_wp2_with fail
    refine (unhide HW).mono ?_
    clear HW
    rintro e W3 ⟨rfl, hb3⟩
    have HB3 := hide (belows' (unhide HB2) hb3)
    clear hb3 HB2
    obtain ⟨x, y, hxy⟩ : ∃ x y, (if chk b = 0 then Value.tuple #[.string ⟨(packL b).toArray⟩, .int .i64 0] else .tuple #[.string ⟨#[]⟩, .int .i64 (chk b : Int)]) = .tuple #[.string x, .int .i64 y] := by
      split
      · exact ⟨_, _, rfl⟩
      · exact ⟨_, _, rfl⟩
    rw [hxy]
    clear hxy
    go_wp2
    go_ret
    exact ⟨by simp, unhide HB3⟩
  rw [if_pos hka]
  by_cases hkb : chk b = 0
  rotate_left
  · rw [if_neg hkb] at HW
    obtain ⟨k, hk⟩ : ∃ k, k = chk b := ⟨_, rfl⟩
    rw [← hk] at hkb HW
    have hk1 : ((k : Int) == 0) = false := by simp; omega
    have hk2 : ((k : Int) != 0) = true := by simp [bne, hk1]
    clear hk hkb hka
    go_wp2_with fail
    refine (unhide HW).mono ?_
    clear HW
    rintro e W3 ⟨rfl, hb3⟩
    have HB3 := hide (belows' (unhide HB2) hb3)
    clear hb3 HB2
    go_wp2
    go_ret
    exact ⟨by simp, unhide HB3⟩
  rw [if_pos hkb] at HW
  obtain ⟨t, ht1, ht2, ht3, ht4⟩ := two_ent (packL a) (packL b) (packL_len (unhide HFA) (chk_rise hka).2) (packL_len (unhide HFB) (chk_rise hkb).2)
  obtain ⟨PA, hPA⟩ : ∃ P, P = bts (packL a) := ⟨_, rfl⟩
  obtain ⟨PB, hPB⟩ : ∃ P, P = bts (packL b) := ⟨_, rfl⟩
  have hA' : (⟨(packL a).toArray⟩ : ByteArray) = PA := by rw [hPA]; rfl
  have hB' : (⟨(packL b).toArray⟩ : ByteArray) = PB := by rw [hPB]; rfl
  rw [hA']
  rw [hB'] at HW
  have HUA := hide (fun W => unpackP_any a W hka (unhide HFA))
  have HUB := hide (fun W => unpackP_any b W hkb (unhide HFB))
  have HHA := hide (fun W => hasP_any a n W hn hka (unhide HFA))
  have HHB := hide (fun W => hasP_any b n W hn hkb (unhide HFB))
  rw [← hPA] at HUA HHA
  rw [← hPB] at HUB HHB
  rw [← unhide HTA] at HUA
  rw [← unhide HTB] at HUB
  have HF3 := hide (fun W => dfind_any (bts t) 3 W (by rw [size_bts]; omega) (by decide))
  have HF9 := hide (fun W => dfind_any (bts t) 9 W (by rw [size_bts]; omega) (by decide))
  rw [toList_bts, ht3, ← hPA] at HF3
  rw [toList_bts, ht4, ← hPB] at HF9
  have hmap : [((3 : Nat), PA), (9, PB)].map lstE = [(3, packL a), (9, packL b)] := by rw [hPA, hPB]; simp [lstE, toList_bts]
  have hsza : PA.size ≤ 1048576 := by rw [hPA, size_bts]; exact packL_len (unhide HFA) (chk_rise hka).2
  have hszb : PB.size ≤ 1048576 := by rw [hPB, size_bts]; exact packL_len (unhide HFB) (chk_rise hkb).2
  have HAZ := hide (and_zero hka hkb)
  have HDW : Hid (∀ W : World, Calls Try.prog 14 #[.slice (some ⟨W.heap.size, 0, none⟩) 2 2] (W.alloc (.cells #[.int .u64 3, .string PA, .int .u64 9, .string PB] 44)) fun e w' => e = .returned (.tuple #[.string (bts t), .int .i64 0]) ∧ Below W.heap.size W w') := hide (fun W => by
    have hrow : RowE (W.alloc (.cells #[.int .u64 3, .string PA, .int .u64 9, .string PB] 44)) (.slice (some ⟨W.heap.size, 0, none⟩) 2 2) [((3 : Nat), PA), (9, PB)] := by
      refine ⟨_, _, rfl, by simp, ?_, Or.inr ⟨W.heap.size, 0, rfl, by simp, fun j u hj => ?_⟩⟩
      · intro x hx
        simp only [List.mem_cons, List.not_mem_nil, or_false] at hx
        rcases hx with rfl | rfl <;> exact ⟨by simp, by simp only; omega⟩
      · rw [Nat.zero_add, Blk.cell (Blk.new W 44 _)]
        have : (flatG cellsE [((3 : Nat), PA), (9, PB)]) = [.int .u64 3, .string PA, .int .u64 9, .string PB] := rfl
        rw [this] at hj
        simpa using hj
    have h := dwrite_any _ _ _ hrow (by rw [hmap]; simp only [datas, List.flatMap_cons, List.flatMap_nil, List.length_append, List.length_nil]; have h1 := packL_len (unhide HFA) (chk_rise hka).2; have h2 := packL_len (unhide HFB) (chk_rise hkb).2; omega)
    rw [hmap, ht1] at h
    refine h.mono ?_
    rintro e w' ⟨rfl, hb⟩
    exact ⟨rfl, belows' (below_alloc _ _) hb⟩)
  have hemp : (⟨#[]⟩ : ByteArray).size = 0 := rfl
  clear hA' hB' hPA hPB ht1 ht3 ht4 hmap ht2 hka hkb hsza hszb
  generalize bts t = D at HF3 HF9 HDW
  go_wp2_with fail
  refine (unhide HW).mono ?_
  clear HW
  rintro e W3 ⟨rfl, hb3⟩
  have HB3 := hide (belows' (unhide HB2) hb3)
  have HA3 := hide ((unhide HA2).below hb3)
  have HC3 := hide ((unhide HC2).below hb3)
  clear hb3 HB2 HA2 HC2
  go_wp2_with fail
  refine (unhide HDW _).mono ?_
  clear HDW
  rintro e W4 ⟨rfl, hb4⟩
  have HB4 := hide (belows' (unhide HB3) hb4)
  have HA4 := hide ((unhide HA3).below hb4)
  have HC4 := hide ((unhide HC3).below hb4)
  clear hb4 HB3 HA3 HC3
  go_wp2_with fail
  refine (unhide HF3 _).mono ?_
  clear HF3
  rintro e W5 ⟨rfl, hb5⟩
  have HB5 := hide (belows' (unhide HB4) hb5)
  have HA5 := hide ((unhide HA4).below hb5)
  have HC5 := hide ((unhide HC4).below hb5)
  clear hb5 HB4 HA4 HC4
  go_wp2_with fail
  refine (unhide HF9 _).mono ?_
  clear HF9
  rintro e W6 ⟨rfl, hb6⟩
  have HB6 := hide (belows' (unhide HB5) hb6)
  have HA6 := hide ((unhide HA5).below hb6)
  have HC6 := hide ((unhide HC5).below hb6)
  clear hb6 HB5 HA5 HC5
  go_wp2_with fail
  refine (unhide HUA _).mono ?_
  clear HUA
  rintro e W7 ⟨⟨ap, cp, rfl, hcp, hrp⟩, hb7⟩
  have HB7 := hide (belows' (unhide HB6) hb7)
  have HA7 := hide ((unhide HA6).below hb7)
  have HC7 := hide ((unhide HC6).below hb7)
  have HP7 := hide hrp
  clear hb7 HB6 HA6 HC6 hrp
  go_wp2_with fail
  refine (unhide HUB _).mono ?_
  clear HUB
  rintro e W8 ⟨⟨aq, cq, rfl, hcq, hrq⟩, hb8⟩
  have HB8 := hide (belows' (unhide HB7) hb8)
  have HA8 := hide ((unhide HA7).below hb8)
  have HC8 := hide ((unhide HC7).below hb8)
  have HP8 := hide ((unhide HP7).below hb8)
  have HQ8 := hide hrq
  clear hb8 HB7 HA7 HC7 HP7 hrq
  have HAND := hide (and_any _ [a, b] _ (rowRR_two (unhide HP8) (unhide HQ8)) (neat_some _ (Nat.le_refl _)))
  rw [unhide HAZ] at HAND
  have hbx := below_alloc W8 (.cells #[.slice ap Ta cp, .slice aq Tb cq] 22)
  have HBX := hide hbx
  clear hbx
  go_wp2_with fail
  refine (unhide HAND).mono ?_
  clear HAND HP8 HQ8
  rintro e W9 ⟨vx, rfl, hrx, hb9⟩
  have hb9' := belows' (unhide HBX) hb9
  have HB9 := hide (belows' (unhide HB8) hb9')
  have HA9 := hide ((unhide HA8).below hb9')
  have HC9 := hide ((unhide HC8).below hb9')
  have HX9 := hide hrx
  obtain ⟨ax, cx, hvx, _⟩ := hrx
  subst hvx
  clear hb9 hb9' HB8 HA8 HC8 HBX
  have HAND := hide (and_any _ [a, b] _ (rowRR_two (unhide HA9) (unhide HC9)) (neat_some _ (Nat.le_refl _)))
  rw [unhide HAZ] at HAND
  have hbx := below_alloc W9 (.cells #[.slice aa Ta ca, .slice ab Tb cb] 22)
  have HBX := hide hbx
  clear hbx
  go_wp2_with fail
  refine (unhide HAND).mono ?_
  clear HAND
  rintro e W10 ⟨vy, rfl, hry, hb10⟩
  have hb10' := belows' (unhide HBX) hb10
  have HB10 := hide (belows' (unhide HB9) hb10')
  have HX10 := hide ((unhide HX9).below hb10')
  have HY10 := hide hry
  obtain ⟨ay, cy, hvy, _⟩ := hry
  subst hvy
  clear hb10 hb10' HB9 HA9 HC9 HBX HX9
  go_wp2_with fail
  refine (unhide HHA _).mono ?_
  clear HHA
  rintro e W11 ⟨rfl, hb11⟩
  have HB11 := hide (belows' (unhide HB10) hb11)
  have HX11 := hide ((unhide HX10).below hb11)
  have HY11 := hide ((unhide HY10).below hb11)
  clear hb11 HB10 HX10 HY10
  go_wp2_with fail
  refine (unhide HHB _).mono ?_
  clear HHB
  rintro e W12 ⟨rfl, hb12⟩
  have HB12 := hide (belows' (unhide HB11) hb12)
  have HX12 := hide ((unhide HX11).below hb12)
  have HY12 := hide ((unhide HY11).below hb12)
  clear hb12 HB11 HX11 HY11
  have HMEM : Hid (decide (n ∈ pickL a b true) = (decide (n ∈ a) && decide (n ∈ b))) := hide (by
    by_cases h1 : n ∈ a <;> by_cases h2 : n ∈ b <;> simp [pick_mem, h1, h2])
  have hpl : (pickL a b true).length ≤ 9223372036854775807 := (by obtain ⟨_, _, _, h9, _⟩ := unhide HX12; exact h9)
  generalize pickL a b true = X at HX12 HY12 HMEM hpl ⊢
  generalize decide (n ∈ a) = ba at HMEM ⊢
  generalize decide (n ∈ b) = bb at HMEM ⊢
  obtain ⟨M, hM⟩ : ∃ M, M = X.length := ⟨_, rfl⟩
  rw [← hM] at HX12 HY12 hpl ⊢
  have HML := hide hM
  clear hM
  go_wp2
  go_loopw [31, 33, 137] (fun y _ z wr => ∃ k : Nat, z = .int .i64 k ∧ k ≤ M ∧ y = .bool (decide (n ∈ X.take k)) ∧ wr = W12) (fun _ _ z _ => M - (intOf z).toNat)
  case atStart => exact ⟨0, rfl, Nat.zero_le _, by simp, rfl⟩
  case round =>
    obtain ⟨k, rfl, hk, rfl, hw12⟩ := hrel
    subst hw12
    by_cases hlt : k < M
    · have hlt1 : (k : Int) < (M : Int) := by omega
      have hkl : k < X.length := by have := unhide HML; omega
      obtain ⟨g, off, cg, hv1, hblt, hcell⟩ := RowG.at cells32_len (unhide HX12) (j := k) hkl
      injection hv1 with e1 e2 e3
      subst e1
      have c0 := hcell 0 (by omega)
      simp only [cells32, List.getElem?_cons_zero, Nat.add_zero, Nat.mul_one] at c0
      have HT := hide (take_mem hkl n)
      clear e2 e3 hcell
      generalize X[k] = x at c0 HT
      generalize decide (n ∈ X.take k) = bk at HT ⊢
      cases bk with
      | true =>
        go_wp2
        exact ⟨⟨k + 1, by go_num, by omega, by rw [unhide HT]; simp⟩, by simp [intOf]; omega⟩
      | false =>
        go_wp2
        exact ⟨⟨k + 1, by go_num, by omega, by rw [unhide HT]; simp⟩, by simp [intOf]; omega⟩
    · have hlt1 : ¬ (k : Int) < (M : Int) := by omega
      have hkM : X.take k = X := List.take_of_length_le (by have := unhide HML; omega)
      rw [hkM, unhide HMEM]
      have HSM := hide (sameT_any _ _ X X wr (unhide HX12) (unhide HY12))
      rw [decide_eq_true rfl] at HSM
      clear hkM hk hlt
      go_wp2_with fail
      refine (unhide HSM).mono ?_
      rintro e w9 ⟨rfl, hb9⟩
      have HBF := hide (belows' (unhide HB12) hb9)
      clear hb9 HSM HMEM
      cases ba <;> cases bb
      all_goals
        go_wp2
        go_ret
        exact ⟨by simp, unhide HBF⟩
end Go.Proofs.Ytfjjigcghhohkaa
