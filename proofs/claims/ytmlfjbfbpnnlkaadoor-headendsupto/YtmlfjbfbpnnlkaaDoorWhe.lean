/-
  The walk of missivelaw08.HeadEnds, over this seat's program.
-/
import Derived.Test.YtmlfjbfbpnnlkaaDoorWhb
import Derived.Test.YtmlfjbfbpnnlkaaDoorRow
set_option linter.unusedVariables false
namespace Go.Proofs.YtmlfjbfbpnnlkaaDoor
open Go.RowKit Go.Proofs.Hed

/-- A carriage return ahead of a line feed. -/
def crB (c : UInt8) : List UInt8 := if c = 10 then [13, 10] else [c]
def crL (l : List UInt8) : List UInt8 := l.flatMap crB
theorem crL_append (a b : List UInt8) : crL (a ++ b) = crL a ++ crL b := by simp [crL]
theorem crL_none : ∀ {a : List UInt8}, (∀ c ∈ a, c ≠ 10) → crL a = a
  | [], _ => rfl
  | c :: r, h => by
    have h1 := h c (by simp)
    have h2 := crL_none (a := r) (fun d hd => h d (by simp [hd]))
    unfold crL at *
    rw [List.flatMap_cons, h2, crB, if_neg h1]
    rfl
theorem crL_field (f : List UInt8 × List UInt8) (h : okF f = true) : crL (fieldL [10] f) = fieldL [13, 10] f := by
  simp only [okF, Bool.and_eq_true] at h
  obtain ⟨hn, hv⟩ := h
  have h1 := (name_facts hn).2
  have h2 := val_facts hv
  unfold fieldL
  rw [crL_append, crL_append, crL_append, crL_none (a := f.1) (fun c hc => (h1 c hc).1)]
  have e1 : crL [58] = [58] := rfl
  have e2 : crL [10] = [13, 10] := rfl
  rw [e1, e2]
  congr 2
  split
  · rfl
  · exact crL_none (fun c hc => by
      rcases List.mem_cons.1 hc with rfl | hc
      · decide
      · exact (h2 c hc).1)
theorem crL_text : ∀ (L : List (List UInt8 × List UInt8)), L.all okF = true → crL (textL [10] L) = textL [13, 10] L
  | [], _ => rfl
  | f :: r, h => by
    simp only [List.all_cons, Bool.and_eq_true] at h
    have ih := crL_text r h.2
    unfold textL at *
    rw [List.map_cons, List.flatten_cons, List.append_assoc, crL_append, ih, crL_field f h.1]
    simp
theorem crL_len (l : List UInt8) : (crL l).length ≤ 2 * l.length := by
  induction l with
  | nil => simp [crL]
  | cons c r ih =>
    unfold crL at *
    rw [List.flatMap_cons, List.length_append, List.length_cons]
    have : (crB c).length ≤ 2 := by unfold crB; split <;> simp
    omega
theorem crL_snoc (l : List UInt8) (c : UInt8) : crL (l ++ [c]) = crL l ++ crB c := by simp [crL]

theorem u8Info : (Tryd.prog.info? 5).map (fun i => (i.zero, i.size, i.bytes)) = some (some (.int .u8 0), 1, 1) := by kernel_rfl
theorem one_cell (w : World) (v : Value) (t : TypeId) : ∀ j u, [v][j]? = some u → (w.alloc (.cells #[v] t)).cell? (Addr.add ⟨w.heap.size, 0, none⟩ j) = some u := one_str w v t

set_option maxHeartbeats 2000000 in
set_option maxRecDepth 100000 in
theorem headEnds_walk (v : Value) (l : List Fld) (b : ByteArray) (w : World) (h : RowF w v l) (hsum : sumF l + b.size ≤ 1048576) :
    Calls Tryd.prog 6 #[v, .string b] w fun e w' => e = .returned (.bool true) ∧ Below w.heap.size w w' := by
  obtain ⟨i0, hi, hz0, hz1, hz2⟩ := info_parts u8Info
  have HL := hide (lives_any w)
  have HR := hide h
  have HSUM := hide hsum
  obtain ⟨ad, cap, hv, _⟩ := h
  subst hv
  have hbn : b.size ≤ 1048576 := by omega
  clear hsum
  go_enter Tryd.func6, Tryd.ntmps6
  go_wp2_with fail
  refine (unhide HL).mono ?_
  clear HL
  rintro e W1 ⟨rfl, hb1⟩
  have HB1 := hide hb1
  have HR1 := hide ((unhide HR).below hb1)
  clear hb1 HR
  have HW := hide (write_any _ l W1 (unhide HR1))
  obtain ⟨t, k, htk⟩ : ∃ t k, writeR (l.map lst) = (t, k) := ⟨_, _, rfl⟩
  rw [htk] at HW
  obtain ⟨X, hX⟩ : ∃ X : ByteArray, t = X.data.toList := ⟨bts t, (toList_bts t).symm⟩
  subst hX
  simp only [bts_toList] at HW
  have HTK := hide htk
  clear htk
  go_wp2_with fail
  refine (unhide HW).mono ?_
  clear HW
  rintro e W2 ⟨rfl, hb2⟩
  have HB2 := hide (belows' (unhide HB1) hb2)
  have HR2 := hide ((unhide HR1).below hb2)
  clear hb2 HB1 HR1
  by_cases hk : k = 0
  · obtain ⟨ok1, ok2, ok3⟩ := write_ok (L := l.map lst) (by rw [unhide HTK]; exact hk)
    rw [unhide HTK] at ok3
    simp only at ok3
    have htl := flat_le l
    rw [← ok3, sizeL] at htl
    have hpt := parse_text (e := [13, 10]) (Or.inr rfl) (l.map lst) ok1 b.data.toList
    have hcr : crL X.data.toList = textL [13, 10] (l.map lst) := by rw [ok3]; exact crL_text _ ok1
    rw [← hcr] at hpt
    have hcl := crL_len X.data.toList
    rw [sizeL] at hcl
    have hcat : bts (crL X.data.toList ++ b.data.toList) = bts (crL X.data.toList) ++ b := by
      apply ext_list
      rw [toList_bts]
      simp [bts]
    have htl2 : X.size ≤ 1048577 := by have := unhide HSUM; omega
    have HPA := hide (fun W => parse_any (bts (crL X.data.toList) ++ b) W (by rw [← hcat, size_bts, List.length_append, sizeL]; omega))
    rw [← hcat, toList_bts, hpt, hcat] at HPA
    have HOK := hide ok2
    have HCL := hide hcl
    subst hk
    clear ok1 ok2 ok3 htl hpt hcat hcr hcl
    go_wp2
    go_loopw [7, 8] (fun x z wr => ∃ k : Nat, z = .int .i64 k ∧ k ≤ X.size ∧ Hid (wr.ownsRow W2.heap.size 5 1 x (crL (X.data.toList.take k)).length (Lib.byteCells (crL (X.data.toList.take k)))) ∧ Hid (Below W2.heap.size W2 wr)) (fun _ z _ => X.size - (intOf z).toNat)
    case atStart => exact ⟨0, rfl, Nat.zero_le _, hide ⟨rfl, Or.inl ⟨rfl, rfl⟩⟩, hide (Below.refl _ _)⟩
    case round =>
      obtain ⟨k, rfl, hk, HO, HB⟩ := hrel
      by_cases hlt : k < X.size
      · have hlt1 : (k : Int) < (X.size : Int) := by omega
        have hown := unhide HO
        have hzr := (unhide HB).size
        have hlen0 := crL_len (X.data.toList.take k)
        have htk0 : (X.data.toList.take k).length = k := by rw [List.length_take, sizeL]; omega
        rw [htk0] at hlen0
        have hnx : crL (X.data.toList.take (k + 1)) = crL (X.data.toList.take k) ++ crB X[k] := by rw [take_byte X k hlt, crL_snoc]
        have HNX := hide hnx
        have hcb := X[k].toNat_lt
        generalize crL (X.data.toList.take k) = A at hown hlen0 HNX
        clear hnx htk0 HO
        by_cases h10 : X[k] = 10
        · have h10' : ((X[k].toNat : Int) == 10) = true := by rw [h10]; rfl
          rw [h10] at HNX
          have HV10 : Hid ((X[k].toNat : Int) = 10) := hide (by rw [h10]; rfl)
          clear h10
          go_wp2_with (at_builtin; refine wpList_append_own _ rfl _ _ 38 rfl W2.heap.size 5 i0 (.int .u8 0) 1 1 Tryd.underlying38 hi hz0 hz1 hz2 rfl (by decide) _ _ _ rfl (hown.alloc _) ⟨wr.heap.size, 0, none⟩ 1 1 [.int .u8 13] rfl rfl (one_cell _ _ _) (by intro u hu; simp at hu; subst hu; rfl) (by unfold maxLen; omega) (by omega) (by simp; omega) ?_)
          intro v1 w1 hown' hgrow _
          have hb1 := own_grown hown hgrow (unhide HB) hzr
          have hown1 := hown'
          have hz1' := hb1.size
          clear hown hgrow hown'
          have hown := hown1
          clear hown1
          go_wp2_with (at_builtin; refine wpList_append_own _ rfl _ _ 38 rfl W2.heap.size 5 i0 (.int .u8 0) 1 1 Tryd.underlying38 hi hz0 hz1 hz2 rfl (by decide) _ _ _ rfl (hown.alloc _) ⟨w1.heap.size, 0, none⟩ 1 1 [.int .u8 (X[k].toNat : Int)] rfl rfl (one_cell _ _ _) (by intro u hu; simp at hu; subst hu; rfl) (by unfold maxLen; omega) (by omega) (by simp; omega) ?_)
          intro v2 w2 hown' hgrow _
          have hb2 := own_grown hown hgrow hb1 hz1'
          have HO2 := hide hown'
          have HB2' := hide hb2
          clear hown hgrow hown' hb1 hb2
          go_wp2
          refine ⟨⟨k + 1, by go_num, by omega, ?_, HB2'⟩, by simp [intOf]; omega⟩
          rw [unhide HNX]
          have h7 := unhide HO2
          rw [unhide HV10] at h7
          exact hide (by simpa [crB, Lib.byteCells] using h7)
        · have h10' : ((X[k].toNat : Int) == 10) = false := by
            rw [beq_eq_false_iff_ne]
            intro e
            apply h10
            apply UInt8.toNat_inj.1
            have : (10 : UInt8).toNat = 10 := rfl
            omega
          have hcr1 : crB X[k] = [X[k]] := by unfold crB; rw [if_neg h10]
          rw [hcr1] at HNX
          clear h10 hcr1
          go_wp2_with (at_builtin; refine wpList_append_own _ rfl _ _ 38 rfl W2.heap.size 5 i0 (.int .u8 0) 1 1 Tryd.underlying38 hi hz0 hz1 hz2 rfl (by decide) _ _ _ rfl (hown.alloc _) ⟨wr.heap.size, 0, none⟩ 1 1 [.int .u8 (X[k].toNat : Int)] rfl rfl (one_cell _ _ _) (by intro u hu; simp at hu; subst hu; rfl) (by unfold maxLen; omega) (by omega) (by simp; omega) ?_)
          intro v1 w1 hown' hgrow _
          have hb1 := own_grown hown hgrow (unhide HB) hzr
          have HO2 := hide hown'
          have HB2' := hide hb1
          clear hown hgrow hown' hb1
          go_wp2
          refine ⟨⟨k + 1, by go_num, by omega, ?_, HB2'⟩, by simp [intOf]; omega⟩
          rw [unhide HNX]
          have h7 := unhide HO2
          exact hide (by simpa [Lib.byteCells] using h7)
      · have hlt1 : ¬ (k : Int) < (X.size : Int) := by omega
        obtain rfl : k = X.size := by omega
        rw [List.take_of_length_le (by rw [sizeL]; omega)] at HO
        have hcv := own_string (unhide HO)
        have hlv : ∃ aa cc, u7 = .slice aa (crL X.data.toList).length cc := by
          rcases (unhide HO).2 with ⟨hv, h0⟩ | ⟨g, cap, cur, hv, _⟩
          · exact ⟨none, 0, by rw [hv, h0]⟩
          · exact ⟨_, _, hv⟩
        obtain ⟨aa, cc, rfl⟩ := hlv
        have hcs : (bts (crL X.data.toList)).size = (crL X.data.toList).length := size_bts _
        have hcl := unhide HCL
        have HB3 := hide (belows' (unhide HB2) (unhide HB))
        have HR3 := hide ((unhide HR2).below (unhide HB))
        have hcn : (crL X.data.toList).length ≤ 2097154 := by omega
        obtain ⟨C, hC⟩ : ∃ C, C = bts (crL X.data.toList) := ⟨_, rfl⟩
        rw [← hC] at hcv HPA hcs
        clear hC HO HB HB2 HR2 hcl
        go_wp2_with fail
        refine (unhide HPA _).mono ?_
        clear HPA
        rintro e W4 ⟨vm, m, rfl, hrm, hm, hb4⟩
        have hml : m = l := back_flds (by rw [hm, List.take_of_length_le (unhide HOK)])
        subst hml
        have HB4 := hide (belows' (unhide HB3) hb4)
        have HSM := hide (sameF_any vm _ m m W4 hrm ((unhide HR3).below hb4))
        rw [decide_eq_true rfl] at HSM
        obtain ⟨am, cm, hvm, _⟩ := hrm
        subst hvm
        clear hb4 hm HB3 HR3
        go_wp2_with fail
        refine (unhide HSM).mono ?_
        clear HSM
        rintro e W5 ⟨rfl, hb5⟩
        have HB5 := hide (belows' (unhide HB4) hb5)
        clear hb5 HB4
        go_wp2
        go_ret
        exact ⟨by simp, unhide HB5⟩
  · have hk' : (k == 0) = false := by rw [beq_eq_false_iff_ne]; exact hk
    have ht := write_not (L := l.map lst) (by rw [unhide HTK]; exact hk)
    rw [unhide HTK] at ht
    simp only at ht
    have hemp : X.toList.isEmpty = true := by rw [ByteArray.toList_eq, ht]; rfl
    clear ht
    go_wp2
    go_ret
    exact ⟨by simp, unhide HB2⟩

end Go.Proofs.YtmlfjbfbpnnlkaaDoor
