/-
  What missiveref28.Next does, over this seat's program.
-/
import Derived.Test.YtafegjbhaofgiaaDoorLxg
import Derived.Test.YtafegjbhaofgiaaDoorLxv
import Derived.Test.YtafegjbhaofgiaaDoorLxw
set_option linter.unusedVariables false
set_option linter.unusedSimpArgs false
namespace Go.Proofs.YtafegjbhaofgiaaDoor
open Go.RowKit Go.Proofs.Lx

/-- How many bytes a text has. -/
def strSize (v : Value) : Nat := match v with
  | .string s => s.size
  | _ => 0
theorem drop_cut {D l0 more : List UInt8} {k : Nat} (h : cutB 10 (D.drop k) = some (l0, more)) : D.drop (k + l0.length + 1) = more ∧ (D.drop k).take l0.length = l0 := by
  obtain ⟨hr, _⟩ := cutB_some h
  constructor
  · rw [show k + l0.length + 1 = k + (l0.length + 1) by omega, ← List.drop_drop, hr, List.drop_append, List.drop_of_length_le (by omega), show l0.length + 1 - l0.length = 1 by omega]; rfl
  · rw [hr, List.take_left]

set_option maxHeartbeats 1000000 in
set_option maxRecDepth 100000 in
theorem refNext_any (s : ByteArray) (w : World) (hs : s.size ≤ 4294967296) :
    Calls Tryd.prog 9 #[.string s] w fun e w' => e = .returned (nxV s.data.toList) ∧ Below w.heap.size w w' := by
  have HSZ := hide (sizeL s)
  go_enter Tryd.func9, Tryd.ntmps9
  go_wp2
  go_loopw [5, 6, 7, 8, 9, 10, 11, 12] (fun zq zm zr _ _ _ _ _ wr => ∃ (k q m : Nat) (R : ByteArray), zq = .int .i64 q ∧ zm = .int .i64 m ∧ zr = .string R ∧ k + R.size = s.size ∧ q ≤ 8192 ∧ m ≤ 16 ∧ Hid (R.data.toList = s.data.toList.drop k) ∧ Hid (NxI s.data.toList k q m) ∧ Hid (Below w.heap.size w wr)) (fun _ _ zr _ _ _ _ _ _ => strSize zr)
  case atStart => exact ⟨0, 0, 0, s, rfl, rfl, rfl, by omega, by omega, by omega, hide (by simp), hide ⟨s.data.toList.length + 1, by simp, by simp [nextL]⟩, hide (Below.refl _ _)⟩
  case round =>
    obtain ⟨k, q, m, R, rfl, rfl, rfl, hk, hq, hm, HR, HI, HB⟩ := hrel
    have HLI := hide (fun W => refLine_any R W (by omega))
    have hdl : (s.data.toList.drop k).length = R.size := by rw [← unhide HR, sizeL]
    rw [unhide HR] at HLI
    cases hc : cutB 10 (s.data.toList.drop k) with
    | none =>
      rw [hc] at HLI
      simp only [linV] at HLI
      have hF := (unhide HI).open_ hc
      rw [hdl] at hF
      clear hc HI HR hdl
      by_cases hlong : 8192 < q + R.size
      · have hl1 : 8192 - (q : Int) < (R.size : Int) := by omega
        rw [if_pos hlong] at hF
        have HF := hide (nxV_no hF (by omega))
        clear hF hlong
        go_wp2_with fail
        refine (unhide HLI _).mono ?_
        rintro e w1 ⟨rfl, b1⟩
        have HB1 := hide ((unhide HB).trans (b1.mono (unhide HB).size))
        clear b1
        go_wp2
        go_ret3
        exact ⟨by rw [unhide HF]; rfl, unhide HB1⟩
      · have hl1 : ¬ 8192 - (q : Int) < (R.size : Int) := by omega
        rw [if_neg hlong] at hF
        have HF := hide (nxV_no hF (by omega))
        clear hF hlong
        go_wp2_with fail
        refine (unhide HLI _).mono ?_
        rintro e w1 ⟨rfl, b1⟩
        have HB1 := hide ((unhide HB).trans (b1.mono (unhide HB).size))
        clear b1
        go_wp2
        go_ret3
        exact ⟨by rw [unhide HF]; rfl, unhide HB1⟩
    | some p =>
      obtain ⟨l0, more⟩ := p
      rw [hc] at HLI
      simp only [linV] at HLI
      obtain ⟨hi2, _⟩ := cutB_some hc
      obtain ⟨hd1, hd2⟩ := drop_cut hc
      obtain ⟨z, hz⟩ : ∃ z, z = l0.length := ⟨_, rfl⟩
      have hml : R.size = z + 1 + more.length := by rw [← hdl, hi2, hz]; simp; omega
      have htl := trimE_len l0 13
      obtain ⟨D, hD⟩ : ∃ D, D = bts (trimE l0 13) := ⟨_, rfl⟩
      have hDz : D.size = (trimE l0 13).length := by rw [hD, size_bts]
      have hDl : D.data.toList = trimE l0 13 := by rw [hD, toList_bts]
      obtain ⟨M, hM⟩ : ∃ M, M = bts more := ⟨_, rfl⟩
      have hMz : M.size = more.length := by rw [hM, size_bts]
      have hMl : M.data.toList = more := by rw [hM, toList_bts]
      rw [← hD, ← hM] at HLI
      have HA := hide (fun W => refAnn_any D W (by omega))
      rw [hDl] at HA
      have hDle : D.size ≤ z := by omega
      have I1 := hide (fun ha => (unhide HI).end_ hm hc ha)
      have I2 := hide (fun b ha hb => (unhide HI).long (b := b) hc ha hb)
      have I3 := hide (fun b ha hb hs => (unhide HI).short (b := b) hc ha hb hs)
      have I4 := hide (fun b ha hb hs => (unhide HI).next (b := b) hc ha hb hs)
      rw [← hDz, ← hz] at I1
      rw [← hDz] at I2
      rw [← hDz, ← hMz] at I3
      rw [← hDz, ← hMz, ← hz] at I4
      rw [← hz] at hd1
      have hsk : R.size = z + 1 + M.size := by omega
      have HLT := hide (annR_lt (l := trimE l0 13))
      have hx1 : bts (s.data.toList.drop (k + z + 1)) = M := by rw [hd1, hM]
      have HM := hide (show M.data.toList = s.data.toList.drop (k + z + 1) by rw [hMl, hd1])
      have HX1 := hide hx1
      clear HI hc hi2 hd1 hd2 hz htl hD hDl hDz hM hMz hMl hml hdl hx1 HR
      generalize annL (trimE l0 13) = o at HA I1 I2 I3 I4 HLT
      by_cases hlong : 8192 < q + D.size
      · have hl1 : 8192 - (q : Int) < (D.size : Int) := by omega
        have HF : Hid (nxV s.data.toList = .tuple #[.string ⟨#[]⟩, .string ⟨#[]⟩, .int .i64 15]) := hide (by
          cases o with
          | none => exact nxV_no (e := 15) ((unhide I1 rfl).trans (if_pos hlong)) (by omega)
          | some b => exact nxV_no (e := 15) (unhide I2 b rfl (Or.inl hlong)) (by omega))
        have HSK := hide hsk
        clear I1 I2 I3 I4 HLT hlong HA hsk HM HX1
        go_wp2_with fail
        refine (unhide HLI _).mono ?_
        rintro e w1 ⟨rfl, b1⟩
        have HB1 := hide ((unhide HB).trans (b1.mono (unhide HB).size))
        clear b1
        go_wp2
        go_ret3
        exact ⟨by rw [unhide HF]; rfl, unhide HB1⟩
      · have hl1 : ¬ 8192 - (q : Int) < (D.size : Int) := by omega
        cases o with
        | none =>
          have hF := nxV_ok ((unhide I1 rfl).trans (if_neg hlong))
          rw [unhide HX1, show bts (s.data.toList.take (k + D.size)) = s.extract 0 (k + D.size) from ext_list (by rw [toList_bts, toList_upto])] at hF
          have HF := hide hF
          have hsl2 := fun W => slice_upto s ((s.size : Int) - (R.size : Int) + (D.size : Int)) (k + D.size) (by omega) (by omega) W
          have hR : R.size ≤ s.size := by omega
          have hRD : (s.size : Int) - (R.size : Int) + (D.size : Int) ≤ 4294967296 := by omega
          have hRD0 : 0 ≤ (s.size : Int) - (R.size : Int) := by omega
          have HSK := hide hsk
          have HKK := hide hk
          clear I1 I2 I3 I4 HLT hlong hF hsk HM HX1 hk
          simp only [annV] at HA
          go_wp2_with fail
          refine (unhide HLI _).mono ?_
          rintro e w1 ⟨rfl, b1⟩
          have HB1 := hide ((unhide HB).trans (b1.mono (unhide HB).size))
          clear b1
          go_wp2_with fail
          refine (unhide HA _).mono ?_
          rintro e w2 ⟨rfl, h2⟩
          subst h2
          go_wp2
          go_ret3
          exact ⟨by rw [unhide HF]; rfl, unhide HB1⟩
        | some b =>
          have hb9 := unhide HLT b rfl
          simp only [annV] at HA
          have HSK := hide hsk
          by_cases hbm : 65536 < b
          · have hbm' : 65536 < (b : Int) := by omega
            have HF := hide (nxV_no (unhide I2 b rfl (Or.inr (Or.inl hbm))) (by omega))
            clear I1 I2 I3 I4 HLT hlong hsk HM HX1
            go_wp2_with fail
            refine (unhide HLI _).mono ?_
            rintro e w1 ⟨rfl, b1⟩
            have HB1 := hide ((unhide HB).trans (b1.mono (unhide HB).size))
            clear b1
            go_wp2_with fail
            refine (unhide HA _).mono ?_
            rintro e w2 ⟨rfl, h2⟩
            subst h2
            go_wp2
            go_ret3
            exact ⟨by rw [unhide HF]; rfl, unhide HB1⟩
          · have hbm' : ¬ 65536 < (b : Int) := by omega
            by_cases h16 : 16 < m + 1
            · have h16' : 16 < (m : Int) + 1 := by omega
              have HF := hide (nxV_no (unhide I2 b rfl (Or.inr (Or.inr h16))) (by omega))
              clear I1 I2 I3 I4 HLT hlong hsk HM HX1
              go_wp2_with fail
              refine (unhide HLI _).mono ?_
              rintro e w1 ⟨rfl, b1⟩
              have HB1 := hide ((unhide HB).trans (b1.mono (unhide HB).size))
              clear b1
              go_wp2_with fail
              refine (unhide HA _).mono ?_
              rintro e w2 ⟨rfl, h2⟩
              subst h2
              go_wp2
              go_ret3
              exact ⟨by rw [unhide HF]; rfl, unhide HB1⟩
            · have h16' : ¬ 16 < (m : Int) + 1 := by omega
              have hnb : ¬ (8192 < q + D.size ∨ 65536 < b ∨ 16 < m + 1) := by omega
              by_cases hsh : M.size < b
              · have hsh' : (M.size : Int) < (b : Int) := by omega
                have HF := hide (nxV_no (unhide I3 b rfl hnb hsh) (by omega))
                clear I1 I2 I3 I4 HLT hlong hnb hsk HM HX1
                go_wp2_with fail
                refine (unhide HLI _).mono ?_
                rintro e w1 ⟨rfl, b1⟩
                have HB1 := hide ((unhide HB).trans (b1.mono (unhide HB).size))
                clear b1
                go_wp2_with fail
                refine (unhide HA _).mono ?_
                rintro e w2 ⟨rfl, h2⟩
                subst h2
                go_wp2
                go_ret3
                exact ⟨by rw [unhide HF]; rfl, unhide HB1⟩
              · have hsh' : ¬ (M.size : Int) < (b : Int) := by omega
                have HN := hide (unhide I4 b rfl hnb hsh)
                have HR2 : Hid ((M.extract b M.size).data.toList = s.data.toList.drop (k + z + 1 + b)) := hide (by rw [toList_from, unhide HM, List.drop_drop])
                have HRZ : Hid (k + z + 1 + b + (M.extract b M.size).size = s.size ∧ (M.extract b M.size).size < R.size) := hide (by rw [ByteArray.size_extract]; omega)
                clear I1 I2 I3 I4 HLT hlong hnb hsk HM HX1
                go_wp2_with fail
                refine (unhide HLI _).mono ?_
                rintro e w1 ⟨rfl, b1⟩
                have HB1 := hide ((unhide HB).trans (b1.mono (unhide HB).size))
                clear b1
                go_wp2_with fail
                refine (unhide HA _).mono ?_
                rintro e w2 ⟨rfl, h2⟩
                subst h2
                go_wp2
                exact ⟨⟨k + z + 1 + b, q + D.size, m + 1, _, by go_num, by go_num, rfl, (unhide HRZ).1, by omega, by omega, HR2, HN, HB1⟩, by simp only [strSize]; exact (unhide HRZ).2⟩
end Go.Proofs.YtafegjbhaofgiaaDoor
