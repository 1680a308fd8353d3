/-
  Mine: what missiveref02.four, Frame and Next answer: the document's own four bytes of a sum, a record's frame, the next record.
-/
import Derived.Test.YtekcbkaanlngdabDoorRpt
import Derived.Test.YtekcbkaanlngdabDoorNxt
import Derived.Test.YtekcbkaanlngdabDoorSsm
import Derived.Deep.Cut
set_option linter.unusedVariables false
namespace Go.Proofs.YtekcbkaanlngdabDoor
open Go.RowKit Go.Proofs.Num Go.Proofs.Crc Go.Proofs.Frm

set_option maxHeartbeats 1000000 in
set_option maxRecDepth 100000 in
theorem four_any (n : Nat) (w : World) (hn : n < 4294967296) :
    Calls Tryd.prog 26 #[.int .u32 n] w fun e w' => e = .returned (.string (bts (be4 n))) ∧ Below w.heap.size w w' := by
  have hc : ∀ j (hj : j < (be4 n).length), (w.alloc (.cells #[.int .u8 ((n : Int) / 16777216), .int .u8 ((n : Int) / 65536 % 256), .int .u8 ((n : Int) / 256 % 256), .int .u8 ((n : Int) % 256)] 5)).cell? (Addr.add ⟨w.heap.size, 0, none⟩ j) = some (.int .u8 ((be4 n)[j].toNat : Int)) := by
    intro j hj
    have hj4 : j < 4 := hj
    have hadd : Addr.add ⟨w.heap.size, 0, none⟩ j = ⟨w.heap.size, j, none⟩ := by simp only [Addr.add, Nat.zero_add]; split <;> simp_all
    rw [hadd]
    have := World.cell?_alloc_mark w #[.int .u8 ((n : Int) / 16777216), .int .u8 ((n : Int) / 65536 % 256), .int .u8 ((n : Int) / 256 % 256), .int .u8 ((n : Int) % 256)] 5 (0, 0) j
    refine this.trans ?_
    match j, hj4 with
    | 0, _ => simp [be4]; omega
    | 1, _ => simp [be4]
    | 2, _ => simp [be4]
    | 3, _ => simp [be4]
  have hcv := run_convert_bytes_back (P := Tryd.prog) _ 38 9 5 ⟨w.heap.size, 0, none⟩ 4 (be4 n) Tryd.underlying38 Tryd.underlying5 Tryd.underlying9 hc
  rw [be4_length, show ({ data := (be4 n).toArray } : ByteArray) = bts (be4 n) from rfl] at hcv
  clear hc
  go_enter Tryd.func26, Tryd.ntmps26
  go_wp2_with fail
  go_ret
  exact ⟨rfl, (Below.refl _ w).alloc (Nat.le_refl _) _⟩

set_option maxHeartbeats 1000000 in
set_option maxRecDepth 100000 in
theorem refFrame_any (s : ByteArray) (w : World) (hs : s.size ≤ 9223372036854775807) :
    Calls Tryd.prog 10 #[.string s] w fun e w' => e = .returned (.tuple #[.string (bts (frameR s.data.toList).1), .int .i64 (frameR s.data.toList).2]) ∧ Below w.heap.size w w' := by
  by_cases hbig : 1048576 < s.size
  · have hF : frameR s.data.toList = ([], 15) := by unfold frameR; rw [sizeL, if_pos hbig]
    have hI : (1048576 : Int) < (s.size : Int) := by omega
    rw [hF, show bts [] = { data := #[] } from rfl]
    clear hF
    go_enter Tryd.func10, Tryd.ntmps10
    go_wp2_with fail
    go_ret2
    exact ⟨rfl, Below.refl _ w⟩
  · have hF : frameR s.data.toList = (frameL s.data.toList, 0) := by unfold frameR; rw [sizeL, if_neg hbig]
    have hI : (s.size : Int) ≤ 1048576 := by omega
    have hlt := sumL_lt ((bts (putL s.size) ++ s).data.toList)
    have hE : bts (frameL s.data.toList) = bts (putL s.size) ++ bts (be4 (sumL ((bts (putL s.size) ++ s).data.toList))) ++ s := by
      apply ext_list
      rw [toList_bts, toList_add, toList_add, toList_bts, toList_bts, toList_add, toList_bts]
      unfold frameL
      rw [sizeL]
    have hp := putL_len10 (n := s.size) (by omega)
    have hsz : (bts (putL s.size) ++ s).size ≤ 9223372036854775807 := by rw [ByteArray.size_append, size_bts]; omega
    have e1 : (bts (putL s.size)).size + s.size ≤ 9223372036854775807 := by rw [size_bts]; omega
    have e2 : (bts (putL s.size)).size + (bts (be4 (sumL ((bts (putL s.size) ++ s).data.toList)))).size ≤ 9223372036854775807 := by rw [size_bts, size_bts, be4_length]; omega
    have e3 : (bts (putL s.size)).size + (bts (be4 (sumL ((bts (putL s.size) ++ s).data.toList)))).size + s.size ≤ 9223372036854775807 := by rw [size_bts, size_bts, be4_length]; omega
    rw [hF, hE]
    have HZ := hide hsz
    have HL := hide hlt
    clear hF hE hsz hlt hp
    obtain ⟨m, hm⟩ : ∃ m, m = sumL (bts (putL s.size) ++ s).data.toList := ⟨_, rfl⟩
    rw [← hm] at HL e2 e3 ⊢
    have HM := hide hm
    clear hm
    go_enter Tryd.func10, Tryd.ntmps10
    go_wp2_with fail
    refine (refPut_any s.size _ (by omega)).mono ?_
    rintro e w1 ⟨rfl, b1⟩
    go_wp2_with fail
    refine (refSum_any _ _ (unhide HZ)).mono ?_
    rintro e w2 ⟨rfl, rfl⟩
    rw [← unhide HM]
    go_wp2_with fail
    refine (four_any m _ (unhide HL)).mono ?_
    rintro e w3 ⟨rfl, b3⟩
    go_wp2_with fail
    go_ret2
    exact ⟨rfl, belows' b1 b3⟩

/-- What Next answers: the record, what is behind it, the error's number. -/
def nextT (s : ByteArray) : ByteArray × ByteArray × Nat :=
  match findR s.data.toList with
  | .error c => ({ data := #[] }, { data := #[] }, c)
  | .ok (a, b) => (s.extract a b, s.extract b s.size, 0)

theorem next_any (s : ByteArray) (w : World) (ht : Tab w) (hs : s.size ≤ 281474976710656) :
    Calls Tryd.prog 11 #[.string s] w fun e w' => e = .returned (.tuple #[.string (nextT s).1, .string (nextT s).2.1, .int .i64 (nextT s).2.2]) ∧ Below w.heap.size w w' := by
  unfold nextT
  rcases h : findR s.data.toList with c | ⟨a, b⟩
  · exact next_err s c w ht hs h
  · exact next_ok s a b w ht hs h

theorem nextT_err {s : ByteArray} {c : Nat} (h : findR s.data.toList = .error c) : nextT s = ({ data := #[] }, { data := #[] }, c) := by unfold nextT; rw [h]
theorem nextT_ok {s : ByteArray} {a b : Nat} (h : findR s.data.toList = .ok (a, b)) : nextT s = (s.extract a b, s.extract b s.size, 0) := by unfold nextT; rw [h]

set_option maxHeartbeats 1000000 in
set_option maxRecDepth 100000 in
theorem refNext_err (s : ByteArray) (c : Nat) (w : World) (hs : s.size ≤ 281474976710656) (hc : c ≠ 0) (h : (scanL s.data.toList).2.2 = c) :
    Calls Tryd.prog 12 #[.string s] w fun e w' => e = .returned (.tuple #[.string { data := #[] }, .string { data := #[] }, .int .i64 c]) ∧ Below w.heap.size w w' := by
  have HG := hide (refGet_any s w hs)
  rw [h] at HG
  have hne : ((c : Int) == 0) = false := by simp; omega
  clear h
  go_enter Tryd.func12, Tryd.ntmps12
  go_wp2_with fail
  refine (unhide HG).mono ?_
  rintro e w1 ⟨rfl, b1⟩
  go_wp2_with fail
  go_ret3
  exact ⟨rfl, b1⟩

set_option maxHeartbeats 1000000 in
set_option maxRecDepth 100000 in
theorem refNext_long (s R : ByteArray) (m : Nat) (w : World) (hG : Calls Tryd.prog 29 #[.string s] w fun e w' => e = .returned (.tuple #[.int .u64 m, .string R, .int .i64 0]) ∧ Below w.heap.size w w') (h : 1048576 < m) (h64 : m < 18446744073709551616) :
    Calls Tryd.prog 12 #[.string s] w fun e w' => e = .returned (.tuple #[.string { data := #[] }, .string { data := #[] }, .int .i64 15]) ∧ Below w.heap.size w w' := by
  have HG := hide hG
  clear hG
  have hI : (1048576 : Int) < (m : Int) := by omega
  go_enter Tryd.func12, Tryd.ntmps12
  go_wp2_with fail
  refine (unhide HG).mono ?_
  rintro e w1 ⟨rfl, b1⟩
  go_wp2_with fail
  go_ret3
  exact ⟨rfl, b1⟩

set_option maxHeartbeats 1000000 in
set_option maxRecDepth 100000 in
theorem refNext_short (s R : ByteArray) (m : Nat) (w : World) (hG : Calls Tryd.prog 29 #[.string s] w fun e w' => e = .returned (.tuple #[.int .u64 m, .string R, .int .i64 0]) ∧ Below w.heap.size w w') (h : m ≤ 1048576) (h2 : R.size < 4 + m) :
    Calls Tryd.prog 12 #[.string s] w fun e w' => e = .returned (.tuple #[.string { data := #[] }, .string { data := #[] }, .int .i64 5]) ∧ Below w.heap.size w w' := by
  have HG := hide hG
  clear hG
  have hI : (m : Int) ≤ 1048576 := by omega
  have hJ : (R.size : Int) < 4 + (m : Int) := by omega
  go_enter Tryd.func12, Tryd.ntmps12
  go_wp2_with fail
  refine (unhide HG).mono ?_
  rintro e w1 ⟨rfl, b1⟩
  go_wp2_with fail
  go_ret3
  exact ⟨rfl, b1⟩

set_option maxHeartbeats 1000000 in
set_option maxRecDepth 100000 in
theorem refNext_sum (s R : ByteArray) (m : Nat) (w : World) (hG : Calls Tryd.prog 29 #[.string s] w fun e w' => e = .returned (.tuple #[.int .u64 m, .string R, .int .i64 0]) ∧ Below w.heap.size w w') (h : m ≤ 1048576) (h2 : 4 + m ≤ R.size) (hR : R.size ≤ 281474976710656) :
    Calls Tryd.prog 12 #[.string s] w fun e w' => e = .returned (if bts (be4 (sumL ((bts (putL m) ++ R.extract 4 (4 + m)).data.toList))) = R.extract 0 4 then .tuple #[.string (R.extract 4 (4 + m)), .string (R.extract (4 + m) R.size), .int .i64 0] else .tuple #[.string { data := #[] }, .string { data := #[] }, .int .i64 6]) ∧ Below w.heap.size w w' := by
  have HG := hide hG
  clear hG
  have hI : (m : Int) ≤ 1048576 := by omega
  have hJ : 4 + (m : Int) ≤ (R.size : Int) := by omega
  have hp := putL_len10 (n := m) (by omega)
  have HL := hide (sumL_lt ((bts (putL m) ++ R.extract 4 (4 + m)).data.toList))
  have hx : (R.extract 4 (4 + m)).size = m := by rw [ByteArray.size_extract]; omega
  have HZ := hide (show (bts (putL m) ++ R.extract 4 (4 + m)).size ≤ 9223372036854775807 by rw [ByteArray.size_append, size_bts, hx]; omega)
  have e1 : (bts (putL m)).size + (R.extract 4 (4 + m)).size ≤ 9223372036854775807 := by rw [size_bts, hx]; omega
  clear hx hp
  obtain ⟨q, hq⟩ : ∃ q, q = sumL (bts (putL m) ++ R.extract 4 (4 + m)).data.toList := ⟨_, rfl⟩
  rw [← hq] at HL ⊢
  have HQ := hide hq
  clear hq
  have k1 : ∀ w : World, (Instr.slice 9 (.string R) (some (.int .i64 4)) (some (.int .i64 (4 + (m : Int)))) none).run Tryd.prog w = .ok (.string (R.extract 4 (4 + m))) w := by
    intro w
    have h := run_slice_string (P := Tryd.prog) w 9 R .i64 .i64 4 (4 + (m : Int)) Tryd.underlying9 (by omega) (by omega) (by omega)
    rwa [show (4 + (m : Int)).toNat = 4 + m by omega, show (4 : Int).toNat = 4 from rfl] at h
  have k2 : ∀ w : World, (Instr.slice 9 (.string R) none (some (.int .i64 4)) none).run Tryd.prog w = .ok (.string (R.extract 0 4)) w := by
    intro w
    have h := run_slice_string_h (P := Tryd.prog) w 9 R Tryd.underlying9 .i64 4 (by omega) (by omega)
    rwa [show (4 : Int).toNat = 4 from rfl] at h
  have k3 : ∀ w : World, (Instr.slice 9 (.string R) (some (.int .i64 (4 + (m : Int)))) none none).run Tryd.prog w = .ok (.string (R.extract (4 + m) R.size)) w := by
    intro w
    have h := run_slice_string_l (P := Tryd.prog) w 9 R Tryd.underlying9 .i64 (4 + (m : Int)) (by omega) (by omega)
    rwa [show (4 + (m : Int)).toNat = 4 + m by omega] at h
  obtain ⟨D, hD⟩ : ∃ D, D = R.extract 4 (4 + m) := ⟨_, rfl⟩
  rw [← hD] at HQ HZ e1 ⊢
  simp only [← hD] at k1
  clear hD
  by_cases he : bts (be4 q) = R.extract 0 4
  · have hbq : ((bts (be4 q)).toList == (R.extract 0 4).toList) = true := by rw [he]; simp
    rw [if_pos he]
    clear he
    go_enter Tryd.func12, Tryd.ntmps12
    go_wp2_with fail
    refine (unhide HG).mono ?_
    rintro e w1 ⟨rfl, b1⟩
    go_upto_region 9 with (fail)
    go_region_with (first | (go_at_call 25; refine (refPut_any m _ (by omega)).mono ?_; rintro e w2 ⟨rfl, b2⟩) | (go_at_call 15; refine (refSum_any _ _ (unhide HZ)).mono ?_; rintro e w3 ⟨rfl, rfl⟩; rw [← unhide HQ]) | (go_at_call 26; refine (four_any q _ (unhide HL)).mono ?_; rintro e w4 ⟨rfl, b4⟩))
    go_simp
    go_wp2_with fail
    have hp4 : (0 : Int) ≤ 4 + (m : Int) := by omega
    have hp5 : (4 + (m : Int)).toNat = 4 + m := by omega
    go_quiet (fail)
    go_simp
    go_wp2
    go_ret3
    exact ⟨rfl, belows' b1 (belows' (below_drew0 b2) (below_drewN b4 _))⟩
  · have hbq : ((bts (be4 q)).toList == (R.extract 0 4).toList) = false := by rw [beqS]; simpa using he
    rw [if_neg he]
    clear he
    go_enter Tryd.func12, Tryd.ntmps12
    go_wp2_with fail
    refine (unhide HG).mono ?_
    rintro e w1 ⟨rfl, b1⟩
    go_upto_region 9 with (fail)
    go_region_with (first | (go_at_call 25; refine (refPut_any m _ (by omega)).mono ?_; rintro e w2 ⟨rfl, b2⟩) | (go_at_call 15; refine (refSum_any _ _ (unhide HZ)).mono ?_; rintro e w3 ⟨rfl, rfl⟩; rw [← unhide HQ]) | (go_at_call 26; refine (four_any q _ (unhide HL)).mono ?_; rintro e w4 ⟨rfl, b4⟩))
    go_simp
    go_wp2_with fail
    go_ret3
    exact ⟨rfl, belows' b1 (belows' (below_drew0 b2) b4)⟩

theorem refNext_any (s : ByteArray) (w : World) (hs : s.size ≤ 281474976710656) :
    Calls Tryd.prog 12 #[.string s] w fun e w' => e = .returned (.tuple #[.string (nextT s).1, .string (nextT s).2.1, .int .i64 (nextT s).2.2]) ∧ Below w.heap.size w w' := by
  obtain ⟨m, k, c, hsc⟩ : ∃ m k c, scanL s.data.toList = (m, k, c) := ⟨_, _, _, rfl⟩
  obtain ⟨l1, l2, l3⟩ := scanL_le s.data.toList
  have hf : findR s.data.toList = findR s.data.toList := rfl
  conv at hf => rhs; unfold findR
  rw [hsc] at hf l1 l2 l3
  rw [sizeL] at hf l1
  by_cases hc : c = 0
  · subst hc
    have hG := refGet_any s w hs
    rw [hsc] at hG
    have hR : restOf s = s.extract k s.size := by unfold restOf; rw [hsc, if_pos rfl]
    rw [hR] at hG
    have hRs : (s.extract k s.size).size = s.size - k := by rw [ByteArray.size_extract]; omega
    have htk := take_ok hsc
    have hRl : (s.extract k s.size).data.toList = s.data.toList.drop k := toList_from s k
    rw [if_neg (by simp)] at hf
    simp only at hf
    by_cases h1 : 1048576 < m
    · rw [if_pos h1] at hf
      rw [nextT_err hf]
      exact refNext_long s _ m w hG h1 l3
    · rw [if_neg h1] at hf
      by_cases h2 : s.size < k + 4 + m
      · rw [if_pos h2] at hf
        rw [nextT_err hf]
        exact refNext_short s _ m w hG (by omega) (by rw [hRs]; omega)
      · rw [if_neg h2] at hf
        have h := refNext_sum s _ m w hG (by omega) (by rw [hRs]; omega) (by rw [hRs]; omega)
        obtain ⟨R, hRe⟩ : ∃ R, R = s.extract k s.size := ⟨_, rfl⟩
        rw [← hRe] at h hRs hRl
        have e0 : (R.extract 0 4).data.toList = (s.data.toList.drop k).take 4 := by rw [toList_upto, hRl]
        have e1 : (R.extract 4 (4 + m)).data.toList = (s.data.toList.drop (k + 4)).take m := by
          rw [toList_part, hRl, List.drop_drop, show 4 + m - 4 = m by omega]
        have e2 : (bts (putL m) ++ R.extract 4 (4 + m)).data.toList = s.data.toList.take k ++ (s.data.toList.drop (k + 4)).take m := by
          rw [toList_add, toList_bts, e1, htk]
        rw [e2] at h
        have hl4 : ((s.data.toList.drop k).take 4).length = 4 := by rw [List.length_take, List.length_drop, sizeL]; omega
        by_cases h3 : rd ((s.data.toList.drop k).take 4) = sumL (s.data.toList.take k ++ (s.data.toList.drop (k + 4)).take m)
        · rw [if_neg (by simpa using h3)] at hf
          rw [nextT_ok hf]
          rw [if_pos (by rw [← h3, be4_rd _ hl4]; apply ext_list; rw [toList_bts, e0])] at h
          have e3 : R.extract 4 (4 + m) = s.extract (k + 4) (k + 4 + m) := by
            apply ext_list; rw [e1, toList_part, show k + 4 + m - (k + 4) = m by omega]
          have e4 : R.extract (4 + m) R.size = s.extract (k + 4 + m) s.size := by
            apply ext_list; rw [toList_from, toList_from, hRl, List.drop_drop, Nat.add_assoc]
          rw [e3, e4] at h
          exact h
        · rw [if_pos h3] at hf
          rw [nextT_err hf]
          rw [if_neg (by
            intro he
            have := congrArg (fun x : ByteArray => rd x.data.toList) he
            simp only [toList_bts, e0] at this
            rw [rd_be4 _ (sumL_lt _)] at this
            exact h3 this.symm)] at h
          exact h
  · rw [if_pos (by simpa using hc)] at hf
    rw [nextT_err hf]
    exact refNext_err s c w hs hc (by rw [hsc])
end Go.Proofs.YtekcbkaanlngdabDoor
