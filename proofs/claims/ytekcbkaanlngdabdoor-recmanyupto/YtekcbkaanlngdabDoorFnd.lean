/-
  What rec.readSum, rec.find and rec.Next do, over this seat's program: from where to where the first record is, the record and what is behind it, or the error.
-/
import Derived.Test.YtekcbkaanlngdabDoorWfr
import Derived.Test.YtekcbkaanlngdabDoorSiz
import Derived.Test.YtekcbkaanlngdabDoorRpt
set_option linter.unusedVariables false
namespace Go.Proofs.YtekcbkaanlngdabDoor
open Go.RowKit Go.Proofs.Num Go.Proofs.Crc Go.Proofs.Frm

theorem rd_snoc (l : List UInt8) (c : UInt8) : rd (l ++ [c]) = rd l * 256 + c.toNat := by simp [rd]
theorem rd_lt (l : List UInt8) : rd l < 256 ^ l.length := by
  suffices h : ∀ (l : List UInt8) (r : Nat), l.foldl (fun r b => r * 256 + b.toNat) r < (r + 1) * 256 ^ l.length by
    have := h l 0
    simpa [rd] using this
  intro l
  induction l with
  | nil => intro r; simp
  | cons c l ih =>
    intro r
    have h1 := ih (r * 256 + c.toNat)
    have hc := c.toNat_lt
    simp only [List.foldl_cons, List.length_cons]
    refine Nat.lt_of_lt_of_le h1 ?_
    rw [Nat.pow_succ, Nat.mul_comm (256 ^ l.length) 256, ← Nat.mul_assoc]
    exact Nat.mul_le_mul_right _ (by omega)

theorem shlE (r c : Nat) (hr : r < 16777216) (hc : c < 256) : bits .or .u32 ((r : Int) * 256) (c : Int) = ((r * 256 + c : Nat) : Int) := by
  rw [show ((r : Int) * 256) = ((r * 256 : Nat) : Int) by omega]
  refine (u32_or_nat (r * 256) c (by omega) (by omega)).trans ?_
  rw [nat_join 8 (r * 256) c (by omega) hc]

set_option maxHeartbeats 400000 in
theorem readSum_any (s : ByteArray) (w : World) (hs : s.size ≤ 4) :
    Calls Tryd.prog 38 #[.string s] w fun e w' => e = .returned (.int .u32 (rd s.data.toList)) ∧ w' = w := by
  go_enter Tryd.func38, Tryd.ntmps38
  go_wp2
  go_loop [3, 4, 7] (fun x y z => ∃ (i r : Nat), z = .int .i64 i ∧ x = .int .u32 r ∧ i ≤ s.size ∧ r = rd (s.data.toList.take i)) (fun _ _ z => s.size - (intOf z).toNat)
  case atStart => exact ⟨0, 0, rfl, rfl, Nat.zero_le _, rfl⟩
  case round =>
    obtain ⟨i, r, rfl, rfl, hi, hrc⟩ := hrel
    by_cases hlt : i < s.size
    · have hr : r < 16777216 := by
        rw [hrc]
        refine Nat.lt_of_lt_of_le (rd_lt _) (Nat.le_trans (Nat.pow_le_pow_right (by decide) (show _ ≤ 3 by rw [List.length_take, sizeL]; omega)) (by decide))
      have hc := s[i].toNat_lt
      have hnx : rd (s.data.toList.take (i + 1)) = r * 256 + s[i].toNat := by
        have : s.data.toList.take (i + 1) = s.data.toList.take i ++ [s[i]] := by
          rw [List.take_succ_eq_append_getElem (by rw [sizeL]; exact hlt)]; rfl
        rw [this, rd_snoc, ← hrc]
      have HN := hide hnx
      have HE := hide (shlE r s[i].toNat hr hc)
      clear hrc hnx
      go_wp2
      exact ⟨⟨i + 1, r * 256 + s[i].toNat, by go_num, by rw [unhide HE], by omega, (unhide HN).symm⟩, by simp [intOf]; omega⟩
    · have hfin : rd s.data.toList = r := by
        rw [hrc, List.take_of_length_le (by rw [sizeL]; omega)]
      have HF := hide hfin
      clear hfin hrc
      go_wp2
      go_ret
      exact ⟨ret_int (by rw [unhide HF]), rfl⟩

theorem sumOf_pair (x y : ByteArray) (b : Nat) (W : World) (ht : Tab W) (hb : b < W.heap.size) (h0 : W.cell? ⟨b, 0, none⟩ = some (.string x)) (h1 : W.cell? ⟨b, 1, none⟩ = some (.string y)) (hx : x.size ≤ 9223372036854775807) (hy : y.size ≤ 9223372036854775807) :
    Calls Tryd.prog 30 #[.slice (some ⟨b, 0, none⟩) 2 2] W fun e w' => e = .returned (.int .u32 (sumL (x.data.toList ++ y.data.toList))) ∧ w' = W := by
  have h := sumOf_some b 0 2 [x, y] W ht (by simp) hb (by simp; exact ⟨hx, hy⟩) (fun j hj => by
    match j, hj with
    | 0, _ => simpa using h0
    | 1, _ => simpa using h1)
  rw [show flat [x, y] = x.data.toList ++ y.data.toList by simp [flat]] at h
  exact h

theorem below_drew1 {w w1 : World} (h : Below w.heap.size w w1) : Below w.heap.size w w1.drew := h.drew

theorem tab_drew {w : World} (h : Tab w) : Tab w.drew := h

/-- What find tells. -/
def findT (s : List UInt8) : Nat × Nat × Nat := match findR s with
  | .error c => (0, 0, c)
  | .ok (a, b) => (a, b, 0)

theorem toList_part (s : ByteArray) (a b : Nat) : (s.extract a b).data.toList = (s.data.toList.drop a).take (b - a) := by
  rw [ByteArray.data_extract, Array.toList_extract, List.extract_eq_take_drop]
theorem scan_min (s : ByteArray) : scanL (s.extract 0 (min s.size 10)).data.toList = scanL s.data.toList := by
  rw [toList_upto, ← scanL_take s.data.toList]
  congr 1
  rcases Nat.lt_or_ge s.size 10 with h | h
  · rw [Nat.min_eq_left (by omega), List.take_of_length_le (by rw [sizeL]; omega), List.take_of_length_le (by rw [sizeL]; omega)]
  · rw [Nat.min_eq_right h]

theorem findT_err {s : List UInt8} {c : Nat} (h : findR s = .error c) : findT s = (0, 0, c) := by unfold findT; rw [h]
theorem findT_ok {s : List UInt8} {a b : Nat} (h : findR s = .ok (a, b)) : findT s = (a, b, 0) := by unfold findT; rw [h]

set_option maxHeartbeats 1000000 in
set_option maxRecDepth 100000 in
theorem find_any (s : ByteArray) (w : World) (ht : Tab w) (hs : s.size ≤ 281474976710656) :
    Calls Tryd.prog 27 #[.string s] w fun e w' => e = .returned (.tuple #[.int .i64 (findT s.data.toList).1, .int .i64 (findT s.data.toList).2.1, .int .i64 (findT s.data.toList).2.2]) ∧ Below w.heap.size w w' := by
  have hmin : (s.extract 0 (min s.size 10)).size ≤ 281474976710656 := by rw [ByteArray.size_extract]; omega
  have HT := hide ht
  clear ht
  rcases scan_ways s.data.toList with ⟨n, k, hsc, hn, hk10, hkl⟩ | ⟨c, hsc, hc⟩
  · have hget : ∀ w, Calls Tryd.prog 33 #[.string (s.extract 0 (min s.size 10))] w fun e w' => ∃ x, e = .returned (.tuple #[.int .u64 n, .string x, .int .i64 0]) ∧ Below w.heap.size w w' := fun w => (get_ok (s.extract 0 (min s.size 10)) n k w (by rw [scan_min, hsc]) hmin).mono fun e w' ⟨he, hb⟩ => ⟨_, he, hb⟩
    have HG := hide hget
    clear hget
    have hkp := (scanL_ok hsc).2.1
    rw [sizeL] at hkl
    have hpos := putL_pos n
    by_cases hbig : 1048576 < n
    · have hfin : findR s.data.toList = .error 15 := by unfold findR; rw [hsc]; simp [hbig]
      have HF := hide (findT_err hfin)
      clear hfin hsc hkp hpos
      go_enter Tryd.func27, Tryd.ntmps27
      go_wp2_with fail
      rw [show (min (s.size : Int) 10).toNat = min s.size 10 by omega]
      refine (unhide HG _).mono ?_
      rintro e w1 ⟨x1, rfl, b1⟩
      go_wp2
      go_ret3
      exact ⟨by rw [unhide HF]; rfl, b1⟩
    · have hsize := fun w => size_any n w hn
      rw [← hkp] at hsize
      have HZ := hide hsize
      clear hsize
      by_cases hshort : s.size < k + 4 + n
      · have hfin : findR s.data.toList = .error 5 := by unfold findR; rw [hsc, sizeL]; simp [hbig, hshort]
        have HF := hide (findT_err hfin)
        clear hfin hsc hkp hpos
        go_enter Tryd.func27, Tryd.ntmps27
        go_wp2_with fail
        rw [show (min (s.size : Int) 10).toNat = min s.size 10 by omega]
        refine (unhide HG _).mono ?_
        rintro e w1 ⟨x1, rfl, b1⟩
        go_wp2_with fail
        refine (unhide HZ _).mono ?_
        rintro e w2 ⟨rfl, rfl⟩
        go_wp2
        go_ret3
        exact ⟨by rw [unhide HF]; rfl, b1⟩
      · have hsum : findR s.data.toList = if rd ((s.data.toList.drop k).take 4) ≠ sumL (s.data.toList.take k ++ (s.data.toList.drop (k + 4)).take n) then .error 6 else .ok (k + 4, k + 4 + n) := by
          unfold findR; rw [hsc, sizeL]; simp [hbig, hshort]
        have e1 : (s.extract k (k + 4)).data.toList = (s.data.toList.drop k).take 4 := by
          rw [toList_part]; congr 1; omega
        have e2 : (s.extract 0 k).data.toList = s.data.toList.take k := toList_upto s k
        have e3 : (s.extract (k + 4) (k + 4 + n)).data.toList = (s.data.toList.drop (k + 4)).take n := by
          rw [toList_part]; congr 1; omega
        rw [← e1, ← e2, ← e3] at hsum
        have HSUM := hide hsum
        have z1 : (s.extract k (k + 4)).size ≤ 4 := by rw [ByteArray.size_extract]; omega
        have z2 : (s.extract 0 k).size ≤ 9223372036854775807 := by rw [ByteArray.size_extract]; omega
        have z3 : (s.extract (k + 4) (k + 4 + n)).size ≤ 9223372036854775807 := by rw [ByteArray.size_extract]; omega
        clear hsum e1 e2 e3 hsc hkp
        go_enter Tryd.func27, Tryd.ntmps27
        go_wp2_with fail
        rw [show (min (s.size : Int) 10).toNat = min s.size 10 by omega]
        refine (unhide HG _).mono ?_
        rintro e w1 ⟨x1, rfl, b1⟩
        have HT1 := hide ((unhide HT).below b1)
        go_wp2_with fail
        refine (unhide HZ _).mono ?_
        rintro e w2 ⟨rfl, rfl⟩
        go_wp2
        rw [show ((k : Int) + 4 + (n : Int)) = ((k + 4 + n : Nat) : Int) by omega, show ((k : Int) + 4) = ((k + 4 : Nat) : Int) by omega]
        have u1 : k ≤ k + 4 := by omega
        have u2 : k + 4 ≤ k + 4 + n := by omega
        have u3 : k + 4 + n ≤ s.size := by omega
        have u4 : k + 4 ≤ s.size := by omega
        generalize k + 4 + n = q at u2 u3 z3 HSUM
        generalize k + 4 = p at u1 u2 u4 z1 z3 HSUM
        obtain ⟨g1, hg1⟩ : ∃ g1, g1 = rd (s.extract k p).data.toList := ⟨_, rfl⟩
        obtain ⟨g2, hg2⟩ : ∃ g2, g2 = sumL ((s.extract 0 k).data.toList ++ (s.extract p q).data.toList) := ⟨_, rfl⟩
        have HRS := hide (fun w => readSum_any (s.extract k p) w z1)
        have HSO := hide (fun b W ht hb h0 h1 => sumOf_pair (s.extract 0 k) (s.extract p q) b W ht hb h0 h1 z2 z3)
        rw [← hg1] at HRS HSUM
        rw [← hg2] at HSO HSUM
        clear z1 z2 z3 hn hk10 hs hmin hbig hshort hpos hg1 hg2
        go_region_with (first | (go_at_call 38; refine (unhide HRS _).mono ?_; rintro e w3 ⟨rfl, rfl⟩) | (go_at_call 30; refine (unhide HSO _ _ (by exact tab_drew (tab_alloc (unhide HT1) _)) (by simp) (by simp) (by simp)).mono ?_; rintro e w3 ⟨rfl, rfl⟩))
        all_goals
          by_cases heq : g1 = g2
          · have hbq : ((g1 : Int) == (g2 : Int)) = true := by rw [heq]; simp
            have hfin : findR s.data.toList = .ok (p, q) := by rw [unhide HSUM, if_neg (by simpa using heq)]
            have HF := hide (findT_ok hfin)
            clear hfin heq
            go_wp2
            go_ret3
            exact ⟨by rw [unhide HF]; rfl, belows b1 (below_drew1 ((Below.refl _ _).alloc (Nat.le_refl _) _))⟩
          · have hbq : ((g1 : Int) == (g2 : Int)) = false := by
              rw [beq_eq_false_iff_ne]
              omega
            have hfin : findR s.data.toList = .error 6 := by rw [unhide HSUM, if_pos (by simpa using heq)]
            have HF := hide (findT_err hfin)
            clear hfin heq
            go_wp2
            go_ret3
            exact ⟨by rw [unhide HF]; rfl, belows b1 (below_drew1 ((Below.refl _ _).alloc (Nat.le_refl _) _))⟩
  · have hc0 : c ≠ 0 := by omega
    have hget := fun w => get_bad (s.extract 0 (min s.size 10)) c w (by rw [scan_min, hsc]) hc0 hmin
    have HG := hide hget
    have hfin : findR s.data.toList = .error c := by unfold findR; rw [hsc]; simp [hc0]
    have HF := hide (findT_err hfin)
    have hne : ((c : Int) == 0) = false := by simp; omega
    clear hget hfin hsc hc
    go_enter Tryd.func27, Tryd.ntmps27
    go_wp2_with fail
    rw [show (min (s.size : Int) 10).toNat = min s.size 10 by omega]
    refine (unhide HG _).mono ?_
    rintro e w1 ⟨rfl, b1⟩
    go_wp2
    go_ret3
    exact ⟨by rw [unhide HF]; rfl, b1⟩
end Go.Proofs.YtekcbkaanlngdabDoor
