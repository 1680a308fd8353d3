/-
  What the document's Write of layer 8 does, over this seat's program.
-/
import Derived.Test.YtmlfjbfbpnnlkaaDoorRft
import Derived.Test.YtmlfjbfbpnnlkaaDoorHwz
set_option linter.unusedVariables false
namespace Go.Proofs.YtmlfjbfbpnnlkaaDoor
open Go.RowKit Go.Proofs.Hed

theorem nmdF_all {l n : List UInt8} (h : nmdF l = some n) : n.all nameB = true := by
  rw [nmdF_colon] at h
  split at h
  · cases h
  · split at h
    · rename_i hn
      cases h
      exact hn
    · cases h
theorem nmdF_name : ∀ l : List UInt8, l.all nameB = true → nmdF (l ++ [58]) = some l
  | [], _ => rfl
  | c :: r, h => by
    rw [List.all_cons, Bool.and_eq_true] at h
    have h58 : c ≠ 58 := by
      have := h.1
      simp only [nameB, decide_eq_true_eq] at this
      exact this.2.2
    simp only [List.cons_append, nmdF]
    rw [if_neg h58, if_pos h.1, nmdF_name r h.2]
    rfl
theorem named_is {l : List UInt8} (h0 : l ≠ []) : decide ((nmdF (l ++ [58])).getD [] = l) = isNm l := by
  unfold isNm
  have he : (!l.isEmpty) = true := by simpa using h0
  rw [he, Bool.and_true]
  by_cases h : l.all nameB = true
  · rw [nmdF_name l h, h]
    simp
  · have hf : l.all nameB = false := by simpa using h
    rw [hf, decide_eq_false_iff_not]
    intro hg
    cases hn : nmdF (l ++ [58]) with
    | none => rw [hn] at hg; exact h0 hg.symm
    | some n =>
      rw [hn] at hg
      simp only [Option.getD_some] at hg
      subst hg
      exact h (nmdF_all hn)
/-- Whether a value has no blank at its ends. -/
def endsOk (v : List UInt8) : Bool := (match v with | [] => true | c :: _ => !isB c) && (match v.getLast? with | none => true | some c => !isB c)
theorem dropW_len (l : List UInt8) : (l.dropWhile isB).length ≤ l.length := (List.dropWhile_sublist _).length_le
theorem rtrim_len (l : List UInt8) : (rtrim l).length ≤ l.length := by
  unfold rtrim
  rw [List.length_reverse]
  have := dropW_len l.reverse
  rwa [List.length_reverse] at this
theorem trim_is (v : List UInt8) : decide (trimL v = v) = endsOk v := by
  rw [trimL_two]
  unfold endsOk
  cases v with
  | nil => rfl
  | cons c r =>
    by_cases hc : isB c = true
    · rw [List.dropWhile_cons_of_pos hc]
      have h1 := rtrim_len (r.dropWhile isB)
      have h2 := dropW_len r
      have hne : rtrim (r.dropWhile isB) ≠ c :: r := by
        intro h
        have := congrArg List.length h
        simp only [List.length_cons] at this
        omega
      rw [decide_eq_false hne]
      simp [hc]
    · rw [List.dropWhile_cons_of_neg hc]
      obtain ⟨q, d, hq⟩ : ∃ q d, c :: r = q ++ [d] := by
        rcases List.eq_nil_or_concat (c :: r) with h | ⟨q, d, h⟩
        · cases h
        · exact ⟨q, d, by simpa using h⟩
      have hl : (c :: r).getLast? = some d := by rw [hq]; simp
      rw [hl]
      simp only [hc, Bool.not_false, Bool.true_and]
      rw [hq, rtrim_snoc]
      by_cases hd : isB d = true
      · rw [if_pos hd, hd]
        have h1 := rtrim_len q
        have hne : rtrim q ≠ q ++ [d] := by
          intro h
          have := congrArg List.length h
          simp only [List.length_append, List.length_cons, List.length_nil] at this
          omega
        rw [decide_eq_false hne]
        rfl
      · rw [if_neg hd]
        simp [hd]
theorem isVl_ends (v : List UInt8) : isVl v = (v.all (fun c => c != 10 && c != 13) && endsOk v) := by
  unfold isVl endsOk
  rw [Bool.and_assoc]
  rfl

set_option maxHeartbeats 4000000 in
set_option maxRecDepth 100000 in
/-- The document's Write. -/
theorem refWrite_any (v : Value) (l : List Fld) (w : World) (h : RowF w v l) (hsum : sumF l ≤ 1048576) :
    Calls Tryd.prog 12 #[v] w fun e w' => e = .returned (.tuple #[.string (bts (writeR (l.map lst)).1), .int .i64 (writeR (l.map lst)).2]) ∧ Below w.heap.size w w' := by
  obtain ⟨a, cap, rfl, hl, hfit, hc⟩ := h
  have HC := hide hc
  have HF := hide hfit
  have HSUM := hide hsum
  clear hc hfit hsum
  go_enter Tryd.func12, Tryd.ntmps12
  go_wp2
  go_loopw [4, 6, 7, 10] (fun o x y z wr => ∃ (k : Nat) (out : ByteArray), z = .int .i64 k ∧ o = .string out ∧ k ≤ l.length ∧ Hid (out.data.toList = (((l.take k).map lst).map (fieldL [10])).flatten) ∧ Hid ((l.take k).all (fun f => okF (lst f)) = true) ∧ Hid (Below w.heap.size w wr)) (fun _ _ _ z _ => l.length - (intOf z).toNat)
  case atStart => exact ⟨0, ⟨#[]⟩, rfl, rfl, Nat.zero_le _, hide (by simp), hide (by simp), hide (Below.refl _ _)⟩
  case round =>
    obtain ⟨k, out, rfl, rfl, hk, HO, HA, HB⟩ := hrel
    by_cases hlt : k < l.length
    · have hlt1 : (k : Int) < (l.length : Int) := by omega
      have hx : ∃ b off, a = some ⟨b, off, none⟩ ∧ b < w.heap.size ∧ wr.cell? ⟨b, off + k * 2, none⟩ = some (.string l[k].1) ∧ wr.cell? ⟨b, off + k * 2 + 1, none⟩ = some (.string l[k].2) := by
        rcases unhide HC with h | ⟨b, off, ha, hb, hcj⟩
        · subst h; simp at hlt
        · obtain ⟨c0, c1⟩ := row_cells hcj hlt
          exact ⟨b, off, ha, hb, ((unhide HB).cell (p := ⟨b, off + k * 2, none⟩) hb).trans c0, ((unhide HB).cell (p := ⟨b, off + k * 2 + 1, none⟩) hb).trans c1⟩
      obtain ⟨b, off, rfl, hb, c0, c1⟩ := hx
      have hzr := (unhide HB).size
      have hf := unhide HF l[k] (List.getElem_mem hlt)
      have HBA := hide ((unhide HB).alloc hzr (.cells #[.string l[k].1, .string l[k].2] 41))
      have HBX := hide (Blk.new wr 41 #[.string l[k].1, .string l[k].2])
      have hall : (l.take (k + 1)).all (fun f => okF (lst f)) = okF (lst l[k]) := by
        rw [take_next l k hlt, List.all_append, unhide HA]
        simp
      have hok : okF (lst l[k]) = (isNm l[k].1.data.toList && (l[k].2.data.toList.all (fun c => c != 10 && c != 13) && endsOk l[k].2.data.toList)) := by rw [← isVl_ends]; rfl
      have hbad : okF (lst l[k]) = false → writeR (l.map lst) = ([], 2) := by
        intro hb
        unfold writeR
        rw [if_neg]
        intro hh
        rw [List.all_eq_true] at hh
        have := hh (lst l[k]) (List.mem_map_of_mem (List.getElem_mem hlt))
        rw [hb] at this
        cases this
      have hnext : (((l.take (k + 1)).map lst).map (fieldL [10])).flatten = out.data.toList ++ fieldL [10] (lst l[k]) := by
        rw [take_next l k hlt, unhide HO, List.map_append, List.map_append, List.flatten_append]
        simp
      have hol : out.size ≤ 1048576 := by
        have h1 := flat_len (l.take k)
        rw [← unhide HO, sizeL] at h1
        have h2 : sumF (l.take k) ≤ sumF l := by
          have := sumF_append (l.take k) (l.drop k)
          rw [List.take_append_drop] at this
          omega
        have := unhide HSUM
        omega
      have HBAD := hide hbad
      have HALL := hide hall
      have HOK := hide hok
      have HNEXT := hide hnext
      have hf1 := hf.1
      have hf2 := hf.2
      have hlst : lst l[k] = (l[k].1.data.toList, l[k].2.data.toList) := rfl
      rw [hlst] at HNEXT
      obtain ⟨x, hX⟩ : ∃ x, x = l[k].1 := ⟨_, rfl⟩
      obtain ⟨y, hY⟩ : ∃ y, y = l[k].2 := ⟨_, rfl⟩
      rw [← hX] at c0 HBA HBX HOK HNEXT hf1
      rw [← hY] at c1 HBA HBX HOK HNEXT hf2
      have HNM := hide (fun W => refNamed_any (x ++ ⟨#[58]⟩) W (by rw [ByteArray.size_append]; have : (⟨#[58]⟩ : ByteArray).size = 1 := rfl; omega))
      have HTR := hide (fun W => refTrim_any y W (by omega))
      have hemx := empty_size x
      have hsx : (x ++ (⟨#[58]⟩ : ByteArray)).data.toList = x.data.toList ++ [58] := by simp
      rw [hsx] at HNM
      clear hbad hall hok hnext hf hX hY hlst HA HO HB hsx
      have d0 : (wr.alloc (.cells #[.string x, .string y] 41)).cell? ⟨wr.heap.size, 0, none⟩ = some (.string x) := (Blk.cell (unhide HBX) 0).trans rfl
      have d1 : (wr.alloc (.cells #[.string x, .string y] 41)).cell? ⟨wr.heap.size, 1, none⟩ = some (.string y) := (Blk.cell (unhide HBX) 1).trans rfl
      go_wp2
      obtain ⟨W4, hW4⟩ : ∃ W4, W4 = wr.alloc (.cells #[.string x, .string y] 41) := ⟨_, rfl⟩
      have hBW : wr.heap.size < W4.heap.size := by rw [hW4]; simp
      rw [← hW4] at d0 d1 HBA ⊢
      obtain ⟨B, hB⟩ : ∃ B, B = wr.heap.size := ⟨_, rfl⟩
      rw [← hB] at d0 d1 hBW ⊢
      clear hW4 hB HBX c0 c1 hzr
      have hb1 := beqS (bts ((nmdF (x.data.toList ++ [58])).getD [])) x
      have hb2 := beqS (bts (trimL y.data.toList)) y
      have hq1 : x.size ≠ 0 → decide (bts ((nmdF (x.data.toList ++ [58])).getD []) = x) = isNm x.data.toList := by
        intro h0
        rw [← named_is (l := x.data.toList) (by intro h; apply h0; rw [← sizeL, h]; rfl)]
        apply decide_eq_decide.mpr
        constructor
        · intro h
          have := congrArg (fun b : ByteArray => b.data.toList) h
          simpa [toList_bts] using this
        · intro h
          rw [h, bts_toList]
      have hq2 : decide (bts (trimL y.data.toList) = y) = endsOk y.data.toList := by
        rw [← trim_is]
        apply decide_eq_decide.mpr
        constructor
        · intro h
          have := congrArg (fun b : ByteArray => b.data.toList) h
          simpa [toList_bts] using this
        · intro h
          rw [h, bts_toList]
      rw [hq2] at hb2
      generalize bts ((nmdF (x.data.toList ++ [58])).getD []) = nx at HNM hb1 hq1
      generalize bts (trimL y.data.toList) = ty at HTR hb2
      clear hq2
      by_cases hx0 : x.size = 0
      · rw [decide_eq_true hx0] at hemx
        have HW2 : Hid (writeR (l.map lst) = ([], 2)) := hide (unhide HBAD (by
          rw [unhide HOK]
          have : x.data.toList = [] := List.eq_nil_of_length_eq_zero (by rw [sizeL]; exact hx0)
          rw [this]
          rfl))
        clear hx0 hq1 hb1 hb2 HOK HALL HBAD HNEXT
        go_quiet (fail)
        go_wp2
        go_ret2
        exact ⟨by rw [unhide HW2]; rfl, by have h := unhide HBA; exact ⟨h.os, h.tape, h.output, h.size, h.block⟩⟩
      · rw [decide_eq_false hx0] at hemx
        rw [hq1 hx0] at hb1
        cases hn : isNm x.data.toList
        · rw [hn] at hb1 HOK
          have HW2 : Hid (writeR (l.map lst) = ([], 2)) := hide (unhide HBAD (by rw [unhide HOK]; rfl))
          clear hx0 hq1 hb2 HOK HALL HBAD HNEXT hn
          go_quiet (first | (go_at_call 36; exact Calls.quiet_of_same (unhide HNM _)))
          go_wp2
          go_ret2
          exact ⟨by rw [unhide HW2]; rfl, by have h := unhide HBA; exact ⟨h.os, h.tape, h.output, h.size, h.block⟩⟩
        · rw [hn] at hb1 HOK
          cases he : endsOk y.data.toList
          · rw [he] at hb2 HOK
            have HW2 : Hid (writeR (l.map lst) = ([], 2)) := hide (unhide HBAD (by rw [unhide HOK]; simp))
            clear hx0 hq1 HOK HALL HBAD HNEXT hn he
            go_quiet (first | (go_at_call 36; exact Calls.quiet_of_same (unhide HNM _)) | (go_at_call 38; exact Calls.quiet_of_same (unhide HTR _)))
            go_wp2
            go_ret2
            exact ⟨by rw [unhide HW2]; rfl, by have h := unhide HBA; exact ⟨h.os, h.tape, h.output, h.size, h.block⟩⟩
          · rw [he] at hb2 HOK
            clear hx0 hq1 hn he
            go_quiet (first | (go_at_call 36; exact Calls.quiet_of_same (unhide HNM _)) | (go_at_call 38; exact Calls.quiet_of_same (unhide HTR _)))
            go_wp2
            have HD1 := hide d1
            have HD0 := hide d0
            have HBW := hide hBW
            clear d0 d1 hb1 hb2 hemx HNM HTR hBW
            go_loopw [7] (fun z wr => ∃ j : Nat, z = .int .i64 j ∧ j ≤ y.size ∧ Hid ((y.data.toList.take j).all (fun c => c != 10 && c != 13) = true) ∧ Hid (Below W4.heap.size W4 wr)) (fun z _ => y.size - (intOf z).toNat)
            case atStart => exact ⟨0, rfl, Nat.zero_le _, hide (by simp), hide ⟨rfl, rfl, rfl, Nat.le_refl _, fun _ _ => rfl⟩⟩
            case round =>
              obtain ⟨j, rfl, hj, HJ, HB5⟩ := hrel
              have d1 : wr.cell? ⟨B, 1, none⟩ = some (.string y) := ((unhide HB5).cell (p := ⟨B, 1, none⟩) (unhide HBW)).trans (unhide HD1)
              have HB6 := hide (belows' (unhide HBA) (unhide HB5))
              by_cases hlj : j < y.size
              · have hlj1 : (j : Int) < (y.size : Int) := by omega
                have hb10 : ((y[j].toNat : Int) == 10) = decide (y[j] = 10) := beq_u8 y[j] 10 10 rfl
                have hb13 : ((y[j].toNat : Int) == 13) = decide (y[j] = 13) := beq_u8 y[j] 13 13 rfl
                have hbadj : ¬ (y[j] ≠ 10 ∧ y[j] ≠ 13) → writeR (l.map lst) = ([], 2) := by
                  intro hh
                  apply unhide HBAD
                  rw [unhide HOK]
                  have : y.data.toList.all (fun c => c != 10 && c != 13) = false := by
                    rw [List.all_eq_false]
                    refine ⟨y[j], ?_, ?_⟩
                    · have := drop_byte y j hlj
                      exact List.mem_of_mem_drop (i := j) (by rw [this]; simp)
                    · intro hh2
                      apply hh
                      simpa using hh2
                  rw [this]
                  rfl
                by_cases h10 : y[j] = 10
                · rw [decide_eq_true h10] at hb10
                  have HW2 := hide (hbadj (fun hh => hh.1 h10))
                  clear hbadj h10 hb13
                  go_wp2
                  go_ret2
                  exact ⟨by rw [unhide HW2]; rfl, unhide HB6⟩
                · rw [decide_eq_false h10] at hb10
                  by_cases h13 : y[j] = 13
                  · rw [decide_eq_true h13] at hb13
                    have HW2 := hide (hbadj (fun hh => hh.2 h13))
                    clear hbadj h10 h13
                    go_wp2
                    go_ret2
                    exact ⟨by rw [unhide HW2]; rfl, unhide HB6⟩
                  · rw [decide_eq_false h13] at hb13
                    have HJ2 : Hid ((y.data.toList.take (j + 1)).all (fun c => c != 10 && c != 13) = true) := hide (by
                      rw [take_byte y j hlj, List.all_append, unhide HJ]
                      simp [h10, h13])
                    clear hbadj h10 h13
                    go_wp2
                    exact ⟨⟨j + 1, by go_num, by omega, HJ2, HB5⟩, by simp [intOf]; omega⟩
              · have hlj1 : ¬ (j : Int) < (y.size : Int) := by omega
                have hjall := unhide HJ
                rw [List.take_of_length_le (by rw [sizeL]; omega)] at hjall
                have HA1 : Hid ((l.take (k + 1)).all (fun f => okF (lst f)) = true) := hide (by rw [unhide HALL, unhide HOK, hjall]; rfl)
                have d0 : wr.cell? ⟨B, 0, none⟩ = some (.string x) := ((unhide HB5).cell (p := ⟨B, 0, none⟩) (unhide HBW)).trans (unhide HD0)
                have hemy := empty_size y
                clear hjall HJ HB5
                by_cases hy0 : y.size = 0
                · rw [decide_eq_true hy0] at hemy
                  have HN2 : Hid ((out ++ (x ++ ⟨#[58]⟩) ++ ⟨#[10]⟩ : ByteArray).data.toList = (((l.take (k + 1)).map lst).map (fieldL [10])).flatten) := hide (by
                    have h3 : y.data.toList = [] := List.eq_nil_of_length_eq_zero (by rw [sizeL]; exact hy0)
                    rw [unhide HNEXT, h3]
                    simp [fieldL])
                  go_wp2
                  exact ⟨⟨k + 1, _, by go_num, rfl, by omega, HN2, HA1, HB6⟩, by simp [intOf]; omega⟩
                · rw [decide_eq_false hy0] at hemy
                  have HN2 : Hid ((out ++ (x ++ ⟨#[58]⟩) ++ (⟨#[32]⟩ ++ y) ++ ⟨#[10]⟩ : ByteArray).data.toList = (((l.take (k + 1)).map lst).map (fieldL [10])).flatten) := hide (by
                    have h3 : y.data.toList ≠ [] := by intro h; apply hy0; rw [← sizeL, h]; rfl
                    rw [unhide HNEXT]
                    simp only [fieldL, if_neg h3]
                    simp)
                  go_wp2
                  exact ⟨⟨k + 1, _, by go_num, rfl, by omega, HN2, HA1, HB6⟩, by simp [intOf]; omega⟩
    · have hlt1 : ¬ (k : Int) < (l.length : Int) := by omega
      have ho := unhide HO
      have ha := unhide HA
      rw [List.take_of_length_le (by omega)] at ho ha
      have hol : out.size ≤ 1048576 := by
        have h1 := flat_len l
        rw [← ho, sizeL] at h1
        have := unhide HSUM
        omega
      have ha2 : (l.map lst).all okF = true := by rw [List.all_map]; exact ha
      by_cases hm : l.length ≤ 1024
      · have hm1 : ¬ (1024 : Int) < (l.length : Int) := by omega
        have HW2 : Hid (writeR (l.map lst) = ((out ++ ⟨#[10]⟩).data.toList, 0)) := hide (by
          unfold writeR textL
          rw [if_pos ha2, if_pos (by rw [List.length_map]; exact hm), ← ho]
          simp)
        clear ho ha ha2 HO HA
        go_wp2
        go_ret2
        exact ⟨by rw [unhide HW2]; simp only [bts_toList]; rfl, unhide HB⟩
      · have hm1 : (1024 : Int) < (l.length : Int) := by omega
        have HW2 : Hid (writeR (l.map lst) = ([], 15)) := hide (by
          unfold writeR
          rw [if_pos ha2, if_neg (by rw [List.length_map]; exact hm)])
        clear ho ha ha2 HO HA
        go_wp2
        go_ret2
        exact ⟨by rw [unhide HW2]; rfl, unhide HB⟩
end Go.Proofs.YtmlfjbfbpnnlkaaDoor
