/-
  What the document's Check, all and Without of layer 13 do, over this seat's program.
-/
import Derived.Test.YtghgpgeopdhcnaaPlv
set_option linter.unusedVariables false
namespace Go.Proofs.Ytghgpgeopdhcnaa
open Go.RowKit Go.Proofs.Num Go.Proofs.Dct Go.Proofs.Pst

set_option maxHeartbeats 1000000 in
set_option maxRecDepth 100000 in
theorem refChk_any (v : Value) (l : List Nat) (w : World) (h : Row32 w v l) :
    Calls Try.prog 17 #[v] w fun e w' => e = .returned (.int .i64 (chk l : Int)) ∧ ∃ q, w' = w.drewN q := by
  have HR := hide h
  obtain ⟨a, cap, hv, hl4, hfit, hrest⟩ := h
  subst hv
  have HFT := hide hfit
  obtain ⟨T, hT⟩ : ∃ T, T = l.length := ⟨_, rfl⟩
  rw [← hT] at HR hl4 ⊢
  have HTL := hide hT
  clear hrest hT hfit
  go_enter Try.func17, Try.ntmps17
  go_wp2
  go_loopw [3, 6] (fun xi z wr => ∃ k q : Nat, z = .int .i64 (k : Int) ∧ k ≤ T ∧ Hid (∀ (j : Nat) (h : j + 1 < l.length), j + 1 < k → l[j] < l[j + 1]) ∧ Hid (wr = w.drewN q)) (fun _ z _ => T - (intOf z).toNat)
  case atStart => exact ⟨0, 0, rfl, Nat.zero_le _, hide (fun j h hj => by omega), hide rfl⟩
  case round =>
    obtain ⟨k, q, rfl, hk, HA, HQ⟩ := hrel
    have hQ := unhide HQ
    subst hQ
    by_cases hlt : k < T
    · have hlt1 : (k : Int) < (T : Int) := by omega
      have hbw : Below w.heap.size w (w.drewN q) := below_drewN (Below.refl _ _) q
      have hkl : k < l.length := by have := unhide HTL; omega
      by_cases h0 : k = 0
      · subst h0
        have HA9 : Hid (∀ (j : Nat) (h : j + 1 < l.length), j + 1 < 0 + 1 → l[j] < l[j + 1]) := hide (fun j h hj => by omega)
        clear HA hbw HQ
        obtain ⟨W, hW⟩ : ∃ W, W = w.drewN q := ⟨_, rfl⟩
        rw [← hW]
        have HW := hide hW
        clear hW
        go_wp2
        go_quiet (fail)
        go_wp2
        exact ⟨⟨0 + 1, q + nq, by go_num, by omega, HA9, hide (by rw [unhide HW]; simp)⟩, by simp [intOf]; omega⟩
      · have h0i : (0 : Int) < (k : Int) := by omega
        obtain ⟨j, rfl⟩ : ∃ j, k = j + 1 := ⟨k - 1, by omega⟩
        have hjl : j < l.length := by omega
        obtain ⟨b, off, cap', hv', hblt, hcell⟩ := RowG.at cells32_len ((unhide HR).below hbw) (j := j + 1) hkl
        obtain ⟨b2, off2, cap2, hv2, hblt2, hcell2⟩ := RowG.at cells32_len ((unhide HR).below hbw) (j := j) hjl
        injection hv' with e1 e2 e3
        subst e1
        injection hv2 with e4 e5 e6
        injection e4 with e7
        injection e7 with e8 e9
        subst e8 e9
        have c0 := hcell 0 (by omega)
        have d0 := hcell2 0 (by omega)
        simp only [cells32, List.getElem?_cons_zero, Nat.add_zero, Nat.mul_one] at c0 d0
        clear e2 e3 e5 e6 hcell hcell2 hblt2 h0 hbw
        have hx := unhide HFT l[j + 1] (List.getElem_mem hkl)
        have hy := unhide HFT l[j] (List.getElem_mem hjl)
        by_cases hle : l[j + 1] ≤ l[j]
        · have hfin : chk l = 12 := by
            unfold chk
            rw [if_neg]
            rw [rises_iff]
            rintro ⟨_, h2⟩
            have := h2 j hkl
            omega
          have HF := hide hfin
          generalize l[j + 1] = x at c0 hx hle
          generalize l[j] = y at d0 hy hle
          have hlei : (x : Int) ≤ (y : Int) := by omega
          clear hfin HA hk hle HQ
          obtain ⟨W, hW⟩ : ∃ W, W = w.drewN q := ⟨_, rfl⟩
          rw [← hW] at c0 d0 hblt ⊢
          have HW := hide hW
          clear hW
          go_wp2
          go_quiet (fail)
          go_wp2
          go_ret
          exact ⟨by rw [unhide HF]; rfl, q + nq, by rw [unhide HW]; simp⟩
        · have hA9 : ∀ (i : Nat) (h : i + 1 < l.length), i + 1 < j + 1 + 1 → l[i] < l[i + 1] := by
            intro i h hi
            by_cases hij : i = j
            · subst hij; omega
            · exact unhide HA i h (by omega)
          have HA9 := hide hA9
          generalize l[j + 1] = x at c0 hx hle
          generalize l[j] = y at d0 hy hle
          have hlei : ¬ (x : Int) ≤ (y : Int) := by omega
          clear hA9 HA hle HQ
          obtain ⟨W, hW⟩ : ∃ W, W = w.drewN q := ⟨_, rfl⟩
          rw [← hW] at c0 d0 hblt ⊢
          have HW := hide hW
          clear hW
          go_wp2
          go_quiet (fail)
          go_wp2
          exact ⟨⟨j + 1 + 1, q + nq, by go_num, by omega, HA9, hide (by rw [unhide HW]; simp)⟩, by simp [intOf]; omega⟩
    · have hlt1 : ¬ (k : Int) < (T : Int) := by omega
      have hris : rises 0 l = true := by
        rw [rises_iff]
        exact ⟨fun _ => Nat.zero_le _, fun j hj => unhide HA j hj (by have := unhide HTL; omega)⟩
      by_cases h6 : 65536 < T
      · have hfin : chk l = 15 := by unfold chk; rw [if_pos hris, if_neg (by have := unhide HTL; omega)]
        have HF := hide hfin
        have h6i : (65536 : Int) < (T : Int) := by omega
        clear hris hfin HA hk HQ
        go_wp2
        go_ret
        exact ⟨by rw [unhide HF]; rfl, q, rfl⟩
      · have hfin : chk l = 0 := by unfold chk; rw [if_pos hris, if_pos (by have := unhide HTL; omega)]
        have HF := hide hfin
        have h6i : ¬ (65536 : Int) < (T : Int) := by omega
        clear hris hfin HA hk HQ
        go_wp2
        go_ret
        exact ⟨by rw [unhide HF]; rfl, q, rfl⟩

set_option maxHeartbeats 1000000 in
set_option maxRecDepth 100000 in
theorem refAll_any (v : Value) (ls : List (List Nat)) (w : World) (h : RowRR w v ls) :
    Calls Try.prog 31 #[v] w fun e w' => e = .returned (.int .i64 (chkAll ls : Int)) ∧ ∃ q, w' = w.drewN q := by
  have HR := hide h
  obtain ⟨a, cap, hv, hl4⟩ := h.slice
  subst hv
  obtain ⟨T, hT⟩ : ∃ T, T = ls.length := ⟨_, rfl⟩
  rw [← hT] at HR hl4 ⊢
  have HTL := hide hT
  clear hT h
  go_enter Try.func31, Try.ntmps31
  go_wp2
  go_loopw [4, 5, 8] (fun x y z wr => ∃ k q : Nat, z = .int .i64 (k : Int) ∧ k ≤ T ∧ Hid (chkAll ls = chkAll (ls.drop k)) ∧ Hid (wr = w.drewN q)) (fun _ _ z _ => T - (intOf z).toNat)
  case atStart => exact ⟨0, 0, rfl, Nat.zero_le _, hide rfl, hide rfl⟩
  case round =>
    obtain ⟨k, q, rfl, hk, HA, HQ⟩ := hrel
    have hQ := unhide HQ
    subst hQ
    by_cases hlt : k < T
    · have hlt1 : (k : Int) < (T : Int) := by omega
      have hbw : Below w.heap.size w (w.drewN q) := below_drewN (Below.refl _ _) q
      have hkl : k < ls.length := by have := unhide HTL; omega
      obtain ⟨b, off, cap', u, hv', hblt, c0, hru⟩ := RowRR.at ((unhide HR).below hbw) hkl
      injection hv' with e1 e2 e3
      subst e1
      clear e2 e3
      have hA := unhide HA
      rw [List.drop_eq_getElem_cons hkl, chkAll] at hA
      have HC := hide (refChk_any u ls[k] (w.drewN q) hru)
      obtain ⟨ua, uc, hu, _⟩ := hru
      subst hu
      generalize chk ls[k] = ck at hA HC
      obtain ⟨W, hW⟩ : ∃ W, W = w.drewN q := ⟨_, rfl⟩
      rw [← hW] at c0 hblt HC ⊢
      have HW := hide hW
      clear hW hbw HQ HA
      by_cases h0 : ck = 0
      · rw [if_neg (by simpa using h0)] at hA
        have HA9 := hide hA
        subst h0
        clear hA
        go_wp2_with fail
        refine (unhide HC).mono ?_
        rintro e w2 ⟨rfl, q2, rfl⟩
        go_wp2
        exact ⟨⟨k + 1, q + q2, by go_num, by omega, HA9, hide (by rw [unhide HW]; simp)⟩, by simp [intOf]; omega⟩
      · rw [if_pos h0] at hA
        have HA9 := hide hA
        have hne : ((ck : Int) == 0) = false := by simp; omega
        clear hA h0
        go_wp2_with fail
        refine (unhide HC).mono ?_
        rintro e w2 ⟨rfl, q2, rfl⟩
        go_wp2
        go_ret
        exact ⟨by rw [unhide HA9]; rfl, q + q2, by rw [unhide HW]; simp⟩
    · have hlt1 : ¬ (k : Int) < (T : Int) := by omega
      have hA := unhide HA
      rw [List.drop_of_length_le (by have := unhide HTL; omega), chkAll] at hA
      have HF := hide hA
      clear hA HA HQ
      go_wp2
      go_ret
      exact ⟨by rw [unhide HF]; rfl, q, rfl⟩

set_option maxHeartbeats 1000000 in
set_option maxRecDepth 100000 in
theorem refWithout_any (v vo : Value) (l o : List Nat) (w : World) (h : Row32 w v l) (ho : Row32 w vo o) :
    Calls Try.prog 13 #[v, vo] w fun e w' => ∃ v', e = .returned (.tuple #[v', .int .i64 ((withoutR l o).2 : Int)]) ∧ Row32 w' v' (withoutR l o).1 ∧ Below w.heap.size w w' := by
  obtain ⟨i0, hi, hz0, hz1, hz2⟩ := info_parts u32Info
  have hA : Below w.heap.size w (w.alloc (.cells #[v, vo] 23)) := (Below.refl _ w).alloc (Nat.le_refl _) _
  have HC := hide (refAll_any _ [l, o] _ (rowRR_two h ho))
  have HR := hide h
  have HRO := hide ho
  have HA := hide hA
  obtain ⟨a, cap, hv, hl4, hfl, _⟩ := h
  obtain ⟨ao, capo, hvo, _⟩ := ho
  subst hv hvo
  have HFL := hide hfl
  clear hA hfl
  unfold withoutR
  by_cases h0 : chkAll [l, o] = 0
  · have hok := chkAll_ok h0
    have hl := (hok l (by simp)).2
    rw [if_neg (by simpa using h0)]
    rw [h0] at HC
    obtain ⟨T, hT⟩ : ∃ T, T = l.length := ⟨_, rfl⟩
    rw [← hT] at HC HR HA hl hl4 ⊢
    have HTL := hide hT
    have HIN := hide (fun W k (hk : k ≤ 4294967295) (r : Row32 W (.slice ao o.length capo) o) => in_any _ o k W r hk)
    clear hok h0 hT
    generalize o.length = O at *
    go_enter Try.func13, Try.ntmps13
    go_wp2_with fail
    refine (unhide HC).mono ?_
    rintro e w1 ⟨rfl, q, rfl⟩
    have HB1 := hide (below_drewN (unhide HA) q)
    clear HC HA
    generalize (w.alloc (.cells #[.slice a T cap, .slice ao O capo] 23)).drewN q = V at HB1 ⊢
    go_wp2
    go_loopw [7, 9, 19] (fun xo xn z wr => ∃ k m : Nat, z = .int .i64 (k : Int) ∧ k ≤ T ∧ m ≤ k ∧ Hid (m = (pickL (l.take k) o false).length) ∧ Hid (wr.ownsRow w.heap.size 32 1 xo m (flatG cells32 (pickL (l.take k) o false))) ∧ Hid (Below w.heap.size w wr)) (fun _ _ z _ => T - (intOf z).toNat)
    case atStart => exact ⟨0, 0, rfl, Nat.zero_le _, Nat.le_refl _, hide (by simp [pickL]), hide ⟨by simp [flatG, pickL], Or.inl ⟨rfl, rfl⟩⟩, HB1⟩
    case round =>
      obtain ⟨k, m, rfl, hk, hm, HM, HP, HB⟩ := hrel
      obtain ⟨ap, cp, hu7, hcp⟩ := own_sliceG (unhide HP)
      subst hu7
      by_cases hlt : k < T
      · have hlt1 : (k : Int) < (T : Int) := by omega
        have hkl : k < l.length := by have := unhide HTL; omega
        obtain ⟨b, off, cap', hv', hblt, hcell⟩ := RowG.at cells32_len ((unhide HR).below (unhide HB)) (j := k) hkl
        injection hv' with e1 e2 e3
        subst e1
        have c0 := hcell 0 (by omega)
        simp only [cells32, List.getElem?_cons_zero, Nat.add_zero, Nat.mul_one] at c0
        clear e2 e3 hcell
        have hx := unhide HFL l[k] (List.getElem_mem hkl)
        have HI := hide (unhide HIN wr l[k] hx ((unhide HRO).below (unhide HB)))
        have hnx := pick_next (l := l) (o := o) (has := false) hkl
        by_cases hmem : l[k] ∈ o
        · rw [decide_eq_true hmem] at HI hnx
          rw [if_neg (by simp), List.append_nil] at hnx
          have HN9 := hide (by rw [hnx]; exact unhide HM : m = (pickL (l.take (k + 1)) o false).length)
          have hp9 := unhide HP
          rw [← hnx] at hp9
          have HO4 := hide hp9
          clear hnx hp9 HP HM hmem
          generalize l[k] = n at c0 hx HI
          go_wp2_with fail
          refine (unhide HI).mono ?_
          rintro e _ ⟨rfl, rfl⟩
          go_wp2
          exact ⟨⟨k + 1, m, by go_num, by omega, by omega, HN9, HO4, HB⟩, by simp [intOf]; omega⟩
        · rw [decide_eq_false hmem] at HI hnx
          rw [if_pos (by simp)] at hnx
          have HN9 := hide (by rw [hnx, List.length_append, ← unhide HM]; rfl : m + 1 = (pickL (l.take (k + 1)) o false).length)
          have HX9 := hide (by rw [hnx, flatG_append, flatG_one]; rfl : flatG cells32 (pickL (l.take (k + 1)) o false) = flatG cells32 (pickL (l.take k) o false) ++ [.int .u32 (l[k] : Int)])
          have hzr := (unhide HB).size
          clear hnx hmem
          generalize l[k] = n at c0 hx HI HX9
          have HOW := hide (own_below (unhide HP) ((Below.refl _ wr).alloc (Nat.le_refl _) (.cells #[.int .u32 (n : Int)] 32)))
          go_wp2_with fail
          refine (unhide HI).mono ?_
          rintro e w9 ⟨rfl, hw9⟩
          rw [hw9]
          clear hw9
          go_wp2_with (at_builtin; refine wpList_append_own _ rfl _ _ 23 rfl w.heap.size 32 i0 (.int .u32 0) 1 4 Try.underlying23 hi hz0 hz1 hz2 rfl (by decide) _ _ _ rfl (unhide HOW) ⟨wr.heap.size, 0, none⟩ 1 1 [.int .u32 (n : Int)] rfl rfl ?c1 ?c2 ?c3 ?c4 ?c5 ?_)
          case c1 =>
            intro j u hj
            exact new_cells _ _ _ _ rfl j u hj
          case c2 => intro u hu; simp at hu; subst hu; rfl
          case c3 => unfold maxLen; omega
          case c4 => omega
          case c5 => simp; omega
          intro v' w4 hown' hgrow _
          have HB4 := hide (below_own ((unhide HB).alloc hzr (.cells #[.int .u32 (n : Int)] 32)) (unhide HOW) hgrow (by simp; omega))
          rw [← unhide HX9] at hown'
          have HO4 := hide hown'
          clear hown' hgrow HOW HP HB
          go_wp2
          exact ⟨⟨k + 1, m + 1, by go_num, by omega, by omega, HN9, HO4, HB4⟩, by simp [intOf]; omega⟩
      · have hlt1 : ¬ (k : Int) < (T : Int) := by omega
        have hall : l.take k = l := List.take_of_length_le (by have := unhide HTL; omega)
        have hp := unhide HP
        have hm2 := unhide HM
        rw [hall] at hp hm2
        have HRR := hide (row32_of (by rw [← hm2]; exact hp) (by rw [← hm2]; omega) (fun x hx => unhide HFL x ((pick_mem l o false x).1 hx).1))
        clear hp hm2 HP HM hall
        go_wp2
        go_ret2
        exact ⟨_, rfl, unhide HRR, unhide HB⟩
  · rw [if_pos h0]
    have hne : ((chkAll [l, o] : Int) == 0) = false := by simp; omega
    generalize chkAll [l, o] = C at *
    clear HR HRO h0
    go_enter Try.func13, Try.ntmps13
    go_wp2_with fail
    refine (unhide HC).mono ?_
    rintro e w1 ⟨rfl, q, rfl⟩
    go_wp2
    go_ret2
    exact ⟨_, rfl, RowG.nil _ _ _, below_drewN (unhide HA) q⟩
end Go.Proofs.Ytghgpgeopdhcnaa
