/-
  What the document's And of layer 13 does, over this seat's program.
-/
import Derived.Test.YtghgpgeopdhcnaaPrc
set_option linter.unusedVariables false
namespace Go.Proofs.Ytghgpgeopdhcnaa
open Go.RowKit Go.Proofs.Num Go.Proofs.Dct Go.Proofs.Pst

/-- Those that all others have. -/
def filt (r : List (List Nat)) (l : List Nat) : List Nat := l.filter (fun n => r.all (fun o => decide (n ∈ o)))
theorem filt_next (l : List Nat) (r : List (List Nat)) (k : Nat) (h : k < l.length) : filt r (l.take (k + 1)) = filt r (l.take k) ++ (if (r.all (fun o => decide (l[k] ∈ o))) = true then [l[k]] else []) := by
  unfold filt
  rw [List.take_succ_eq_append_getElem h, List.filter_append]
  congr 1
  by_cases hp : (r.all (fun o => decide (l[k] ∈ o))) = true
  · rw [if_pos hp, List.filter_cons_of_pos (by exact hp)]; rfl
  · rw [if_neg hp, List.filter_cons_of_neg (by exact hp)]; rfl
theorem fold_filt (r : List (List Nat)) : ∀ c : List Nat, r.foldl (fun c o => pickL c o true) c = filt r c := by
  induction r with
  | nil => intro c; exact (List.filter_eq_self.2 (by intro x _; rfl)).symm
  | cons o r ih =>
    intro c
    rw [List.foldl_cons, ih]
    unfold filt pickL
    rw [List.filter_filter]
    congr 1
    funext n
    rw [List.all_cons, Bool.and_comm]
    congr 1
    cases decide (n ∈ o) <;> rfl
theorem andL_filt (l : List Nat) (r : List (List Nat)) : andL (l :: r) = filt r l := fold_filt r l

set_option maxHeartbeats 2000000 in
set_option maxRecDepth 100000 in
theorem refAnd_any (v : Value) (ls : List (List Nat)) (w : World) (h : RowRR w v ls) (hn : NeatS v) :
    Calls Try.prog 9 #[v] w fun e w' => ∃ v', e = .returned (.tuple #[v', .int .i64 ((andR ls).2 : Int)]) ∧ Row32 w' v' (andR ls).1 ∧ Below w.heap.size w w' := by
  obtain ⟨i0, hi, hz0, hz1, hz2⟩ := info_parts u32Info
  have HC := hide (refAll_any v ls w h)
  have HR := hide h
  obtain ⟨a, cap, hv, hl4⟩ := h.slice
  subst hv
  have hcap := hn.2 _ _ _ rfl
  unfold andR
  by_cases h0 : chkAll ls = 0
  · have hok := chkAll_ok h0
    have HOK := hide hok
    rw [if_neg (by simpa using h0)]
    rw [h0] at HC
    clear hok
    by_cases hl0 : ls.length = 0
    · have hls : ls = [] := List.eq_nil_of_length_eq_zero hl0
      subst hls
      clear h0 HR h hn hl0
      simp only [List.length_nil] at *
      go_enter Try.func9, Try.ntmps9
      go_wp2_with fail
      refine (unhide HC).mono ?_
      rintro e w1 ⟨rfl, q, rfl⟩
      go_wp2
      go_ret2
      exact ⟨_, rfl, RowG.nil _ _ _, below_drewN (Below.refl _ _) q⟩
    · cases ls with
      | nil => exact absurd rfl hl0
      | cons l0 r =>
        rw [andL_filt]
        obtain ⟨b, off, cap', u, hv', hblt, c0, hru⟩ := RowRR.at (unhide HR) (j := 0) (by simp)
        injection hv' with e1 e2 e3
        subst e1
        rw [Nat.add_zero] at c0
        simp only [List.getElem_cons_zero] at hru
        have hk0 := unhide HOK l0 (by simp)
        have HT : Hid (RowRR w (.slice (some ⟨b, off + 1, none⟩) r.length (cap - 1)) r) := hide (by
          have := rowRR_part (unhide HR) 1 r.length (cap - 1) (by simp; omega)
          simpa using this)
        have hf0 : ∀ x ∈ l0, x ≤ 4294967295 := by obtain ⟨_, _, _, _, hf, _⟩ := hru; exact hf
        have HF0 := hide hf0
        have HRU := hide hru
        obtain ⟨ua, uc, hu2, _⟩ := hru
        subst hu2
        have hne : (((l0 :: r).length : Int) == 0) = false := by simp; omega
        simp only [List.length_cons] at hcap hne hl4 HC ⊢
        have hR1 : r.length + 1 ≤ cap := hcap
        clear h0 HR h hn hl0 e2 e3 hcap hf0
        obtain ⟨R, hRl⟩ : ∃ R, R = r.length := ⟨_, rfl⟩
        rw [← hRl] at hne hl4 HC HT hR1 ⊢
        have HRL := hide hRl
        obtain ⟨T, hTl⟩ : ∃ T, T = l0.length := ⟨_, rfl⟩
        have hT6 : T ≤ 65536 := by rw [hTl]; exact hk0.2
        rw [← hTl] at c0 HRU
        have HTL := hide hTl
        clear hRl hTl hk0 hne
        have hne : (((R : Int) + 1) == 0) = false := by rw [beq_eq_false_iff_ne]; omega
        by_cases hc1 : cap = 1
        · have hr0 : r = [] := List.eq_nil_of_length_eq_zero (by have := unhide HRL; omega)
          have hR0 : R = 0 := by omega
          have HT2 : Hid (RowRR w (.slice (some ⟨b, off, none⟩) R (cap - 1)) r) := hide (by
            rw [hr0, hR0]
            exact ⟨[], RowG.nil _ _ _, rfl, fun j h => by simp at h⟩)
          clear HT hr0 hR0
          have HT := HT2
          clear HT2
          subst hc1
          go_enter Try.func9, Try.ntmps9
          go_wp2_with fail
          refine (unhide HC).mono ?_
          rintro e w1 ⟨rfl, q, rfl⟩
          have HB1 : Hid (Below w.heap.size w (w.drewN q)) := hide (below_drewN (Below.refl _ _) q)
          have c1 : (w.drewN q).cell? ⟨b, off, none⟩ = some (.slice ua T uc) := c0
          clear HC c0
          generalize w.drewN q = V at HB1 c1 ⊢
          go_wp2
          go_loopw [5, 7, 8, 10, 25] (fun xo xn xi xx z wr => ∃ k m : Nat, z = .int .i64 (k : Int) ∧ k ≤ T ∧ m ≤ k ∧ Hid (m = (filt r (l0.take k)).length) ∧ Hid (wr.ownsRow w.heap.size 32 1 xo m (flatG cells32 (filt r (l0.take k)))) ∧ Hid (Below w.heap.size w wr)) (fun _ _ _ _ z _ => T - (intOf z).toNat)
          case atStart => exact ⟨0, 0, rfl, Nat.zero_le _, Nat.le_refl _, hide (by simp [filt]), hide ⟨by simp [flatG, filt], Or.inl ⟨rfl, rfl⟩⟩, HB1⟩
          case round =>
            obtain ⟨k, m, rfl, hk, hm, HM, HP, HB⟩ := hrel
            obtain ⟨ap, cp, hu5, hcp⟩ := own_sliceG (unhide HP)
            subst hu5
            by_cases hlt : k < T
            · have hlt1 : (k : Int) < (T : Int) := by omega
              have hkl : k < l0.length := by have := unhide HTL; omega
              obtain ⟨b4, off4, cap4, hv4, hblt4, hcell4⟩ := RowG.at cells32_len ((unhide HRU).below (unhide HB)) (j := k) hkl
              injection hv4 with e1 e2 e3
              subst e1
              have d0 := hcell4 0 (by omega)
              simp only [cells32, List.getElem?_cons_zero, Nat.add_zero, Nat.mul_one] at d0
              clear e2 e3 hcell4
              have hx := unhide HF0 l0[k] (List.getElem_mem hkl)
              have hnx := filt_next l0 r k hkl
              have HNX := hide hnx
              clear hnx
              generalize l0[k] = n at d0 hx HNX
              go_wp2
              go_loopw [8, 10, 32] (fun xi xx z wq => ∃ j : Nat, ∃ is : Bool, z = .int .i64 (j : Int) ∧ j ≤ R ∧ xi = .bool is ∧ Hid (is = (r.take j).all (fun o => decide (n ∈ o))) ∧ wq = wr) (fun _ _ z _ => R - (intOf z).toNat)
              case atStart => exact ⟨0, true, rfl, Nat.zero_le _, rfl, hide (by simp), rfl⟩
              case round =>
                obtain ⟨j, is, rfl, hj, rfl, HIS, hwq⟩ := hrel
                subst hwq
                by_cases hlj : j < R
                · exact absurd hlj (by omega)
                · have hlj1 : ¬ (j : Int) < (R : Int) := by omega
                  have hall := unhide HIS
                  rw [List.take_of_length_le (by have := unhide HRL; omega)] at hall
                  have hnx := unhide HNX
                  rw [← hall] at hnx
                  clear hall HIS HNX
                  cases is
                  · rw [if_neg (by simp), List.append_nil] at hnx
                    have HN9 := hide (by rw [hnx]; exact unhide HM : m = (filt r (l0.take (k + 1))).length)
                    have hp9 := unhide HP
                    rw [← hnx] at hp9
                    have HO4 := hide hp9
                    clear hnx hp9 HP HM
                    go_wp2
                    exact ⟨⟨k + 1, m, by go_num, by omega, by omega, HN9, HO4, HB⟩, by simp [intOf]; omega⟩
                  · rw [if_pos rfl] at hnx
                    have HN9 := hide (by rw [hnx, List.length_append, ← unhide HM]; rfl : m + 1 = (filt r (l0.take (k + 1))).length)
                    have HX9 := hide (by rw [hnx, flatG_append, flatG_one]; rfl : flatG cells32 (filt r (l0.take (k + 1))) = flatG cells32 (filt r (l0.take k)) ++ [.int .u32 (n : Int)])
                    have hzr := (unhide HB).size
                    have HOW := hide (own_below (unhide HP) ((Below.refl _ wr).alloc (Nat.le_refl _) (.cells #[.int .u32 (n : Int)] 32)))
                    clear hnx
                    go_wp2_with (at_builtin; refine wpList_append_own _ rfl _ _ 23 rfl w.heap.size 32 i0 (.int .u32 0) 1 4 Try.underlying23 hi hz0 hz1 hz2 rfl (by decide) _ _ _ rfl (unhide HOW) ⟨wr.heap.size, 0, none⟩ 1 1 [.int .u32 (n : Int)] rfl rfl ?x1 ?x2 ?x3 ?x4 ?x5 ?_)
                    case x2 => rfl
                    case x3 => unfold maxLen; omega
                    case x4 => omega
                    case x5 => omega
                    intro v' w4 hown' hgrow _
                    have HB4 := hide (below_own ((unhide HB).alloc hzr (.cells #[.int .u32 (n : Int)] 32)) (unhide HOW) hgrow (by simp; omega))
                    rw [← unhide HX9] at hown'
                    have HO4 := hide hown'
                    clear hown' hgrow HOW HP HB
                    go_wp2
                    exact ⟨⟨k + 1, m + 1, by go_num, by omega, by omega, HN9, HO4, HB4⟩, by simp [intOf]; omega⟩
            · have hlt1 : ¬ (k : Int) < (T : Int) := by omega
              have hall : l0.take k = l0 := List.take_of_length_le (by have := unhide HTL; omega)
              have hp := unhide HP
              have hm2 := unhide HM
              rw [hall] at hp hm2
              have HRR := hide (row32_of (l := filt r l0) (by rw [← hm2]; exact hp) (by rw [← hm2]; omega) (fun x hx => unhide HF0 x (List.mem_filter.1 hx).1))
              clear hp hm2 HP HM hall
              go_wp2
              go_ret2
              exact ⟨_, rfl, unhide HRR, unhide HB⟩
        · have hc2 : ¬ cap = 1 := hc1
          go_enter Try.func9, Try.ntmps9
          go_wp2_with fail
          refine (unhide HC).mono ?_
          rintro e w1 ⟨rfl, q, rfl⟩
          have HB1 : Hid (Below w.heap.size w (w.drewN q)) := hide (below_drewN (Below.refl _ _) q)
          have c1 : (w.drewN q).cell? ⟨b, off, none⟩ = some (.slice ua T uc) := c0
          clear HC c0
          generalize w.drewN q = V at HB1 c1 ⊢
          go_wp2
          go_loopw [5, 7, 8, 10, 25] (fun xo xn xi xx z wr => ∃ k m : Nat, z = .int .i64 (k : Int) ∧ k ≤ T ∧ m ≤ k ∧ Hid (m = (filt r (l0.take k)).length) ∧ Hid (wr.ownsRow w.heap.size 32 1 xo m (flatG cells32 (filt r (l0.take k)))) ∧ Hid (Below w.heap.size w wr)) (fun _ _ _ _ z _ => T - (intOf z).toNat)
          case atStart => exact ⟨0, 0, rfl, Nat.zero_le _, Nat.le_refl _, hide (by simp [filt]), hide ⟨by simp [flatG, filt], Or.inl ⟨rfl, rfl⟩⟩, HB1⟩
          case round =>
            obtain ⟨k, m, rfl, hk, hm, HM, HP, HB⟩ := hrel
            obtain ⟨ap, cp, hu5, hcp⟩ := own_sliceG (unhide HP)
            subst hu5
            by_cases hlt : k < T
            · have hlt1 : (k : Int) < (T : Int) := by omega
              have hkl : k < l0.length := by have := unhide HTL; omega
              obtain ⟨b4, off4, cap4, hv4, hblt4, hcell4⟩ := RowG.at cells32_len ((unhide HRU).below (unhide HB)) (j := k) hkl
              injection hv4 with e1 e2 e3
              subst e1
              have d0 := hcell4 0 (by omega)
              simp only [cells32, List.getElem?_cons_zero, Nat.add_zero, Nat.mul_one] at d0
              clear e2 e3 hcell4
              have hx := unhide HF0 l0[k] (List.getElem_mem hkl)
              have hnx := filt_next l0 r k hkl
              have HNX := hide hnx
              clear hnx
              generalize l0[k] = n at d0 hx HNX
              go_wp2
              go_loopw [8, 10, 32] (fun xi xx z wq => ∃ j : Nat, ∃ is : Bool, z = .int .i64 (j : Int) ∧ j ≤ R ∧ xi = .bool is ∧ Hid (is = (r.take j).all (fun o => decide (n ∈ o))) ∧ wq = wr) (fun _ _ z _ => R - (intOf z).toNat)
              case atStart => exact ⟨0, true, rfl, Nat.zero_le _, rfl, hide (by simp), rfl⟩
              case round =>
                obtain ⟨j, is, rfl, hj, rfl, HIS, hwq⟩ := hrel
                subst hwq
                by_cases hlj : j < R
                · have hlj1 : (j : Int) < (R : Int) := by omega
                  have hjr : j < r.length := by have := unhide HRL; omega
                  obtain ⟨b3, off3, cap3, u3, hv3, hblt3, f0, hru3⟩ := RowRR.at ((unhide HT).below (unhide HB)) hjr
                  injection hv3 with g1 g2 g3
                  injection g1 with g4
                  injection g4 with g5 g6
                  subst g5 g6
                  have HI := hide (in_any u3 r[j] n wr hru3 hx)
                  have hsn : (r.take (j + 1)).all (fun o => decide (n ∈ o)) = ((r.take j).all (fun o => decide (n ∈ o)) && decide (n ∈ r[j])) := by rw [List.take_succ_eq_append_getElem hjr, List.all_append]; simp
                  rw [← unhide HIS] at hsn
                  obtain ⟨a5, c5, hv5, _⟩ := hru3
                  subst hv5
                  have HSN := hide hsn
                  clear g2 g3 hsn HIS HNX
                  generalize r[j].length = LJ at *
                  generalize decide (n ∈ r[j]) = dj at *
                  cases is
                  · go_wp2
                    exact ⟨⟨j + 1, false, by go_num, by omega, rfl, hide (by rw [unhide HSN]; rfl), trivial⟩, by simp [intOf]; omega⟩
                  · go_wp2_with fail
                    refine (unhide HI).mono ?_
                    rintro e w9 ⟨rfl, hw9⟩
                    rw [hw9]
                    clear hw9
                    go_wp2
                    exact ⟨⟨j + 1, dj, by go_num, by omega, rfl, hide (by rw [unhide HSN]; simp), trivial⟩, by simp [intOf]; omega⟩
                · have hlj1 : ¬ (j : Int) < (R : Int) := by omega
                  have hall := unhide HIS
                  rw [List.take_of_length_le (by have := unhide HRL; omega)] at hall
                  have hnx := unhide HNX
                  rw [← hall] at hnx
                  clear hall HIS HNX
                  cases is
                  · rw [if_neg (by simp), List.append_nil] at hnx
                    have HN9 := hide (by rw [hnx]; exact unhide HM : m = (filt r (l0.take (k + 1))).length)
                    have hp9 := unhide HP
                    rw [← hnx] at hp9
                    have HO4 := hide hp9
                    clear hnx hp9 HP HM
                    go_wp2
                    exact ⟨⟨k + 1, m, by go_num, by omega, by omega, HN9, HO4, HB⟩, by simp [intOf]; omega⟩
                  · rw [if_pos rfl] at hnx
                    have HN9 := hide (by rw [hnx, List.length_append, ← unhide HM]; rfl : m + 1 = (filt r (l0.take (k + 1))).length)
                    have HX9 := hide (by rw [hnx, flatG_append, flatG_one]; rfl : flatG cells32 (filt r (l0.take (k + 1))) = flatG cells32 (filt r (l0.take k)) ++ [.int .u32 (n : Int)])
                    have hzr := (unhide HB).size
                    have HOW := hide (own_below (unhide HP) ((Below.refl _ wr).alloc (Nat.le_refl _) (.cells #[.int .u32 (n : Int)] 32)))
                    clear hnx
                    go_wp2_with (at_builtin; refine wpList_append_own _ rfl _ _ 23 rfl w.heap.size 32 i0 (.int .u32 0) 1 4 Try.underlying23 hi hz0 hz1 hz2 rfl (by decide) _ _ _ rfl (unhide HOW) ⟨wr.heap.size, 0, none⟩ 1 1 [.int .u32 (n : Int)] rfl rfl ?y1 ?y2 ?y3 ?y4 ?y5 ?_)
                    case y2 => rfl
                    case y3 => unfold maxLen; omega
                    case y4 => omega
                    case y5 => omega
                    intro v' w4 hown' hgrow _
                    have HB4 := hide (below_own ((unhide HB).alloc hzr (.cells #[.int .u32 (n : Int)] 32)) (unhide HOW) hgrow (by simp; omega))
                    rw [← unhide HX9] at hown'
                    have HO4 := hide hown'
                    clear hown' hgrow HOW HP HB
                    go_wp2
                    exact ⟨⟨k + 1, m + 1, by go_num, by omega, by omega, HN9, HO4, HB4⟩, by simp [intOf]; omega⟩
            · have hlt1 : ¬ (k : Int) < (T : Int) := by omega
              have hall : l0.take k = l0 := List.take_of_length_le (by have := unhide HTL; omega)
              have hp := unhide HP
              have hm2 := unhide HM
              rw [hall] at hp hm2
              have HRR := hide (row32_of (l := filt r l0) (by rw [← hm2]; exact hp) (by rw [← hm2]; omega) (fun x hx => unhide HF0 x (List.mem_filter.1 hx).1))
              clear hp hm2 HP HM hall
              go_wp2
              go_ret2
              exact ⟨_, rfl, unhide HRR, unhide HB⟩
  · rw [if_pos h0]
    have hne : ((chkAll ls : Int) == 0) = false := by simp; omega
    generalize chkAll ls = C at *
    clear HR h h0 hn
    generalize ls.length = L at *
    go_enter Try.func9, Try.ntmps9
    go_wp2_with fail
    refine (unhide HC).mono ?_
    rintro e w1 ⟨rfl, q, rfl⟩
    go_wp2
    go_ret2
    exact ⟨_, rfl, RowG.nil _ _ _, below_drewN (Below.refl _ _) q⟩
end Go.Proofs.Ytghgpgeopdhcnaa
