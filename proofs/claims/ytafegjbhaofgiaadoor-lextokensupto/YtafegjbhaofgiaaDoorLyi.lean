/-
  What missiveref28.Tokens does, over this seat's program.
-/
import Derived.Test.YtafegjbhaofgiaaDoorLyh
import Derived.Test.YtafegjbhaofgiaaDoorLxl
import Derived.Test.YtafegjbhaofgiaaDoorLxx
set_option linter.unusedVariables false
set_option linter.unusedSimpArgs false
namespace Go.Proofs.YtafegjbhaofgiaaDoor
open Go.RowKit Go.Proofs.Lx

theorem sp_zero {l : List UInt8} {c : UInt8} {r : List UInt8} (h : l = c :: r) (hc : c ≠ 32) : spL l = 0 := by
  rw [h]; simp only [spL]; rw [if_neg hc]

set_option maxHeartbeats 2000000 in
set_option maxRecDepth 100000 in
theorem refTokens_any (s : ByteArray) (w : World) (hs : s.size ≤ 4194304) :
    Calls Tryd.prog 14 #[.string s] w fun e w' => (∃ v, e = .returned (.tuple #[v, .int .i64 ((tokensL s.data.toList).2 : Int)]) ∧ OutK w' v (tokensL s.data.toList).1) ∧ Below w.heap.size w w' := by
  have HLN := hide (tokensL_len s.data.toList)
  have HSZ := hide (sizeL s)
  go_enter Tryd.func14, Tryd.ntmps14
  go_wp2
  go_loopw [4, 5, 6, 7, 8, 9, 10, 11] (fun zv zr zg _ _ _ _ _ wr => ∃ (k a : Nat) (acc : List Tok) (R : ByteArray) (gb : Bool), zr = .string R ∧ zg = .bool gb ∧ k + R.size = s.size ∧ a ≤ 4 ∧ acc.length ≤ k ∧ Hid (R.data.toList = s.data.toList.drop k) ∧ Hid ((acc = [] ∧ gb = true ∧ a = 3) ∨ (∃ l x, acc = l ++ [(a, x)]) ∧ gb = false) ∧ Hid (TkI s k a acc) ∧ Hid (wr.ownsRow w.heap.size 39 2 zv acc.length (flatG tkC acc)) ∧ Hid (Below w.heap.size w wr)) (fun _ zr _ _ _ _ _ _ _ => strSize zr)
  case atStart => exact ⟨0, 3, [], s, true, rfl, rfl, by omega, by omega, by simp, hide (by simp), hide (Or.inl ⟨rfl, rfl, rfl⟩), hide ⟨s.data.toList.length + 1, by simp, by simp⟩, hide (World.ownsRow_nil _ _ _ _), hide (Below.refl _ _)⟩
  case round =>
    obtain ⟨k, a, acc, R, gb, rfl, rfl, hk, ha, hac, HR, HAG, HI, HO, HB⟩ := hrel
    obtain ⟨A, cap, hv, _⟩ := own_sliceG (unhide HO)
    subst hv
    obtain ⟨n, hn⟩ : ∃ n, n = acc.length := ⟨_, rfl⟩
    rw [← hn] at HO hac ⊢
    have HNL := hide hn
    clear hn
    go_wp2
    go_loop [5, 6] (fun zr zg => ∃ (j : Nat) (Q : ByteArray), zr = .string Q ∧ zg = .bool (gb || decide (0 < j)) ∧ j + Q.size = R.size ∧ Hid (Q.data.toList = s.data.toList.drop (k + j)) ∧ Hid (spL (s.data.toList.drop k) = j + spL (s.data.toList.drop (k + j)))) (fun zr _ => strSize zr)
    case atStart => exact ⟨0, R, rfl, by simp, by omega, HR, hide (by simp)⟩
    case round =>
      obtain ⟨j, Q, rfl, rfl, hj, HQ, HS⟩ := hrel
      have hem := is_empty Q
      by_cases q0 : Q.size = 0
      · have he : Q.toList.isEmpty = true := by rw [hem]; exact decide_eq_true q0
        have hdr : s.data.toList.drop (k + j) = [] := by rw [← unhide HQ]; exact List.length_eq_zero_iff.1 (by rw [sizeL]; exact q0)
        have hfin := (unhide HI).fin (by rw [unhide HS, hdr, List.length_drop, unhide HSZ]; simp [spL]; omega)
        have HF := hide hfin
        clear hem hdr hfin q0 HQ HS HI HR HAG
        by_cases hbig : 4096 < n
        · have hbig' : 4096 < (n : Int) := by omega
          have HF2 : Hid (tokensL s.data.toList = ([], 15)) := hide (by rw [unhide HF, if_pos (by rw [← unhide HNL]; exact hbig)])
          clear hbig HF HO
          go_wp2
          go_ret2
          exact ⟨⟨_, by rw [unhide HF2]; rfl, by rw [unhide HF2]; exact OutK.nil _⟩, unhide HB⟩
        · have hbig' : ¬ 4096 < (n : Int) := by omega
          have HF2 : Hid (tokensL s.data.toList = (acc, 0)) := hide (by rw [unhide HF, if_neg (by rw [← unhide HNL]; exact hbig)])
          have HOK : Hid (OutK wr (.slice A n cap) acc) := hide (by
            have h1 := own_zero (unhide HO)
            rw [unhide HNL] at h1 ⊢
            refine ⟨h1, fun t ht => ?_, by have := unhide HNL; omega⟩
            have := (unhide HLN).2
            rw [unhide HF2] at this
            have := this t ht
            rw [unhide HSZ] at this
            exact ⟨by omega, by omega⟩)
          clear hbig HF HO
          go_wp2
          go_ret2
          exact ⟨⟨_, by rw [unhide HF2]; rfl, by rw [unhide HF2]; exact unhide HOK⟩, unhide HB⟩
      · have he : Q.toList.isEmpty = false := by rw [hem]; exact decide_eq_false q0
        have q1 : 0 < Q.size := by omega
        have q1' : (0 : Int) < (Q.size : Int) := by omega
        have q1'' : (1 : Int) ≤ (Q.size : Int) := by omega
        have hcq := Q[0].toNat_lt
        have hQl : s.data.toList.drop (k + j) = Q[0] :: s.data.toList.drop (k + j + 1) := by
          have h1 := drop_byte Q 0 q1
          rw [List.drop_zero, unhide HQ, List.drop_drop] at h1
          exact h1
        by_cases c32 : Q[0] = 32
        · have e32 : ((Q[0].toNat : Int) == 32) = true := by rw [c32]; rfl
          have HS2 : Hid (spL (s.data.toList.drop k) = (j + 1) + spL (s.data.toList.drop (k + (j + 1)))) := hide (by
            rw [unhide HS, hQl, c32, ← Nat.add_assoc]
            simp only [spL, if_true]
            omega)
          have hsl := fun W => slice_from Q 1 1 rfl q1 W
          obtain ⟨Q2, hQ2⟩ : ∃ Q2, Q2 = Q.extract 1 Q.size := ⟨_, rfl⟩
          have hQz : Q2.size + 1 = Q.size := by rw [hQ2, ByteArray.size_extract]; omega
          have HQ2 : Hid (Q2.data.toList = s.data.toList.drop (k + (j + 1))) := hide (by rw [hQ2, toList_from, unhide HQ, List.drop_drop, Nat.add_assoc])
          rw [← hQ2] at hsl
          clear hem q0 hQl c32 HQ HS hQ2
          go_wp2
          go_round
          case rel => exact ⟨j + 1, Q2, rfl, by simp, by omega, HQ2, HS2⟩
          case measure => simp only [strSize]; omega
        · have e32 : ((Q[0].toNat : Int) == 32) = false := ne_byte (b := 32) c32 rfl
          have hs0 : spL (s.data.toList.drop (k + j)) = 0 := sp_zero hQl c32
          have hsp : spL (s.data.toList.drop k) = j := by rw [unhide HS, hs0]; rfl
          have hne : spL (s.data.toList.drop k) ≠ (s.data.toList.drop k).length := by rw [hsp, List.length_drop, unhide HSZ]; omega
          have HTO := hide (fun W => refTok_any Q W (by omega))
          rw [unhide HQ] at HTO
          have HI1 := hide (fun ht => (unhide HI).no hne (by rw [hsp]; exact ht))
          have HI2 := hide (fun (t : Tok) z ht h0 hm => (unhide HI).bad (t := t) (z := z) hne (by rw [hsp]; exact ht) (by rw [hsp]; exact h0) hm)
          have HI3 := hide (fun (t : Tok) z ht hm => (unhide HI).next (t := t) (z := z) hne (by rw [hsp]; exact ht) (by rw [hsp]; exact hm))
          rw [hsp] at HI3
          have HZ := hide (fun (t : Tok) z ht => tokA_len (l := s.data.toList.drop (k + j)) (t := t) (z := z) ht)
          clear hem q0 hQl c32 hs0 hsp hne HI HS HQ HR
          cases ho : tokA (s.data.toList.drop (k + j)) with
          | none =>
            generalize (gb || decide (0 < j)) = gx
            go_wp2_with fail
            refine (unhide HTO _).mono ?_
            rintro e w2 ⟨⟨v2, rfl, hv⟩, b2⟩
            unfold RefTV at hv
            rw [ho] at hv
            obtain ⟨k2, x2, y2, rfl⟩ := hv
            have HF := hide (unhide HI1 ho)
            have HB2 := hide ((unhide HB).trans (b2.mono (unhide HB).size))
            clear b2 HTO ho HI1 HI2 HI3 HO HAG HZ
            go_wp2
            go_ret2
            exact ⟨⟨_, by rw [unhide HF]; rfl, by rw [unhide HF]; exact OutK.nil _⟩, below_alloc1 (unhide HB2)⟩
          | some p =>
            obtain ⟨t, z⟩ := p
            rcases unhide HAG with ⟨hnil, rfl, ha3⟩ | ⟨hlast, rfl⟩
            · have hn0 : n = 0 := by have := unhide HNL; rw [hnil] at this; exact this
              have HN0 := hide hn0
              have hn0' : ¬ 0 < (n : Int) := by omega
              have HA3 := hide ha3
              clear hn0 hnil ha3
              simp only [Bool.true_or]
              go_wp2_with fail
              refine (unhide HTO _).mono ?_
              rintro e w2 ⟨⟨v2, rfl, hv⟩, b2⟩
              unfold RefTV at hv
              rw [ho] at hv
              simp only [tkV] at hv
              subst hv
              obtain ⟨hz1, hz2, hz3, hz4, hz5⟩ := unhide HZ t z ho
              have HM2 := hide (show (bts ((s.data.toList.drop (k + j)).drop z)).data.toList = s.data.toList.drop (k + j + z) by rw [toList_bts, List.drop_drop])
              obtain ⟨M, hM⟩ : ∃ M, M = bts ((s.data.toList.drop (k + j)).drop z) := ⟨_, rfl⟩
              have hMz : k + j + z + M.size = s.size := by
                have h1 : M.size = s.size - (k + j + z) := by rw [hM, size_bts, List.drop_drop, List.length_drop, unhide HSZ]
                rw [List.length_drop, unhide HSZ] at hz2
                omega
              rw [← hM] at HM2 ⊢
              have HB2 := hide ((unhide HB).trans (b2.mono (unhide HB).size))
              have HO2 := hide (own_below (unhide HO) b2)
              have HIB := hide (unhide HI2 t z ho)
              have HIN := hide (unhide HI3 t z ho)
              obtain ⟨tk, tx⟩ := t
              simp only at *
              have hR2 : M.size < R.size := by omega
              clear b2 HTO ho HI1 HI2 HI3 HO HZ hM hz2 hz3
              have HIN2 := hide (unhide HIN (fun _ => by rw [unhide HA3]; unfold mayT; simp))
              clear HIN HIB
              obtain ⟨v', w', hrun, h2, h3, k5⟩ := run_appT w2 w.heap.size (.slice A n cap) acc (tk, tx) 29 (by have := unhide HO2; rwa [unhide HNL] at this ⊢) (by have := unhide HNL; omega) (unhide HB2).size
              simp only at hrun
              have HO4 := hide h2
              have HB4 := hide ((unhide HB2).trans h3)
              have HAG2 : Hid (((acc ++ [(tk, tx)]) = [] ∧ false = true ∧ tk = 3) ∨ (∃ l x, (acc ++ [(tk, tx)]) = l ++ [(tk, x)]) ∧ false = false) := hide (Or.inr ⟨⟨acc, tx, rfl⟩, rfl⟩)
              have hac2 : (acc ++ [(tk, tx)]).length ≤ k + j + z := by have := unhide HNL; rw [List.length_append]; simp only [List.length_cons, List.length_nil]; omega
              clear h2 h3 HO2 HB2 k5 HAG
              go_wp2_with (at_builtin; refine wpList_append_runB (by rfl) _ _ 29 rfl rfl rfl rfl hrun ?_)
              exact ⟨⟨k + j + z, tk, acc ++ [(tk, tx)], M, false, rfl, rfl, hMz, hz5, hac2, HM2, HAG2, HIN2, HO4, HB4⟩, by simp only [strSize]; omega⟩
            · have hn1 : 1 ≤ n := by
                have := unhide HNL
                obtain ⟨l, x, hl⟩ := hlast
                rw [hl, List.length_append] at this
                simp at this; omega
              have hn1' : 0 < (n : Int) := by omega
              have HLA := hide hlast
              clear hlast
              simp only [Bool.false_or]
              by_cases hj0 : 0 < j
              · rw [decide_eq_true hj0]
                go_wp2_with fail
                refine (unhide HTO _).mono ?_
                rintro e w2 ⟨⟨v2, rfl, hv⟩, b2⟩
                unfold RefTV at hv
                rw [ho] at hv
                simp only [tkV] at hv
                subst hv
                obtain ⟨hz1, hz2, hz3, hz4, hz5⟩ := unhide HZ t z ho
                have HM2 := hide (show (bts ((s.data.toList.drop (k + j)).drop z)).data.toList = s.data.toList.drop (k + j + z) by rw [toList_bts, List.drop_drop])
                obtain ⟨M, hM⟩ : ∃ M, M = bts ((s.data.toList.drop (k + j)).drop z) := ⟨_, rfl⟩
                have hMz : k + j + z + M.size = s.size := by
                  have h1 : M.size = s.size - (k + j + z) := by rw [hM, size_bts, List.drop_drop, List.length_drop, unhide HSZ]
                  rw [List.length_drop, unhide HSZ] at hz2
                  omega
                rw [← hM] at HM2 ⊢
                have HB2 := hide ((unhide HB).trans (b2.mono (unhide HB).size))
                have HO2 := hide (own_below (unhide HO) b2)
                have HIB := hide (unhide HI2 t z ho)
                have HIN := hide (unhide HI3 t z ho)
                obtain ⟨tk, tx⟩ := t
                simp only at *
                have hR2 : M.size < R.size := by omega
                clear b2 HTO ho HI1 HI2 HI3 HO HZ hM hz2 hz3
                have HIN2 := hide (unhide HIN (fun h => absurd h (by omega)))
                clear HIN HIB
                obtain ⟨v', w', hrun, h2, h3, k5⟩ := run_appT w2 w.heap.size (.slice A n cap) acc (tk, tx) 29 (by have := unhide HO2; rwa [unhide HNL] at this ⊢) (by have := unhide HNL; omega) (unhide HB2).size
                simp only at hrun
                have HO4 := hide h2
                have HB4 := hide ((unhide HB2).trans h3)
                have HAG2 : Hid (((acc ++ [(tk, tx)]) = [] ∧ false = true ∧ tk = 3) ∨ (∃ l x, (acc ++ [(tk, tx)]) = l ++ [(tk, x)]) ∧ false = false) := hide (Or.inr ⟨⟨acc, tx, rfl⟩, rfl⟩)
                have hac2 : (acc ++ [(tk, tx)]).length ≤ k + j + z := by have := unhide HNL; rw [List.length_append]; simp only [List.length_cons, List.length_nil]; omega
                clear h2 h3 HO2 HB2 k5 HAG
                go_wp2_with (at_builtin; refine wpList_append_runB (by rfl) _ _ 29 rfl rfl rfl rfl hrun ?_)
                exact ⟨⟨k + j + z, tk, acc ++ [(tk, tx)], M, false, rfl, rfl, hMz, hz5, hac2, HM2, HAG2, HIN2, HO4, HB4⟩, by simp only [strSize]; omega⟩
              · rw [decide_eq_false hj0]
                have hj00 : j = 0 := by omega
                have HJ0 := hide hj00
                clear hj00 hj0
                go_wp2_with fail
                refine (unhide HTO _).mono ?_
                rintro e w2 ⟨⟨v2, rfl, hv⟩, b2⟩
                unfold RefTV at hv
                rw [ho] at hv
                simp only [tkV] at hv
                subst hv
                obtain ⟨hz1, hz2, hz3, hz4, hz5⟩ := unhide HZ t z ho
                have HM2 := hide (show (bts ((s.data.toList.drop (k + j)).drop z)).data.toList = s.data.toList.drop (k + j + z) by rw [toList_bts, List.drop_drop])
                obtain ⟨M, hM⟩ : ∃ M, M = bts ((s.data.toList.drop (k + j)).drop z) := ⟨_, rfl⟩
                have hMz : k + j + z + M.size = s.size := by
                  have h1 : M.size = s.size - (k + j + z) := by rw [hM, size_bts, List.drop_drop, List.length_drop, unhide HSZ]
                  rw [List.length_drop, unhide HSZ] at hz2
                  omega
                rw [← hM] at HM2 ⊢
                have HB2 := hide ((unhide HB).trans (b2.mono (unhide HB).size))
                have HO2 := hide (own_below (unhide HO) b2)
                have HIB := hide (unhide HI2 t z ho)
                have HIN := hide (unhide HI3 t z ho)
                obtain ⟨tk, tx⟩ := t
                simp only at *
                have hR2 : M.size < R.size := by omega
                clear b2 HTO ho HI1 HI2 HI3 HO HZ hM hz2 hz3
                have hkn : (n : Int) - 1 < (n : Int) := by omega
                have hkn0 : 0 ≤ (n : Int) - 1 := by omega
                have hn1'' : 1 ≤ (n : Int) := by omega
                have hla : n - 1 < acc.length := by have := unhide HNL; omega
                have hag : acc[n - 1].1 = a := by
                  obtain ⟨l, x, hl⟩ := unhide HLA
                  have h2 := unhide HNL
                  have h3 : n - 1 = l.length := by rw [hl, List.length_append] at h2; simp at h2; omega
                  have h4 : acc[n - 1]? = some (a, x) := by rw [hl, h3]; simp
                  rw [List.getElem?_eq_getElem hla] at h4
                  rw [Option.some.inj h4]
                have hown : (w2.alloc (.cells #[.int .u8 (tk : Int), .string (bts tx)] 39)).ownsRow w.heap.size 39 2 (.slice A n cap) acc.length (flatG tkC acc) := by
                  have := own_below (unhide HO2) ((Below.refl _ w2).alloc (Nat.le_refl _) (Obj.cells #[.int .u8 (tk : Int), .string (bts tx)] 39))
                  rwa [unhide HNL] at this ⊢
                obtain ⟨g2, cap2, hv2, _, _, hcells, _⟩ := ownG_at tkC_len hown hla
                injection hv2 with e1 e2 e3
                subst e1
                have d0 := hcells 0 (by omega)
                rw [show (tkC acc[n - 1])[0]? = some (.int .u8 (acc[n - 1].1 : Int)) from rfl, hag] at d0
                simp only [Nat.add_zero, Nat.zero_add] at d0
                have x3 : ((tk : Int) == 3) = decide (tk = 3) := beq_dec tk 3
                have y4 : ((a : Int) == 4) = decide (a = 4) := beq_dec a 4
                have y3 : ((a : Int) != 3) = !decide (a = 3) := bne_dec a 3
                have x4 : ((tk : Int) != 4) = !decide (tk = 4) := bne_dec tk 4
                have HMC := hide (mayT_cases a tk)
                clear hcells hown hag hla e2 e3
                generalize decide (tk = 3) = q3 at x3 HMC
                generalize decide (a = 4) = p4 at y4 HMC
                generalize decide (a = 3) = p3 at y3 HMC
                generalize decide (tk = 4) = q4 at x4 HMC
                cases q3 with
                | true =>
                  cases p4 with
                  | true =>
                    cases p3 with
                    | true =>
                      cases q4 with
                      | true =>
                        simp only [Bool.not_true, Bool.not_false] at y3 x4
                        have HIN2 := hide (unhide HIN (fun _ => unhide HMC))
                        clear HIN HIB
                        obtain ⟨v', w', hrun, h2, h3, k5⟩ := run_appT w2 w.heap.size (.slice (some ⟨g2, 0, none⟩) n cap) acc (tk, tx) 29 (by have := unhide HO2; rwa [unhide HNL] at this ⊢) (by have := unhide HNL; omega) (unhide HB2).size
                        simp only at hrun
                        have HO4 := hide h2
                        have HB4 := hide ((unhide HB2).trans h3)
                        have HAG2 : Hid (((acc ++ [(tk, tx)]) = [] ∧ false = true ∧ tk = 3) ∨ (∃ l x, (acc ++ [(tk, tx)]) = l ++ [(tk, x)]) ∧ false = false) := hide (Or.inr ⟨⟨acc, tx, rfl⟩, rfl⟩)
                        have hac2 : (acc ++ [(tk, tx)]).length ≤ k + j + z := by have := unhide HNL; rw [List.length_append]; simp only [List.length_cons, List.length_nil]; omega
                        clear h2 h3 HO2 HB2 k5 HAG
                        go_wp2_with (at_builtin; refine wpList_append_runB (by rfl) _ _ 29 rfl rfl rfl rfl hrun ?_)
                        exact ⟨⟨k + j + z, tk, acc ++ [(tk, tx)], M, false, rfl, rfl, hMz, hz5, hac2, HM2, HAG2, HIN2, HO4, HB4⟩, by simp only [strSize]; omega⟩
                      | false =>
                        simp only [Bool.not_true, Bool.not_false] at y3 x4
                        have HIN2 := hide (unhide HIN (fun _ => unhide HMC))
                        clear HIN HIB
                        obtain ⟨v', w', hrun, h2, h3, k5⟩ := run_appT w2 w.heap.size (.slice (some ⟨g2, 0, none⟩) n cap) acc (tk, tx) 29 (by have := unhide HO2; rwa [unhide HNL] at this ⊢) (by have := unhide HNL; omega) (unhide HB2).size
                        simp only at hrun
                        have HO4 := hide h2
                        have HB4 := hide ((unhide HB2).trans h3)
                        have HAG2 : Hid (((acc ++ [(tk, tx)]) = [] ∧ false = true ∧ tk = 3) ∨ (∃ l x, (acc ++ [(tk, tx)]) = l ++ [(tk, x)]) ∧ false = false) := hide (Or.inr ⟨⟨acc, tx, rfl⟩, rfl⟩)
                        have hac2 : (acc ++ [(tk, tx)]).length ≤ k + j + z := by have := unhide HNL; rw [List.length_append]; simp only [List.length_cons, List.length_nil]; omega
                        clear h2 h3 HO2 HB2 k5 HAG
                        go_wp2_with (at_builtin; refine wpList_append_runB (by rfl) _ _ 29 rfl rfl rfl rfl hrun ?_)
                        exact ⟨⟨k + j + z, tk, acc ++ [(tk, tx)], M, false, rfl, rfl, hMz, hz5, hac2, HM2, HAG2, HIN2, HO4, HB4⟩, by simp only [strSize]; omega⟩
                    | false =>
                      cases q4 with
                      | true =>
                        simp only [Bool.not_true, Bool.not_false] at y3 x4
                        have HIN2 := hide (unhide HIN (fun _ => unhide HMC))
                        clear HIN HIB
                        obtain ⟨v', w', hrun, h2, h3, k5⟩ := run_appT w2 w.heap.size (.slice (some ⟨g2, 0, none⟩) n cap) acc (tk, tx) 29 (by have := unhide HO2; rwa [unhide HNL] at this ⊢) (by have := unhide HNL; omega) (unhide HB2).size
                        simp only at hrun
                        have HO4 := hide h2
                        have HB4 := hide ((unhide HB2).trans h3)
                        have HAG2 : Hid (((acc ++ [(tk, tx)]) = [] ∧ false = true ∧ tk = 3) ∨ (∃ l x, (acc ++ [(tk, tx)]) = l ++ [(tk, x)]) ∧ false = false) := hide (Or.inr ⟨⟨acc, tx, rfl⟩, rfl⟩)
                        have hac2 : (acc ++ [(tk, tx)]).length ≤ k + j + z := by have := unhide HNL; rw [List.length_append]; simp only [List.length_cons, List.length_nil]; omega
                        clear h2 h3 HO2 HB2 k5 HAG
                        go_wp2_with (at_builtin; refine wpList_append_runB (by rfl) _ _ 29 rfl rfl rfl rfl hrun ?_)
                        exact ⟨⟨k + j + z, tk, acc ++ [(tk, tx)], M, false, rfl, rfl, hMz, hz5, hac2, HM2, HAG2, HIN2, HO4, HB4⟩, by simp only [strSize]; omega⟩
                      | false =>
                        simp only [Bool.not_true, Bool.not_false] at y3 x4
                        have HIN2 := hide (unhide HIN (fun _ => unhide HMC))
                        clear HIN HIB
                        obtain ⟨v', w', hrun, h2, h3, k5⟩ := run_appT w2 w.heap.size (.slice (some ⟨g2, 0, none⟩) n cap) acc (tk, tx) 29 (by have := unhide HO2; rwa [unhide HNL] at this ⊢) (by have := unhide HNL; omega) (unhide HB2).size
                        simp only at hrun
                        have HO4 := hide h2
                        have HB4 := hide ((unhide HB2).trans h3)
                        have HAG2 : Hid (((acc ++ [(tk, tx)]) = [] ∧ false = true ∧ tk = 3) ∨ (∃ l x, (acc ++ [(tk, tx)]) = l ++ [(tk, x)]) ∧ false = false) := hide (Or.inr ⟨⟨acc, tx, rfl⟩, rfl⟩)
                        have hac2 : (acc ++ [(tk, tx)]).length ≤ k + j + z := by have := unhide HNL; rw [List.length_append]; simp only [List.length_cons, List.length_nil]; omega
                        clear h2 h3 HO2 HB2 k5 HAG
                        go_wp2_with (at_builtin; refine wpList_append_runB (by rfl) _ _ 29 rfl rfl rfl rfl hrun ?_)
                        exact ⟨⟨k + j + z, tk, acc ++ [(tk, tx)], M, false, rfl, rfl, hMz, hz5, hac2, HM2, HAG2, HIN2, HO4, HB4⟩, by simp only [strSize]; omega⟩
                  | false =>
                    cases p3 with
                    | true =>
                      cases q4 with
                      | true =>
                        simp only [Bool.not_true, Bool.not_false] at y3 x4
                        have HIN2 := hide (unhide HIN (fun _ => unhide HMC))
                        clear HIN HIB
                        obtain ⟨v', w', hrun, h2, h3, k5⟩ := run_appT w2 w.heap.size (.slice (some ⟨g2, 0, none⟩) n cap) acc (tk, tx) 29 (by have := unhide HO2; rwa [unhide HNL] at this ⊢) (by have := unhide HNL; omega) (unhide HB2).size
                        simp only at hrun
                        have HO4 := hide h2
                        have HB4 := hide ((unhide HB2).trans h3)
                        have HAG2 : Hid (((acc ++ [(tk, tx)]) = [] ∧ false = true ∧ tk = 3) ∨ (∃ l x, (acc ++ [(tk, tx)]) = l ++ [(tk, x)]) ∧ false = false) := hide (Or.inr ⟨⟨acc, tx, rfl⟩, rfl⟩)
                        have hac2 : (acc ++ [(tk, tx)]).length ≤ k + j + z := by have := unhide HNL; rw [List.length_append]; simp only [List.length_cons, List.length_nil]; omega
                        clear h2 h3 HO2 HB2 k5 HAG
                        go_wp2_with (at_builtin; refine wpList_append_runB (by rfl) _ _ 29 rfl rfl rfl rfl hrun ?_)
                        exact ⟨⟨k + j + z, tk, acc ++ [(tk, tx)], M, false, rfl, rfl, hMz, hz5, hac2, HM2, HAG2, HIN2, HO4, HB4⟩, by simp only [strSize]; omega⟩
                      | false =>
                        simp only [Bool.not_true, Bool.not_false] at y3 x4
                        have HIN2 := hide (unhide HIN (fun _ => unhide HMC))
                        clear HIN HIB
                        obtain ⟨v', w', hrun, h2, h3, k5⟩ := run_appT w2 w.heap.size (.slice (some ⟨g2, 0, none⟩) n cap) acc (tk, tx) 29 (by have := unhide HO2; rwa [unhide HNL] at this ⊢) (by have := unhide HNL; omega) (unhide HB2).size
                        simp only at hrun
                        have HO4 := hide h2
                        have HB4 := hide ((unhide HB2).trans h3)
                        have HAG2 : Hid (((acc ++ [(tk, tx)]) = [] ∧ false = true ∧ tk = 3) ∨ (∃ l x, (acc ++ [(tk, tx)]) = l ++ [(tk, x)]) ∧ false = false) := hide (Or.inr ⟨⟨acc, tx, rfl⟩, rfl⟩)
                        have hac2 : (acc ++ [(tk, tx)]).length ≤ k + j + z := by have := unhide HNL; rw [List.length_append]; simp only [List.length_cons, List.length_nil]; omega
                        clear h2 h3 HO2 HB2 k5 HAG
                        go_wp2_with (at_builtin; refine wpList_append_runB (by rfl) _ _ 29 rfl rfl rfl rfl hrun ?_)
                        exact ⟨⟨k + j + z, tk, acc ++ [(tk, tx)], M, false, rfl, rfl, hMz, hz5, hac2, HM2, HAG2, HIN2, HO4, HB4⟩, by simp only [strSize]; omega⟩
                    | false =>
                      cases q4 with
                      | true =>
                        simp only [Bool.not_true, Bool.not_false] at y3 x4
                        have HIN2 := hide (unhide HIN (fun _ => unhide HMC))
                        clear HIN HIB
                        obtain ⟨v', w', hrun, h2, h3, k5⟩ := run_appT w2 w.heap.size (.slice (some ⟨g2, 0, none⟩) n cap) acc (tk, tx) 29 (by have := unhide HO2; rwa [unhide HNL] at this ⊢) (by have := unhide HNL; omega) (unhide HB2).size
                        simp only at hrun
                        have HO4 := hide h2
                        have HB4 := hide ((unhide HB2).trans h3)
                        have HAG2 : Hid (((acc ++ [(tk, tx)]) = [] ∧ false = true ∧ tk = 3) ∨ (∃ l x, (acc ++ [(tk, tx)]) = l ++ [(tk, x)]) ∧ false = false) := hide (Or.inr ⟨⟨acc, tx, rfl⟩, rfl⟩)
                        have hac2 : (acc ++ [(tk, tx)]).length ≤ k + j + z := by have := unhide HNL; rw [List.length_append]; simp only [List.length_cons, List.length_nil]; omega
                        clear h2 h3 HO2 HB2 k5 HAG
                        go_wp2_with (at_builtin; refine wpList_append_runB (by rfl) _ _ 29 rfl rfl rfl rfl hrun ?_)
                        exact ⟨⟨k + j + z, tk, acc ++ [(tk, tx)], M, false, rfl, rfl, hMz, hz5, hac2, HM2, HAG2, HIN2, HO4, HB4⟩, by simp only [strSize]; omega⟩
                      | false =>
                        simp only [Bool.not_true, Bool.not_false] at y3 x4
                        have HF := hide (unhide HIB (unhide HJ0) (unhide HMC))
                        clear HIN HIB HO2 HAG
                        go_wp2
                        go_ret2
                        exact ⟨⟨_, by rw [unhide HF]; rfl, by rw [unhide HF]; exact OutK.nil _⟩, below_alloc1 (unhide HB2)⟩
                | false =>
                  cases p4 with
                  | true =>
                    cases p3 with
                    | true =>
                      cases q4 with
                      | true =>
                        simp only [Bool.not_true, Bool.not_false] at y3 x4
                        have HIN2 := hide (unhide HIN (fun _ => unhide HMC))
                        clear HIN HIB
                        obtain ⟨v', w', hrun, h2, h3, k5⟩ := run_appT w2 w.heap.size (.slice (some ⟨g2, 0, none⟩) n cap) acc (tk, tx) 29 (by have := unhide HO2; rwa [unhide HNL] at this ⊢) (by have := unhide HNL; omega) (unhide HB2).size
                        simp only at hrun
                        have HO4 := hide h2
                        have HB4 := hide ((unhide HB2).trans h3)
                        have HAG2 : Hid (((acc ++ [(tk, tx)]) = [] ∧ false = true ∧ tk = 3) ∨ (∃ l x, (acc ++ [(tk, tx)]) = l ++ [(tk, x)]) ∧ false = false) := hide (Or.inr ⟨⟨acc, tx, rfl⟩, rfl⟩)
                        have hac2 : (acc ++ [(tk, tx)]).length ≤ k + j + z := by have := unhide HNL; rw [List.length_append]; simp only [List.length_cons, List.length_nil]; omega
                        clear h2 h3 HO2 HB2 k5 HAG
                        go_wp2_with (at_builtin; refine wpList_append_runB (by rfl) _ _ 29 rfl rfl rfl rfl hrun ?_)
                        exact ⟨⟨k + j + z, tk, acc ++ [(tk, tx)], M, false, rfl, rfl, hMz, hz5, hac2, HM2, HAG2, HIN2, HO4, HB4⟩, by simp only [strSize]; omega⟩
                      | false =>
                        simp only [Bool.not_true, Bool.not_false] at y3 x4
                        have HIN2 := hide (unhide HIN (fun _ => unhide HMC))
                        clear HIN HIB
                        obtain ⟨v', w', hrun, h2, h3, k5⟩ := run_appT w2 w.heap.size (.slice (some ⟨g2, 0, none⟩) n cap) acc (tk, tx) 29 (by have := unhide HO2; rwa [unhide HNL] at this ⊢) (by have := unhide HNL; omega) (unhide HB2).size
                        simp only at hrun
                        have HO4 := hide h2
                        have HB4 := hide ((unhide HB2).trans h3)
                        have HAG2 : Hid (((acc ++ [(tk, tx)]) = [] ∧ false = true ∧ tk = 3) ∨ (∃ l x, (acc ++ [(tk, tx)]) = l ++ [(tk, x)]) ∧ false = false) := hide (Or.inr ⟨⟨acc, tx, rfl⟩, rfl⟩)
                        have hac2 : (acc ++ [(tk, tx)]).length ≤ k + j + z := by have := unhide HNL; rw [List.length_append]; simp only [List.length_cons, List.length_nil]; omega
                        clear h2 h3 HO2 HB2 k5 HAG
                        go_wp2_with (at_builtin; refine wpList_append_runB (by rfl) _ _ 29 rfl rfl rfl rfl hrun ?_)
                        exact ⟨⟨k + j + z, tk, acc ++ [(tk, tx)], M, false, rfl, rfl, hMz, hz5, hac2, HM2, HAG2, HIN2, HO4, HB4⟩, by simp only [strSize]; omega⟩
                    | false =>
                      cases q4 with
                      | true =>
                        simp only [Bool.not_true, Bool.not_false] at y3 x4
                        have HIN2 := hide (unhide HIN (fun _ => unhide HMC))
                        clear HIN HIB
                        obtain ⟨v', w', hrun, h2, h3, k5⟩ := run_appT w2 w.heap.size (.slice (some ⟨g2, 0, none⟩) n cap) acc (tk, tx) 29 (by have := unhide HO2; rwa [unhide HNL] at this ⊢) (by have := unhide HNL; omega) (unhide HB2).size
                        simp only at hrun
                        have HO4 := hide h2
                        have HB4 := hide ((unhide HB2).trans h3)
                        have HAG2 : Hid (((acc ++ [(tk, tx)]) = [] ∧ false = true ∧ tk = 3) ∨ (∃ l x, (acc ++ [(tk, tx)]) = l ++ [(tk, x)]) ∧ false = false) := hide (Or.inr ⟨⟨acc, tx, rfl⟩, rfl⟩)
                        have hac2 : (acc ++ [(tk, tx)]).length ≤ k + j + z := by have := unhide HNL; rw [List.length_append]; simp only [List.length_cons, List.length_nil]; omega
                        clear h2 h3 HO2 HB2 k5 HAG
                        go_wp2_with (at_builtin; refine wpList_append_runB (by rfl) _ _ 29 rfl rfl rfl rfl hrun ?_)
                        exact ⟨⟨k + j + z, tk, acc ++ [(tk, tx)], M, false, rfl, rfl, hMz, hz5, hac2, HM2, HAG2, HIN2, HO4, HB4⟩, by simp only [strSize]; omega⟩
                      | false =>
                        simp only [Bool.not_true, Bool.not_false] at y3 x4
                        have HF := hide (unhide HIB (unhide HJ0) (unhide HMC))
                        clear HIN HIB HO2 HAG
                        go_wp2
                        go_ret2
                        exact ⟨⟨_, by rw [unhide HF]; rfl, by rw [unhide HF]; exact OutK.nil _⟩, below_alloc1 (unhide HB2)⟩
                  | false =>
                    cases p3 with
                    | true =>
                      cases q4 with
                      | true =>
                        simp only [Bool.not_true, Bool.not_false] at y3 x4
                        have HIN2 := hide (unhide HIN (fun _ => unhide HMC))
                        clear HIN HIB
                        obtain ⟨v', w', hrun, h2, h3, k5⟩ := run_appT w2 w.heap.size (.slice (some ⟨g2, 0, none⟩) n cap) acc (tk, tx) 29 (by have := unhide HO2; rwa [unhide HNL] at this ⊢) (by have := unhide HNL; omega) (unhide HB2).size
                        simp only at hrun
                        have HO4 := hide h2
                        have HB4 := hide ((unhide HB2).trans h3)
                        have HAG2 : Hid (((acc ++ [(tk, tx)]) = [] ∧ false = true ∧ tk = 3) ∨ (∃ l x, (acc ++ [(tk, tx)]) = l ++ [(tk, x)]) ∧ false = false) := hide (Or.inr ⟨⟨acc, tx, rfl⟩, rfl⟩)
                        have hac2 : (acc ++ [(tk, tx)]).length ≤ k + j + z := by have := unhide HNL; rw [List.length_append]; simp only [List.length_cons, List.length_nil]; omega
                        clear h2 h3 HO2 HB2 k5 HAG
                        go_wp2_with (at_builtin; refine wpList_append_runB (by rfl) _ _ 29 rfl rfl rfl rfl hrun ?_)
                        exact ⟨⟨k + j + z, tk, acc ++ [(tk, tx)], M, false, rfl, rfl, hMz, hz5, hac2, HM2, HAG2, HIN2, HO4, HB4⟩, by simp only [strSize]; omega⟩
                      | false =>
                        simp only [Bool.not_true, Bool.not_false] at y3 x4
                        have HIN2 := hide (unhide HIN (fun _ => unhide HMC))
                        clear HIN HIB
                        obtain ⟨v', w', hrun, h2, h3, k5⟩ := run_appT w2 w.heap.size (.slice (some ⟨g2, 0, none⟩) n cap) acc (tk, tx) 29 (by have := unhide HO2; rwa [unhide HNL] at this ⊢) (by have := unhide HNL; omega) (unhide HB2).size
                        simp only at hrun
                        have HO4 := hide h2
                        have HB4 := hide ((unhide HB2).trans h3)
                        have HAG2 : Hid (((acc ++ [(tk, tx)]) = [] ∧ false = true ∧ tk = 3) ∨ (∃ l x, (acc ++ [(tk, tx)]) = l ++ [(tk, x)]) ∧ false = false) := hide (Or.inr ⟨⟨acc, tx, rfl⟩, rfl⟩)
                        have hac2 : (acc ++ [(tk, tx)]).length ≤ k + j + z := by have := unhide HNL; rw [List.length_append]; simp only [List.length_cons, List.length_nil]; omega
                        clear h2 h3 HO2 HB2 k5 HAG
                        go_wp2_with (at_builtin; refine wpList_append_runB (by rfl) _ _ 29 rfl rfl rfl rfl hrun ?_)
                        exact ⟨⟨k + j + z, tk, acc ++ [(tk, tx)], M, false, rfl, rfl, hMz, hz5, hac2, HM2, HAG2, HIN2, HO4, HB4⟩, by simp only [strSize]; omega⟩
                    | false =>
                      cases q4 with
                      | true =>
                        simp only [Bool.not_true, Bool.not_false] at y3 x4
                        have HIN2 := hide (unhide HIN (fun _ => unhide HMC))
                        clear HIN HIB
                        obtain ⟨v', w', hrun, h2, h3, k5⟩ := run_appT w2 w.heap.size (.slice (some ⟨g2, 0, none⟩) n cap) acc (tk, tx) 29 (by have := unhide HO2; rwa [unhide HNL] at this ⊢) (by have := unhide HNL; omega) (unhide HB2).size
                        simp only at hrun
                        have HO4 := hide h2
                        have HB4 := hide ((unhide HB2).trans h3)
                        have HAG2 : Hid (((acc ++ [(tk, tx)]) = [] ∧ false = true ∧ tk = 3) ∨ (∃ l x, (acc ++ [(tk, tx)]) = l ++ [(tk, x)]) ∧ false = false) := hide (Or.inr ⟨⟨acc, tx, rfl⟩, rfl⟩)
                        have hac2 : (acc ++ [(tk, tx)]).length ≤ k + j + z := by have := unhide HNL; rw [List.length_append]; simp only [List.length_cons, List.length_nil]; omega
                        clear h2 h3 HO2 HB2 k5 HAG
                        go_wp2_with (at_builtin; refine wpList_append_runB (by rfl) _ _ 29 rfl rfl rfl rfl hrun ?_)
                        exact ⟨⟨k + j + z, tk, acc ++ [(tk, tx)], M, false, rfl, rfl, hMz, hz5, hac2, HM2, HAG2, HIN2, HO4, HB4⟩, by simp only [strSize]; omega⟩
                      | false =>
                        simp only [Bool.not_true, Bool.not_false] at y3 x4
                        have HF := hide (unhide HIB (unhide HJ0) (unhide HMC))
                        clear HIN HIB HO2 HAG
                        go_wp2
                        go_ret2
                        exact ⟨⟨_, by rw [unhide HF]; rfl, by rw [unhide HF]; exact OutK.nil _⟩, below_alloc1 (unhide HB2)⟩
end Go.Proofs.YtafegjbhaofgiaaDoor
