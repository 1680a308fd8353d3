/-
  What Parts of mime tells, over this seat's program.
-/
import Derived.Test.YtedpimhhbajljaaDoorMmn
set_option linter.unusedVariables false
set_option linter.unusedSimpArgs false
namespace Go.Proofs.YtedpimhhbajljaaDoor
open Go.RowKit Go.Proofs.Hed

attribute [local go_sem] Oper.semAt_some

set_option maxHeartbeats 4000000 in
set_option maxRecDepth 100000 in
theorem parts_any (s : ByteArray) (w : World) (hs : s.size ≤ 4194304) :
    Calls Tryd.prog 8 #[.string s] w fun e w' => ∃ v, e = .returned v ∧ w'.ownsRow w.heap.size 26 5 v (ptsL s).length (flatG ptC (ptsL s)) ∧ Below w.heap.size w w' := by
  refine (callsIn_wide (n := 3)).1 ?_
  refine callsIn_of_wp_marks Tryd.func8 rfl trivial ?_ rfl
  simp only [Tryd.ntmps8, List.size_toArray, List.length_cons, List.length_nil, Nat.reduceAdd, Nat.reduceSub, Array.replicate_succ, Array.replicate_zero, List.push_toArray, List.append_toArray, List.nil_append, List.cons_append]
  refine wpIn_wide.2 ?_
  go_wp2
  refine wp_scope_one 0 (PtsJ s w) (fun a' _ => 256 - (slN (a'.tmps.getD 3 undef))) rfl ?_ ?_
  · intro hp
    go_wp2
    go_step3
    rename_i K hK
    refine hK _ _ (hp _ _ ⟨[(0, s)], [], [], .slice none 0 0, .slice (some ⟨w.heap.size, 0, none⟩) 1 1, _, _, _, _, _, _, _, _, _, _, _, _, _, _, _, _, _, _, _, _, _, _, _, _, _, _, _, _, _, _, _, _, _, _, _, _, _, _, _, _, _, _, _, _, _, _, _, rfl, hide rfl, by simp, by simp, hide (SkOk.one (Nat.le_refl _)), ?_, ?_, ⟨by simp [flatG], Or.inl ⟨rfl, rfl⟩⟩, MarksAt.nil _ _, ?_⟩)
    · have := Blk.new (w.alloc (.cells #[.int .i64 0, .string ⟨#[]⟩, .string ⟨#[]⟩, .string ⟨#[]⟩, .string ⟨#[]⟩, .string s] 48)) 49 #[.slice (some ⟨w.heap.size, 0, none⟩) 1 1]
      rw [World.size_alloc] at this
      exact this
    · refine ⟨rfl, Or.inr ⟨w.heap.size, 1, #[.int .i64 0, .string ⟨#[]⟩, .string ⟨#[]⟩, .string ⟨#[]⟩, .string ⟨#[]⟩, .string s], rfl, Nat.le_refl _, ?_, Nat.le_refl _, by unfold maxLen; omega, rfl, rfl⟩⟩
      exact Blk.below (Blk.new w _ _) ((Below.refl _ _).alloc (Nat.le_refl _) _)
    · exact ((Below.refl _ w).alloc (Nat.le_refl _) _).alloc (by simp) _
  · rintro a' w' ⟨st, acc, ds, lv, sv, u5, u6, u7, u8, u9, u10, u11, u12, u13, u14, u15, u16, u17, u18, u19, u20, u21, u22, u23, u24, u25, u26, u27, u28, u29, u30, u31, u32, u33, u34, u35, u36, u37, u38, u39, u40, u41, u42, u43, u44, u45, u46, u47, u48, u49, u50, u51, rfl, HE, hal, hsl, HOK, hbx, hst, hac, hmk, hB⟩
    have HEND : Hid (∀ l : List PT, acc = l → ∀ tmps : Array Value, tmps.getD 2 undef = lv → LeavesInM Fence.wide 3 Tryd.prog Tryd.f8 tmps (fun e w' => ∃ v, e = .returned v ∧ w'.ownsRow w.heap.size 26 5 v l.length (flatG ptC l) ∧ Below w.heap.size w w') (markL ds) .returning w') := hide (by
      rintro l rfl tmps ht
      refine leaves_marks (B := w.heap.size) (fun A => A.ownsRow w.heap.size 26 5 lv acc.length (flatG ptC acc) ∧ Below w.heap.size w A) ?_ ?_ ds w' hmk ⟨hac, hB⟩
      · rintro A D o o' h1 h2 h3 ⟨h4, h5⟩
        exact ⟨ownsRow_putObj h4 _ h1 h2, below_put h5 D o' h3⟩
      · rintro A ⟨h4, h5⟩
        exact ⟨lv, by rw [results_tmp rfl, ht], lv, rfl, h4, h5⟩)
    obtain ⟨n, hn⟩ : ∃ n, st.length = n := ⟨_, rfl⟩
    obtain ⟨m, hm⟩ : ∃ m, acc.length = m := ⟨_, rfl⟩
    rw [hn] at hst hsl
    rw [hm] at hac hal hsl HE
    obtain ⟨la, lc, hlv⟩ := own_formH hac
    obtain ⟨sa, sc, hsv⟩ := own_formH hst
    subst hlv hsv
    have hbc := hbx.cell 0
    simp only [List.getElem?_toArray, List.getElem?_cons_zero] at hbc
    have HX := hide hn
    have HY := hide hm
    by_cases h0 : st = []
    · have HF := hide (show acc = ptsL s by rw [← unhide HE, h0, ptsF_nil, List.append_nil])
      have hb0 : ((n : Int) == 0) = true := by rw [← hn, h0]; rfl
      clear h0 hn hst hac hsl hal HE HX HY HOK hm
      go_wp2
      simp only [Exit.jump]
      exact unhide HEND _ (unhide HF) _ rfl
    · by_cases h1 : m = 256
      · have HF := hide (show acc = ptsL s by rw [← unhide HE, h1]; simp [ptsF])
        have hb0 : ((n : Int) == 0) = false := by
          have : n ≠ 0 := by rw [← hn]; simpa using h0
          simp; omega
        have hb1 : ((m : Int) == 256) = true := by rw [h1]; rfl
        clear h0 hn hst hac hsl hal HE HX HY HOK hm h1
        go_wp2
        simp only [Exit.jump]
        exact unhide HEND _ (unhide HF) _ rfl
      · obtain ⟨⟨pl, tx⟩, st', rfl⟩ : ∃ p st', st = p :: st' := by
          cases st with
          | nil => exact absurd rfl h0
          | cons a b => exact ⟨a, b, rfl⟩
        obtain ⟨k, hk⟩ : ∃ k, st'.length = k := ⟨_, rfl⟩
        have hnk : n = k + 1 := by rw [← hn, List.length_cons, hk]
        have hb0 : ((n : Int) == 0) = false := by simp; omega
        have hbm : ((m : Int) == 256) = false := by simp; omega
        have hpok := unhide HOK (pl, tx) (by simp)
        simp only at hpok
        rw [List.reverse_cons] at hst
        have hlen : n = (st'.reverse ++ [(pl, tx)]).length := by simp [hk, hnk]
        have hst1 := hst
        rw [show w'.ownsRow w.heap.size 48 6 (.slice sa n sc) n = w'.ownsRow w.heap.size 48 6 (.slice sa n sc) (st'.reverse ++ [(pl, tx)]).length by rw [← hlen]] at hst1
        obtain ⟨g, cap, hg, hgB, hgl, hcs, hfz⟩ := ownG_at skC_len hst1 (j := k) (by simp [hk])
        injection hg with e1 e2 e3
        subst e1 e3
        have hget : (st'.reverse ++ [(pl, tx)])[k]'(by simp [hk]) = (pl, tx) := by
          rw [List.getElem_append_right (by simp [hk])]
          simp
        rw [hget] at hcs
        have c0 := hcs 0 (by decide)
        have c1 := hcs 1 (by decide)
        have c2 := hcs 2 (by decide)
        have c3 := hcs 3 (by decide)
        have c4 := hcs 4 (by decide)
        have c5 := hcs 5 (by decide)
        simp only [skC, List.getElem?_cons_zero, List.getElem?_cons_succ, Nat.add_zero] at c0 c1 c2 c3 c4 c5
        have hkn : k = n - 1 := by omega
        rw [hkn] at c0 c1 c2 c3 c4 c5
        have HOWN := hide hst
        have HNK := hide hnk
        have HLEN := hide hlen
        have HCS := hide hcs
        have hncap : n ≤ sc := by
          obtain ⟨_, _, h, h'⟩ := own_sliceG hst
          injection h with _ _ h
          omega
        have HKN := hide hkn
        have HKL := hide hk
        have HM : Hid (m < 256) := hide (by omega)
        have hn1 : 1 ≤ n := by omega
        have hn1i : (1 : Int) ≤ (n : Int) := by omega
        clear hst hst1 hcs hget hlen hnk hn hk hm h0 h1 e2 hkn
        have hP := Blk.new w' 48 #[.int .i64 pl, .string ⟨#[]⟩, .string ⟨#[]⟩, .string ⟨#[]⟩, .string ⟨#[]⟩, .string tx]
        have hb1 : Below w'.heap.size w' (w'.alloc (.cells #[.int .i64 pl, .string ⟨#[]⟩, .string ⟨#[]⟩, .string ⟨#[]⟩, .string ⟨#[]⟩, .string tx] 48)) := (Below.refl _ _).alloc (Nat.le_refl _) _
        have hz1 : (w'.alloc (.cells #[.int .i64 pl, .string ⟨#[]⟩, .string ⟨#[]⟩, .string ⟨#[]⟩, .string ⟨#[]⟩, .string tx] 48)).heap.size = w'.heap.size + 1 := World.size_alloc _ _
        have hbx1 := hbx.below hb1
        go_upto_region 6 with (fail)
        generalize (w'.alloc (.cells #[.int .i64 pl, .string ⟨#[]⟩, .string ⟨#[]⟩, .string ⟨#[]⟩, .string ⟨#[]⟩, .string tx] 48)) = W1 at hP hb1 hz1 hbx1 ⊢
        have hbc1 := hbx1.cell 0
        simp only [List.getElem?_toArray, List.getElem?_cons_zero] at hbc1
        have hbf1 := hbx1.frozen 0
        have hne1 : ¬ w'.heap.size = w.heap.size + 1 := by have := hbx.lt; omega
        clear hbc c0 c1 c2 c3 c4 c5
        go_upto_region 7 with (fail)
        have hbx2 := hbx1.set 0 (.slice (some ⟨g, 0, none⟩) (n - 1) sc)
        have hP2 := hP.other (a := ⟨w.heap.size + 1, 0, none⟩) hne1 (.slice (some ⟨g, 0, none⟩) (n - 1) sc)
        have hz2 : (W1.setCell ⟨w.heap.size + 1, 0, none⟩ (.slice (some ⟨g, 0, none⟩) (n - 1) sc)).heap.size = w'.heap.size + 1 := by rw [← hz1]; simp
        have hg2 : W1.grownBy (W1.setCell ⟨w.heap.size + 1, 0, none⟩ (.slice (some ⟨g, 0, none⟩) (n - 1) sc)) (some (w.heap.size + 1)) := grownBy_setCell' _ _ _
        have hown1 := own_below (unhide HOWN) hb1
        have hac1 := own_below hac hb1
        have hown2 := hown1.kept hg2 (.inr (own_apart hown1 hbx1 (by decide)))
        have hac2 := hac1.kept hg2 (.inr (own_apart hac1 hbx1 (by decide)))
        have hmk2 := (hmk.below hb1).grown hg2 (blk_isCells hbx1)
        have hB2 : Below w.heap.size w (W1.setCell ⟨w.heap.size + 1, 0, none⟩ (.slice (some ⟨g, 0, none⟩) (n - 1) sc)) := (hB.trans (hb1.mono hB.size)).grown hg2 (by have := hB.size; omega) (fun k e => by cases e; omega)
        generalize W1.setCell ⟨w.heap.size + 1, 0, none⟩ (.slice (some ⟨g, 0, none⟩) (n - 1) sc) = W2 at hbx2 hP2 hz2 hg2 hown2 hac2 hmk2 hB2 ⊢
        have HRD := hide (readM_any w'.heap.size pl ⟨#[]⟩ ⟨#[]⟩ ⟨#[]⟩ ⟨#[]⟩ tx W2 hP2 (by omega))
        clear hbx1 hP hbc1 hbf1 hg2
        go_wp2_with fail
        refine (unhide HRD).mono ?_
        rintro e W3 ⟨v3, rfl, hkids, hk257, hP3, hb3⟩
        have hz3 := hb3.size
        have hP3lt := hP3.lt
        have hbx3 := blk_under hbx2 hb3 hbx.lt
        have hown3 := own_under hown2 hb3 (fun g' e => ((unhide HOWN).lt g' e).2)
        have hac3 := own_under hac2 hb3 (fun g' e => (hac.lt g' e).2)
        have hmk3 := hmk2.under hb3 hmk.lt
        have hB3 := hB2.trans (hb3.mono hB.size)
        obtain ⟨ka, kc, hkv⟩ := own_formH hkids
        have HPT : Hid (ptC (ptOf (pl, tx)) = [.int .i64 pl, .string (rdT tx.data.toList), .string (rdC tx.data.toList), .string (rdD tx.data.toList), .string (if (rdK pl tx).length = 0 then rdY tx else ⟨#[]⟩)]) := hide rfl
        generalize rdT tx.data.toList = y1 at hP3 HPT
        generalize rdC tx.data.toList = y2 at hP3 HPT
        generalize rdD tx.data.toList = y3 at hP3 HPT
        generalize (if (rdK pl tx).length = 0 then rdY tx else { data := #[] }) = y4 at hP3 HPT
        have d0 := hP3.cell 0
        have d1 := hP3.cell 1
        have d2 := hP3.cell 2
        have d3 := hP3.cell 3
        have d4 := hP3.cell 4
        simp only [List.getElem?_toArray, List.getElem?_cons_succ, List.getElem?_cons_zero] at d0 d1 d2 d3 d4
        have HKID := hide hkids
        have HK257 := hide hk257
        obtain ⟨kn, hkn⟩ : ∃ kn, (rdK pl tx).length = kn := ⟨_, rfl⟩
        rw [hkn] at hkv
        subst hkv
        have HKNN := hide hkn
        have HST := hide hown3
        have HMK := hide hmk3
        have HBX := hide hbx3
        have HP3 := hide hP3
        have HB3 := hide hB3
        have hB3s := hB3.size
        clear hkids hk257 hkn hbx2 hP2 hown2 hac2 hmk2 hB2 hown1 hac1 HRD hown3 hmk3 hbx3 hP3 hB3 hb3
        obtain ⟨i0, hi, hq0, hq1, hq2⟩ := info_parts ptInfo
        go_wp2_with (at_builtin; refine wpList_append_own _ rfl _ _ 23 rfl w.heap.size 26 i0 (.agg #[.int .i64 0, .string ByteArray.empty, .string ByteArray.empty, .string ByteArray.empty, .string ByteArray.empty]) 5 72 Tryd.underlying23 hi hq0 hq1 hq2 rfl (by decide) _ _ _ rfl (hac3.alloc _) ⟨W3.heap.size, 0, none⟩ 1 1 [.int .i64 pl, .string y1, .string y2, .string y3, .string y4] rfl rfl ?c1 ?c2 ?c3 ?c4 ?c5 ?_)
        case c1 =>
          intro j u hj
          rw [Addr.add_lit, Nat.zero_add]
          rw [(Blk.new W3 26 #[.int .i64 pl, .string y1, .string y2, .string y3, .string y4]).cell j]
          simpa using hj
        case c2 => intro u hu; simp at hu; rcases hu with rfl | rfl | rfl | rfl | rfl <;> rfl
        case c3 => unfold maxLen; omega
        case c4 => omega
        case c5 => simp; omega
        intro v4 W4 hac4 hgrow _
        have bA : Below W3.heap.size W3 (W3.alloc (.cells #[.int .i64 pl, .string y1, .string y2, .string y3, .string y4] 26)) := (Below.refl _ _).alloc (Nat.le_refl _) _
        have hacA := own_below hac3 bA
        have hzA : (W3.alloc (.cells #[.int .i64 pl, .string y1, .string y2, .string y3, .string y4] 26)).heap.size = W3.heap.size + 1 := World.size_alloc _ _
        have hz4 := hgrow.size
        rw [hzA] at hz4
        have hown4 := own_keepK (own_below (unhide HST) bA) hacA (by decide) hgrow
        have hkid4 := own_keepK (own_below (unhide HKID) bA) hacA (by decide) hgrow
        have hbx4 := blk_keep ((unhide HBX).below bA) hacA (by decide) hgrow
        have hP4 := blk_keep ((unhide HP3).below bA) hacA (by decide) hgrow
        have hmk4 := ((unhide HMK).below bA).grown hgrow (own_isCells hacA)
        have hB4 := below_own ((unhide HB3).trans (bA.mono hB3s)) hacA hgrow (by omega)
        obtain ⟨l4, c4, hv4⟩ := own_formH hac4
        subst hv4
        have b5 : Below W4.heap.size W4 (W4.alloc (.cells #[.slice ka kn kc] 28)) := (Below.refl _ _).alloc (Nat.le_refl _) _
        have hown5 := own_below hown4 b5
        have hac5 := own_below hac4 b5
        have hkid5 := own_below hkid4 b5
        have hbx5 := hbx4.below b5
        have hP5 := hP4.below b5
        have hmk5 := hmk4.below b5
        have hB5 := hB4.trans (b5.mono (by omega))
        have hK5 := Blk.new W4 28 #[.slice ka kn kc]
        have hz5 : (W4.alloc (.cells #[.slice ka kn kc] 28)).heap.size = W4.heap.size + 1 := World.size_alloc _ _
        clear bA hacA hzA hown4 hkid4 hbx4 hP4 hmk4 hB4 hac4 hgrow b5 HST HKID HBX HP3 HMK HB3 hac3 d0 d1 d2 d3 d4
        go_wp2_with fail
        refine (callsIn_wide.1 (backward_in Fence.wide 3 trivial rfl _ _ _ _)).mono ?_
        rintro e _ ⟨rfl, rfl⟩
        generalize W4.alloc (.cells #[.slice ka kn kc] 28) = W5 at hown5 hac5 hkid5 hbx5 hP5 hmk5 hB5 hK5 hz5 ⊢
        go_wp2
        have hown6 := own_part hown5 (show n - 1 ≤ n by omega) (by omega)
        have htk : (flatG skC (st'.reverse ++ [(pl, tx)])).take ((n - 1) * 6) = flatG skC st'.reverse := by
          rw [← flatG_take skC_len, ← unhide HKN]
          congr 1
          rw [List.take_append_of_le_length (by rw [List.length_reverse]; exact Nat.le_of_eq (unhide HKL).symm)]
          exact List.take_of_length_le (by rw [List.length_reverse]; exact Nat.le_of_eq (unhide HKL))
        rw [htk] at hown6
        clear htk hown5
        obtain ⟨zs, hzs⟩ : ∃ zs : List ByteArray, zs = (rdK pl tx).map fun q => (rdY tx).extract q.1 q.2 := ⟨_, rfl⟩
        have hzl : zs.length = (rdK pl tx).length := by rw [hzs, List.length_map]
        have hzk : zs.length ≤ 257 := by rw [hzl]; exact unhide HK257
        have hKO : kidsO (pl, tx) = zs.map (fun t => (pl + 1, t)) := by
          rw [hzs, List.map_map]
          rfl
        obtain ⟨b, hI, hbK⟩ : ∃ b, ((Value.slice ka kn kc = .slice none 0 0 ∧ zs = []) ∨ ∃ off cap, Value.slice ka kn kc = .slice (some ⟨b, off, none⟩) zs.length cap ∧ b < W5.heap.size ∧ ∀ j, j < zs.length → W5.cell? ⟨b, off + j, none⟩ = some (.string (zs[j]?.getD ⟨#[]⟩))) ∧ (b = W4.heap.size ∨ (Value.slice ka kn kc).ownBlock = some b) := by
          rcases hkid5.2 with ⟨h1, h2⟩ | ⟨g', cap', cur, h1, _, h3, _⟩
          · exact ⟨W4.heap.size, .inl ⟨h1, List.eq_nil_of_length_eq_zero (by omega)⟩, .inl rfl⟩
          · have hcc := hkid5.cells (g := g') (by rw [h1]; rfl)
            refine ⟨g', .inr ⟨0, cap', by rw [h1, hzl], (Array.getElem?_eq_some_iff.1 h3).1, fun j hj => ?_⟩, .inr (by rw [h1]; rfl)⟩
            have := hcc j (.string (zs[j]?.getD ⟨#[]⟩)) (by
              rw [hzs]
              rw [hzl] at hj
              rw [List.getElem?_map, List.getElem?_map, List.getElem?_eq_getElem hj]
              rfl)
            rw [add_off0] at this
            exact this
        have hlt4 : W4.heap.size < W5.heap.size := by omega
        have hblt : b < W5.heap.size := by
          rcases hbK with rfl | e
          · exact hlt4
          · exact (hkid5.lt b e).2
        have hK5c := hK5.cell 0
        simp only [List.getElem?_toArray, List.getElem?_cons_zero] at hK5c
        have hSTOP := backward_stops Fence.wide 2 trivial rfl (by omega) W4.heap.size b _ zs (by omega) W5 hlt4 hK5c hI
        have hmlt := hmk5.lt
        have hPlt := hP5.lt
        have hbxlt := hbx5.lt
        have hw5 : w.heap.size ≤ W5.heap.size := by omega
        have hpl1 : wrap64 (pl + 1) = pl + 1 := by unfold wrap64; omega
        have hI0 : (∃ sv, Blk W5 (w.heap.size + 1) 49 #[sv] ∧ W5.ownsRow w.heap.size 48 6 sv (n - 1 + 0) (flatG skC (st'.reverse ++ [])) ∧ sv.ownBlock ≠ some w'.heap.size) := ⟨_, hbx5, by rw [List.append_nil]; exact hown6, by
          intro e
          have e := Option.some.inj e
          simp only at e
          omega⟩
        generalize Value.slice (some ⟨g, 0, none⟩) n sc = q1
        generalize Value.int .i64 (n : Int) = q2
        generalize Value.int .i64 ((n : Int) - 1) = q3
        generalize Value.pointer (some ⟨g, (n - 1) * 6, none⟩) = q4
        generalize Value.agg #[.int .i64 pl, .string ⟨#[]⟩, .string ⟨#[]⟩, .string ⟨#[]⟩, .string ⟨#[]⟩, .string tx] = q5
        generalize Value.slice (some ⟨g, 0, none⟩) (n - 1) sc = q6
        generalize Value.slice la m lc = q7
        generalize Value.int .i64 (m : Int) = q8
        generalize Value.agg #[.int .i64 pl, .string y1, .string y2, .string y3, .string y4] = q9
        generalize Value.slice (some ⟨W3.heap.size, 0, none⟩) 1 1 = q10
        refine (wpIn_wide (n := 3)).1 ?_
        refine wpIn_rangeFunc_ownG (w0 := W5) rfl (by omega) (gf := 38) (lb := #[.pointer (some ⟨W4.heap.size, 0, none⟩)]) rfl trivial (enters_of Tryd.func38 (by kernel_rfl) rfl) hSTOP
          (fun h k => K2.trans h k) (fun W l o o' hl _ _ _ => ⟨World.putObj_heap_other (by omega), World.putObj_heap_other (by omega)⟩) (Below.refl _ _) (fun _ => rfl)
          (fun pre W => (∃ sv, Blk W (w.heap.size + 1) 49 #[sv] ∧ W.ownsRow w.heap.size 48 6 sv (n - 1 + pre.length) (flatG skC (st'.reverse ++ pre.map (fun x => (pl + 1, x.2)))) ∧ sv.ownBlock ≠ some w'.heap.size) ∧ Blk W w'.heap.size 48 #[.int .i64 pl, .string y1, .string y2, .string y3, .string y4, .string tx] ∧
            W.ownsRow w.heap.size 26 5 (.slice l4 (m + 1) c4) (m + 1) (flatG ptC acc ++ [.int .i64 pl, .string y1, .string y2, .string y3, .string y4]) ∧ MarksAt w.heap.size W ds ∧ Below w.heap.size w W ∧ Blk W W4.heap.size 28 #[.slice ka kn kc] ∧ W.ownsRow W2.heap.size 9 1 (.slice ka kn kc) (rdK pl tx).length ((rdK pl tx).map (cutV (rdY tx))) ∧ W5.heap.size ≤ W.heap.size)
          (fun _ _ _ => False) ?own (fun _ _ _ _ _ h _ _ => h) ⟨hI0, hP5, hac5, hmk5, hB5, hK5, hkid5, Nat.le_refl _⟩
          (fun x => { tmps := #[.string s, undef, .slice none 0 0, .slice l4 (m + 1) c4, .pointer (some ⟨w.heap.size + 1, 0, none⟩), .pointer (some ⟨w'.heap.size, 0, none⟩), Value.slice ka kn kc, u7, .string x.2, u9, u10, u11, q1, q2, .bool false, .bool false, q7, q8, .bool false, .bool false, u20, q1, q1, q2, q3, q4, q5, q1, q1, q2, q3, q6, Value.slice ka kn kc, q7, .pointer (some ⟨w'.heap.size, 0, none⟩), q9, q10, .slice l4 (m + 1) c4, Value.slice ka kn kc, .func (.func 38) #[] #[.pointer (some ⟨W4.heap.size, 0, none⟩)], .int .i64 x.1, .string x.2, u42, u43, u44, u45, u46, u47, u48, u49, u50, u51], defers := [] }) ?assign ?body ?done (fun _ _ _ _ _ _ h _ => h.elim)
        case own =>
          rintro pre W W' row ⟨⟨sv, i1, i2, i3⟩, i4, i5, i6, i7, i8, i9, i10⟩ hg hr
          have ho : OthR W row := fun r e => (hr r e).2
          exact ⟨⟨sv, blk_from i1 hg ho, own_from i2 hg ho, i3⟩, blk_from i4 hg ho, own_from i5 hg ho, i6.from hmlt hg (fun r e => (hr r e).1), i7.grown hg (by omega) (fun k e => by have := (hr k e).1; omega), blk_from i8 hg ho, own_from i9 hg ho, Nat.le_trans i10 hg.size⟩
        case assign =>
          intro l x W K hK
          gi_wp2
          exact hK
        case body =>
          rintro l pre x W ⟨⟨sv, i1, i2, i3⟩, i4, i5, i6, i7, i8, i9, i10⟩ hlen
          obtain ⟨a', c', W1, hrun, j1, j2, j3, j4, j5, j6, j7⟩ := push_any W w.heap.size (w.heap.size + 1) (n - 1 + pre.length) sv _ (pl + 1, x.2) i1 i2 (by omega) (by omega) 49
          have hnc : ∀ (k : Nat) (o : Obj), W.heap[k]? = some o → o.isCells = false → (W1.setCell ⟨w.heap.size + 1, 0, none⟩ (.slice a' (n - 1 + pre.length + 1) c')).heap[k]? = some o := fun k o ho hc => j4 k o ho (by
            rintro rfl
            rw [show W.heap[w.heap.size + 1]? = _ from i1] at ho
            cases ho
            cases hc) (fun e => by
            obtain ⟨o', h1, h2⟩ := own_isCells i2 k e
            rw [ho] at h1
            cases h1
            rw [hc] at h2
            cases h2)
          have hbl : ∀ (D : Nat) (t : TypeId) (cs : Array Value), t ≠ 48 → t ≠ 49 → Blk W D t cs → Blk (W1.setCell ⟨w.heap.size + 1, 0, none⟩ (.slice a' (n - 1 + pre.length + 1) c')) D t cs := fun D t cs h1 h2 hb => j4 D _ hb (blk_ne hb i1 h2) (own_apart i2 hb h1)
          have hPB : Blk (W1.setCell ⟨w.heap.size + 1, 0, none⟩ (.slice a' (n - 1 + pre.length + 1) c')) w'.heap.size 48 #[.int .i64 pl, .string y1, .string y2, .string y3, .string y4, .string tx] := j4 _ _ i4 (blk_ne i4 i1 (by decide)) i3
          have hKK : K2 W4.heap.size b W (W1.setCell ⟨w.heap.size + 1, 0, none⟩ (.slice a' (n - 1 + pre.length + 1) c')) := by
            have hB4' : (W1.setCell ⟨w.heap.size + 1, 0, none⟩ (.slice a' (n - 1 + pre.length + 1) c')).heap[W4.heap.size]? = W.heap[W4.heap.size]? := (show _ = some _ from hbl _ _ _ (by decide) (by decide) i8).trans (show W.heap[W4.heap.size]? = some _ from i8).symm
            refine ⟨hB4', ?_⟩
            rcases hbK with rfl | e
            · exact hB4'
            · rcases i9.2 with ⟨h1, _⟩ | ⟨g', cap', cur, h1, _, h3, _⟩
              · rw [h1] at e
                cases e
              · rw [h1] at e
                have e := Option.some.inj e
                simp only at e
                subst e
                exact (show _ = some _ from hbl _ _ _ (by decide) (by decide) h3).trans (show W.heap[g']? = some _ from h3).symm
          have hln : (pre ++ [x]).length = pre.length + 1 := by simp
          have HFIN := hide (show KeepsFrom W5.heap.size W (W1.setCell ⟨w.heap.size + 1, 0, none⟩ (.slice a' (n - 1 + pre.length + 1) c')) ∧ K2 W4.heap.size b W (W1.setCell ⟨w.heap.size + 1, 0, none⟩ (.slice a' (n - 1 + pre.length + 1) c')) ∧
            (∃ sv, Blk (W1.setCell ⟨w.heap.size + 1, 0, none⟩ (.slice a' (n - 1 + pre.length + 1) c')) (w.heap.size + 1) 49 #[sv] ∧ (W1.setCell ⟨w.heap.size + 1, 0, none⟩ (.slice a' (n - 1 + pre.length + 1) c')).ownsRow w.heap.size 48 6 sv (n - 1 + (pre ++ [x]).length) (flatG skC (st'.reverse ++ (pre ++ [x]).map (fun x => (pl + 1, x.2)))) ∧ sv.ownBlock ≠ some w'.heap.size) ∧ Blk (W1.setCell ⟨w.heap.size + 1, 0, none⟩ (.slice a' (n - 1 + pre.length + 1) c')) w'.heap.size 48 #[.int .i64 pl, .string y1, .string y2, .string y3, .string y4, .string tx] ∧
            (W1.setCell ⟨w.heap.size + 1, 0, none⟩ (.slice a' (n - 1 + pre.length + 1) c')).ownsRow w.heap.size 26 5 (.slice l4 (m + 1) c4) (m + 1) (flatG ptC acc ++ [.int .i64 pl, .string y1, .string y2, .string y3, .string y4]) ∧ MarksAt w.heap.size (W1.setCell ⟨w.heap.size + 1, 0, none⟩ (.slice a' (n - 1 + pre.length + 1) c')) ds ∧ Below w.heap.size w (W1.setCell ⟨w.heap.size + 1, 0, none⟩ (.slice a' (n - 1 + pre.length + 1) c')) ∧ Blk (W1.setCell ⟨w.heap.size + 1, 0, none⟩ (.slice a' (n - 1 + pre.length + 1) c')) W4.heap.size 28 #[.slice ka kn kc] ∧ (W1.setCell ⟨w.heap.size + 1, 0, none⟩ (.slice a' (n - 1 + pre.length + 1) c')).ownsRow W2.heap.size 9 1 (.slice ka kn kc) (rdK pl tx).length ((rdK pl tx).map (cutV (rdY tx))) ∧ W5.heap.size ≤ (W1.setCell ⟨w.heap.size + 1, 0, none⟩ (.slice a' (n - 1 + pre.length + 1) c')).heap.size from
            ⟨⟨j5, fun k o _ ho hc => hnc k o ho hc⟩, hKK, ⟨_, j2, by
              rw [hln, ← Nat.add_assoc, List.map_append, ← List.append_assoc, flatG_append, List.map_cons, List.map_nil, flatG_one]
              exact j3, by
              rcases j7 with e | e
              · rw [e]; exact i3
              · rw [e]
                intro e
                have e := Option.some.inj e
                omega⟩, hPB, own_same i5 (fun D cur _ hb => hbl D _ cur (by decide) (by decide) hb), i6.same hnc, i7.trans (j6 _ (Nat.le_refl _) (by omega)), hbl _ _ _ (by decide) (by decide) i8, own_same i9 (fun D cur _ hb => hbl D _ cur (by decide) (by decide) hb), Nat.le_trans i10 j5⟩)
          obtain ⟨sa', sc', hsv'⟩ := own_formH i2
          subst hsv'
          have hcb := i1.cell 0
          have hcl := i4.cell 0
          have hj1 := j1.cell 0
          have hjf := j1.frozen 0
          simp only [List.getElem?_toArray, List.getElem?_cons_succ, List.getElem?_cons_zero] at hcb hcl hj1
          have HRUN := hide hrun
          have hp8 : pl ≤ 8 := by omega
          have hp0 : 0 ≤ pl := by omega
          clear hrun j1 j2 j3 j4 j5 j6 j7 hnc hbl hPB hKK hln i1 i2 i3 i4 i5 i6 i7 i8 i9 hbK hI hzs hzl hKO hlen hI0 hSTOP hK5c
          gi_wp2_with (gi_at_builtin; refine wpListIn_append_runM rfl _ _ 49 rfl rfl rfl rfl (unhide HRUN) ?_)
          have hfin := unhide HFIN
          rw [hz5, hz2] at hfin
          exact hfin
        case done =>
          rintro D ys W hD hS ⟨⟨sv, i1, i2, i3⟩, i4, i5, i6, i7, i8, i9, i10⟩ hK
          have hST : kidsO (pl, tx) ++ st' = zs.map (fun t => (pl + 1, t)) ++ st' := by rw [hKO]
          have hrw : (kidsO (pl, tx) ++ st').reverse = st'.reverse ++ ys.map (fun x => (pl + 1, x.2)) := by
            rw [hKO, List.reverse_append, ← List.map_reverse, ← bkU_all, List.map_map, ← hS]
            rfl
          have hyl : ys.length = zs.length := by rw [hS, bkU_length]
          have hla : (acc ++ [ptOf (pl, tx)]).length = m + 1 := by rw [List.length_append, unhide HY]; rfl
          have hls : (kidsO (pl, tx) ++ st').length = n - 1 + ys.length := by rw [hKO, List.length_append, List.length_map, unhide HKL, unhide HKN, hyl]; omega
          have hEE : (acc ++ [ptOf (pl, tx)]) ++ ptsF (256 - (m + 1)) (kidsO (pl, tx) ++ st') = ptsL s := by
            rw [← unhide HE, List.append_assoc]
            have : 256 - m = (256 - (m + 1)) + 1 := by have := unhide HM; omega
            rw [this]
            rfl
          have hro : W.ownsRow w.heap.size 48 6 sv (kidsO (pl, tx) ++ st').length (flatG skC (kidsO (pl, tx) ++ st').reverse) := by
            rw [hls, hrw]
            exact i2
          have hao : W.ownsRow w.heap.size 26 5 (.slice l4 (m + 1) c4) (acc ++ [ptOf (pl, tx)]).length (flatG ptC (acc ++ [ptOf (pl, tx)])) := by
            rw [hla, flatG_append, flatG_one, unhide HPT]
            exact i5
          have hm' := unhide HM
          have HFIN := hide (show Hid (acc ++ [ptOf (pl, tx)] ++ ptsF (256 - (acc ++ [ptOf (pl, tx)]).length) (kidsO (pl, tx) ++ st') = ptsL s) ∧ (acc ++ [ptOf (pl, tx)]).length ≤ 256 ∧ (kidsO (pl, tx) ++ st').length ≤ 1 + 257 * (acc ++ [ptOf (pl, tx)]).length ∧ Hid (SkOk s.size (kidsO (pl, tx) ++ st')) ∧
            Blk W (w.heap.size + 1) 49 #[sv] ∧ W.ownsRow w.heap.size 48 6 sv (kidsO (pl, tx) ++ st').length (flatG skC (kidsO (pl, tx) ++ st').reverse) ∧
            W.ownsRow w.heap.size 26 5 (.slice l4 (m + 1) c4) (acc ++ [ptOf (pl, tx)]).length (flatG ptC (acc ++ [ptOf (pl, tx)])) ∧ MarksAt w.heap.size W (D :: ds) ∧ Below w.heap.size w W from
            ⟨hide (by rw [hla]; exact hEE), by omega, by omega, hide (unhide HOK).next, i1, hro, hao, hmk5.cons hD (by omega) hK (fun E hE => (i6.2 E hE).2), i7⟩)
          clear hI0 hSTOP hI hK5c hST hrw hyl hla hls hEE hro hao i1 i2 i3 i4 i5 i6 i7 i8 i9 hbK hKO hzl hzk hS
          go_wp2
          go_step3
          refine ⟨rfl, ⟨_, _, D :: ds, .slice l4 (m + 1) c4, sv, _, _, _, _, _, _, _, _, _, _, _, _, _, _, _, _, _, _, _, _, _, _, _, _, _, _, _, _, _, _, _, _, _, _, _, _, _, _, _, _, _, _, _, _, _, _, _, rfl, unhide HFIN⟩, ?_⟩
          show 256 - (m + 1) < 256 - m
          omega
end Go.Proofs.YtedpimhhbajljaaDoor
