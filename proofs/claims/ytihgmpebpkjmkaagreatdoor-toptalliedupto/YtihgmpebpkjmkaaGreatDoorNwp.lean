/-
  What nset.Parse does, over this seat's program: the walk.
-/
import Derived.Test.YtihgmpebpkjmkaaGreatDoorNwo
import Derived.Maps.AppendAt
set_option linter.unusedVariables false
namespace Go.Proofs.YtihgmpebpkjmkaaGreatDoor
open Go.RowKit Go.Shelf Go.Proofs.Nst
attribute [local go_sem] Oper.semAt_some

theorem run_appS2 (w : World) (B : Nat) (v : Value) (k : List Sp) (p : Sp) (ty : TypeId) (hown : w.ownsRow B 79 2 v k.length (flatG cellsS k)) (hkl : k.length ≤ 4194304) (hB : B ≤ w.heap.size) :
    ∃ v' w', (Builtin.append_ #[26, 26] ty #[v, .slice (some ⟨w.heap.size, 0, none⟩) 1 1]).run Tryz.prog (w.alloc (.cells #[.int .u32 (p.1 : Int), .int .u32 (p.2 : Int)] 79)) = .ok v' w' ∧ w'.ownsRow B 79 2 v' (k ++ [p]).length (flatG cellsS (k ++ [p])) ∧ (w.alloc (.cells #[.int .u32 (p.1 : Int), .int .u32 (p.2 : Int)] 79)).grownBy w' v.ownBlock ∧ (v'.ownBlock = v.ownBlock ∨ v'.ownBlock = some (w.heap.size + 1)) := by
  obtain ⟨i0, hi, hz0, hz1, hz2⟩ := info_partsN spInfo
  have hx : (w.alloc (.cells (cellsS p).toArray 79)).ownsRow B 79 2 (.slice (some ⟨w.heap.size, 0, none⟩) 1 1) 1 (cellsS p).toArray.toList := World.ownsRow_lit w (cellsS p).toArray 1 hB (by unfold maxLen; omega) rfl
  have hc := hx.cells (g := w.heap.size) rfl
  have hown' := own_below hown ((Below.refl _ w).alloc (Nat.le_refl _) (.cells (cellsS p).toArray 79))
  obtain ⟨v', w', hrun, h2, h3, h4, h5⟩ := run_append_own_at (P := Tryz.prog) (w := w.alloc (.cells (cellsS p).toArray 79)) B 26 ty 79 i0 (.agg #[.int .u32 0, .int .u32 0]) 2 8 Tryz.underlying26 hi hz0 hz1 hz2 rfl (by decide) v k.length (flatG cellsS k) hown' ⟨w.heap.size, 0, none⟩ 1 1 (cellsS p) rfl hc (by intro u hu; simp [cellsS] at hu; rcases hu with rfl | rfl <;> rfl) (by unfold maxLen; omega) (by omega) (by rw [World.size_alloc]; omega)
  refine ⟨v', w', hrun, ?_, h3, by rw [World.size_alloc] at h5; exact h5⟩
  rw [List.length_append, flatG_append]
  simpa [flatG] using h2

set_option maxHeartbeats 4000000 in
set_option maxRecDepth 100000 in
theorem nparse_any (s : ByteArray) (w : World) (hE : ErrN w) (hs : s.size ≤ 140737488355328) :
    Calls Tryz.prog 9 #[.string s] w fun e w' => ∃ v, e = .returned (.tuple #[v, .int .i64 ((parseP s.data.toList).2 : Int)]) ∧ w'.ownsRow w.heap.size 79 2 v (parseP s.data.toList).1.length (flatG cellsS (parseP s.data.toList).1) ∧ Below w.heap.size w w' := by
  have HPC := hide (fun W => spansOf_any s W)
  have HE := hide hE
  clear hE
  refine (callsIn_wide (n := 3)).1 ?_
  refine callsIn_of_wp_marks Tryz.func9 rfl trivial ?_ rfl
  simp only [Tryz.ntmps9, List.size_toArray, List.length_cons, List.length_nil, Nat.reduceAdd, Nat.reduceSub, Array.replicate_succ, Array.replicate_zero, List.push_toArray, List.append_toArray, List.nil_append, List.cons_append]
  gi_wp2_with fail
  refine ⟨trivial, (callsIn_wide.2 (unhide HPC _)).mono ?_⟩
  rintro e _ ⟨rfl, rfl⟩
  clear HPC
  gi_wp2
  have bR : Boxed ((((w.alloc (.cells #[.slice none 0 0] 26)).alloc (.cells #[.int .i64 0] 29)).alloc (.cells #[.slice none 0 0] 26)).alloc (.cells #[.string s] 9)) w.heap.size 26 (.slice none 0 0) := (((Boxed.new w _ _).alloc _).alloc _).alloc _
  have bE : Boxed ((((w.alloc (.cells #[.slice none 0 0] 26)).alloc (.cells #[.int .i64 0] 29)).alloc (.cells #[.slice none 0 0] 26)).alloc (.cells #[.string s] 9)) (w.heap.size + 1) 29 (.int .i64 0) := (by
    have := Boxed.new (w.alloc (.cells #[.slice none 0 0] 26)) 29 (.int .i64 0)
    rw [World.size_alloc] at this
    exact (this.alloc _).alloc _)
  have bL : Boxed ((((w.alloc (.cells #[.slice none 0 0] 26)).alloc (.cells #[.int .i64 0] 29)).alloc (.cells #[.slice none 0 0] 26)).alloc (.cells #[.string s] 9)) (w.heap.size + 2) 26 (.slice none 0 0) := (by
    have := Boxed.new ((w.alloc (.cells #[.slice none 0 0] 26)).alloc (.cells #[.int .i64 0] 29)) 26 (.slice none 0 0)
    rw [World.size_alloc, World.size_alloc] at this
    exact this.alloc _)
  have bS : Boxed ((((w.alloc (.cells #[.slice none 0 0] 26)).alloc (.cells #[.int .i64 0] 29)).alloc (.cells #[.slice none 0 0] 26)).alloc (.cells #[.string s] 9)) (w.heap.size + 3) 9 (.string s) := (by
    have := Boxed.new (((w.alloc (.cells #[.slice none 0 0] 26)).alloc (.cells #[.int .i64 0] 29)).alloc (.cells #[.slice none 0 0] 26)) 9 (.string s)
    rw [World.size_alloc, World.size_alloc, World.size_alloc] at this
    exact this)
  have hB0 : Below w.heap.size w ((((w.alloc (.cells #[.slice none 0 0] 26)).alloc (.cells #[.int .i64 0] 29)).alloc (.cells #[.slice none 0 0] 26)).alloc (.cells #[.string s] 9)) := ((((Below.refl _ w).alloc (Nat.le_refl _) _).alloc (by simp) _).alloc (by simp; omega) _).alloc (by simp; omega) _
  have hz0 : ((((w.alloc (.cells #[.slice none 0 0] 26)).alloc (.cells #[.int .i64 0] 29)).alloc (.cells #[.slice none 0 0] 26)).alloc (.cells #[.string s] 9)).heap.size = w.heap.size + 4 := by simp [World.size_alloc]
  generalize ((((w.alloc (.cells #[.slice none 0 0] 26)).alloc (.cells #[.int .i64 0] 29)).alloc (.cells #[.slice none 0 0] 26)).alloc (.cells #[.string s] 9)) = W0 at bR bE bL bS hB0 hz0 ⊢
  refine wpIn_range_boxL rfl (by omega) (gf := 49) (lb := #[.pointer (some ⟨w.heap.size + 1 + 1 + 1, 0, none⟩)]) rfl trivial (enters_of Tryz.func49 (by kernel_rfl) rfl)
    (spans_gives s w W0 _ (w.heap.size + 3) (by omega) hs (unhide HE) hB0 bS (by omega) (by omega)) (by omega) (by rintro k rfl; omega) (by omega) (fun _ => rfl)
    (IP w w.heap.size) (IX w w.heap.size) (MineN w.heap.size) (IP.own (Nat.le_refl _) (by omega)) (IX.own (by omega)) (fun _ _ _ h hg => h.atBr hg)
    ?mine (fun _ _ _ h hg => h.atBr hg) (fun _ _ _ _ h hg hk => hk.back h hg (by simp)) ?older
    ⟨⟨_, bL, World.ownsRow_nil _ _ _ _⟩, bR, bE, by simp, hB0, by omega⟩
    (fun p => .cells #[.int .u32 ((spanP p).1.1 : Int), .int .u32 ((spanP p).1.2 : Int)] 79)
    (fun C p => { tmps := #[.string s, undef, .pointer (some ⟨w.heap.size, 0, none⟩), .pointer (some ⟨w.heap.size + 1, 0, none⟩), .pointer (some ⟨w.heap.size + 1 + 1, 0, none⟩), .pointer (some ⟨C, 0, none⟩), .bool (spanP p).2, .string s, .func (.func 49) #[] #[.pointer (some ⟨w.heap.size + 1 + 1 + 1, 0, none⟩)], .agg #[.int .u32 ((spanP p).1.1 : Int), .int .u32 ((spanP p).1.2 : Int)], .bool (spanP p).2, undef, undef, undef, undef, undef, undef, undef, undef, undef, undef, undef, undef, undef], defers := [] }) ?assign ?body ?done ?left
  case mine =>
    rintro q A k h hk
    obtain ⟨v, hv, hrow⟩ := h.row
    rcases hk with rfl | rfl | rfl | ⟨u, hu, hk⟩
    · exact ⟨Nat.le_refl _, by omega, cells_of_cell h.res.cell⟩
    · exact ⟨by omega, by omega, cells_of_cell h.err.cell⟩
    · exact ⟨by omega, by omega, cells_of_cell hv.cell⟩
    · rw [hv.cell] at hu
      cases hu
      obtain ⟨h1, h2⟩ := gown_blockS hrow hk
      exact ⟨by omega, by omega, h2⟩
  case older =>
    rintro q A B row k h hg hr hk
    refine hk.back h hg (fun e => ?_)
    obtain ⟨v, hv, hrow⟩ := h.row
    obtain ⟨_, o, h2, h3⟩ := hr _ e.symm
    rw [show A.heap[w.heap.size + 2]? = _ from hv] at h2
    cases h2
    cases h3
  case assign =>
    intro l p W K hK
    simp only [pieceV]
    gi_wp2
    exact hK
  case body =>
    rintro l' C pre p W h hsp hC hnC hwC
    clear bR bE bL bS hB0 HE
    have hBlk : Blk W C 79 #[.int .u32 ((spanP p).1.1 : Int), .int .u32 ((spanP p).1.2 : Int)] := hC
    obtain ⟨v, hv, hrow⟩ := h.row
    have hcL := hv.cell
    have hfL := hv.frozen
    have hcR := h.res.cell
    have hfR := h.res.frozen
    have hcE := h.err.cell
    have hfE := h.err.frozen
    cases hr : (spanP p).2 with
    | false =>
      have HFIN : Hid (KeptBut (MineN w.heap.size) W ((W.setCell ⟨w.heap.size, 0, none⟩ (.slice none 0 0)).setCell ⟨w.heap.size + 1, 0, none⟩ (.int .i64 7)) ∧ IX w w.heap.size (pre ++ [p]) ((W.setCell ⟨w.heap.size, 0, none⟩ (.slice none 0 0)).setCell ⟨w.heap.size + 1, 0, none⟩ (.int .i64 7))) := hide (by
        have g1 := grownBy_setCell' W w.heap.size (.slice none 0 0)
        have g2 := grownBy_setCell' (W.setCell ⟨w.heap.size, 0, none⟩ (.slice none 0 0)) (w.heap.size + 1) (.int .i64 7)
        have hv2 : Boxed ((W.setCell ⟨w.heap.size, 0, none⟩ (.slice none 0 0)).setCell ⟨w.heap.size + 1, 0, none⟩ (.int .i64 7)) (w.heap.size + 2) 26 v := (hv.kept g1 (by simp)).kept g2 (by simp)
        refine ⟨⟨g2.os.trans g1.os, g2.tape.trans g1.tape, g2.output.trans g1.output, Nat.le_trans g1.size g2.size, fun k hk hn => ?_, ?_⟩, ⟨?_, ?_, ⟨p, by simp, hr⟩, ?_, ?_⟩⟩
        · rw [g2.block k (by have := g1.size; omega) (fun e => hn (.inr (.inl (Option.some.inj e)))), g1.block k hk (fun e => hn (.inl (Option.some.inj e)))]
        · rintro k (hk | hk | hk | ⟨u, hu, hk⟩)
          · exact .inl (.inl hk)
          · exact .inl (.inr (.inl hk))
          · exact .inl (.inr (.inr (.inl hk)))
          · rw [hv2.cell] at hu
            cases hu
            exact .inl (.inr (.inr (.inr ⟨v, hcL, hk⟩)))
        · exact (h.res.set _).kept g2 (by simp)
        · exact (h.err.kept g1 (by simp)).set _
        · exact (h.bel.setCell (p := ⟨w.heap.size, 0, none⟩) (Nat.le_refl _) _).setCell (p := ⟨w.heap.size + 1, 0, none⟩) (by show w.heap.size ≤ w.heap.size + 1; omega) _
        · exact Nat.le_trans h.size (Nat.le_trans g1.size g2.size))
      clear h hv hrow hBlk hC hnC hsp
      generalize (spanP p).1.1 = sf at *
      generalize (spanP p).1.2 = st at *
      gi_wp2
      exact unhide HFIN
    | true =>
      have hall : ∀ q ∈ pre ++ [p], (spanP q).2 = true := fun q hq => by
        rcases List.mem_append.1 hq with hq | hq
        · exact h.all q hq
        · simp at hq; rw [hq]; exact hr
      have hsn := accP_snoc pre p
      have hal := accP_len pre
      obtain ⟨av, cv, hvs, _⟩ := own_sliceG hrow
      by_cases hm : (accP pre).length ≤ 1024
      · rw [if_pos hm] at hsn
        obtain ⟨v', w1, hrun, hown', hgrow, hblk⟩ := run_appS2 W (w.heap.size + 4) v (accP pre) (spanP p).1 26 hrow (by omega) h.size
        have hga : W.grownBy (W.alloc (.cells #[.int .u32 ((spanP p).1.1 : Int), .int .u32 ((spanP p).1.2 : Int)] 79)) none := World.grownBy_alloc _ _ _
        have hne : some (w.heap.size + 2) ≠ v.ownBlock := hv.not_row (by decide) hrow
        have hnb : ∀ x, x < w.heap.size + 4 → some x ≠ v.ownBlock := fun x hx e => by have := (gown_blockS hrow e.symm).1; omega
        obtain ⟨a', c', hv', _⟩ := own_sliceG hown'
        subst hv'
        have hv1 : Boxed w1 (w.heap.size + 2) 26 v := (hv.kept hga (by simp)).kept hgrow hne
        have hc1 := hv1.cell
        have hf1 := hv1.frozen
        have hg2 := grownBy_setCell' w1 (w.heap.size + 2) (.slice a' (accP pre ++ [(spanP p).1]).length c')
        have HFIN : Hid (KeptBut (MineN w.heap.size) W (w1.setCell ⟨w.heap.size + 2, 0, none⟩ (.slice a' (accP pre ++ [(spanP p).1]).length c')) ∧ IP w w.heap.size (pre ++ [p]) (w1.setCell ⟨w.heap.size + 2, 0, none⟩ (.slice a' (accP pre ++ [(spanP p).1]).length c'))) := hide (by
          have hv2 := hv1.set (.slice a' (accP pre ++ [(spanP p).1]).length c')
          have hr2 := hown'.kept hg2 (.inr (hv1.not_row (by decide) hown').symm)
          have hK : KeptBut (MineN w.heap.size) W (w1.setCell ⟨w.heap.size + 2, 0, none⟩ (.slice a' (accP pre ++ [(spanP p).1]).length c')) := by
            refine ⟨hg2.os.trans (hgrow.os.trans hga.os), hg2.tape.trans (hgrow.tape.trans hga.tape), hg2.output.trans (hgrow.output.trans hga.output), Nat.le_trans hga.size (Nat.le_trans hgrow.size hg2.size), fun k hk hn => ?_, ?_⟩
            · rw [hg2.block k (by have := hga.size; have := hgrow.size; omega) (fun e => hn (.inr (.inr (.inl (Option.some.inj e))))), hgrow.block k (by have := hga.size; omega) (fun e => hn (.inr (.inr (.inr ⟨v, hcL, e.symm⟩)))), hga.block k hk (by simp)]
            · rintro k (hk | hk | hk | ⟨u, hu, hk⟩)
              · exact .inl (.inl hk)
              · exact .inl (.inr (.inl hk))
              · exact .inl (.inr (.inr (.inl hk)))
              · rw [hv2.cell] at hu
                cases hu
                rcases hblk with hb | hb
                · exact .inl (.inr (.inr (.inr ⟨v, hcL, hb.symm.trans hk⟩)))
                · rw [hb] at hk
                  cases hk
                  exact .inr (by omega)
          refine ⟨hK, ⟨⟨_, hv2, by rw [hsn]; exact hr2⟩, ?_, ?_, hall, ?_, ?_⟩⟩
          · exact ((h.res.kept hga (by simp)).kept hgrow (hnb _ (by omega))).kept hg2 (by simp)
          · exact ((h.err.kept hga (by simp)).kept hgrow (hnb _ (by omega))).kept hg2 (by simp)
          · refine h.bel.trans (hK.below0 h.bel.size ?_)
            rintro k (hk | hk | hk | ⟨u, hu, hk⟩)
            · omega
            · omega
            · omega
            · rw [hcL] at hu
              cases hu
              have := (gown_blockS hrow hk).1
              omega
          · exact Nat.le_trans h.size hK.size)
        have hd0 : W.cell? ⟨C, 0, none⟩ = some (.int .u32 ((spanP p).1.1 : Int)) := Blk.cell hBlk 0
        have hd1 : W.cell? ⟨C, 1, none⟩ = some (.int .u32 ((spanP p).1.2 : Int)) := Blk.cell hBlk 1
        have hle : ((accP pre).length : Int) ≤ 1024 := by omega
        have HRUN := hide hrun
        rw [hvs] at hcL HRUN hc1
        clear h hv hrow hBlk hC hnC hsp hall hsn hal hv1 hg2 hrun hown' hgrow hblk hga hne hnb hvs
        generalize (accP pre ++ [(spanP p).1]).length = M2 at *
        generalize (accP pre).length = M1 at *
        generalize (spanP p).1.1 = sf at *
        generalize (spanP p).1.2 = st at *
        gi_wp2_with (gi_at_builtin; refine wpListIn_append_runN rfl _ _ 26 rfl rfl rfl rfl (unhide HRUN) ?_)
        exact unhide HFIN
      · rw [if_neg hm] at hsn
        have HFIN : Hid (KeptBut (MineN w.heap.size) W W ∧ IP w w.heap.size (pre ++ [p]) W) := hide ⟨⟨rfl, rfl, rfl, Nat.le_refl _, fun _ _ _ => rfl, fun _ hk => .inl hk⟩, ⟨⟨v, hv, by rw [hsn]; exact hrow⟩, h.res, h.err, hall, h.bel, h.size⟩⟩
        have hle : ¬ ((accP pre).length : Int) ≤ 1024 := by omega
        rw [hvs] at hcL
        clear h hv hrow hBlk hC hnC hsp hall hsn hal hvs hm
        generalize (accP pre).length = M1 at *
        generalize (spanP p).1.1 = sf at *
        generalize (spanP p).1.2 = st at *
        gi_wp2
        exact unhide HFIN
  case done =>
    rintro D xs W hD hS h hK
    clear bR bE bL bS hB0 HE
    subst hS
    obtain ⟨v, hv, hrow⟩ := h.row
    obtain ⟨av, cv, hvs, _⟩ := own_sliceG hrow
    subst hvs
    have hcL := hv.cell
    have hcR := h.res.cell
    have hfR := h.res.frozen
    have hcE := h.err.cell
    have hfE := h.err.frozen
    have hDz := (Array.getElem?_eq_some_iff.1 hK).1
    have hDb : ∀ {x : Nat} {t : TypeId} {u : Value}, Boxed W x t u → x ≠ D := fun {x t u} hx e => by
      subst e
      rw [show W.heap[x]? = _ from hx] at hK
      cases hK
    have hD0 := hDb h.res
    have hD1 := hDb h.err
    have hDr : ∀ k, (Value.slice av (accP (piecesL s.data.toList)).length cv).ownBlock = some k → k ≠ D := fun k hk e => by
      obtain ⟨_, o, h4, h5⟩ := gown_blockS hrow hk
      subst e
      rw [hK] at h4
      cases h4
      cases h5
    have hall := h.all
    by_cases hm : (accP (piecesL s.data.toList)).length ≤ 1024
    · have hpl : (piecesL s.data.toList).length ≤ 1024 := by unfold accP at hm; rw [List.length_take, List.length_map] at hm; omega
      have hac : accP (piecesL s.data.toList) = (piecesL s.data.toList).map (fun p => (spanP p).1) := by unfold accP; rw [List.take_of_length_le (by rw [List.length_map]; omega)]
      have HPP : Hid (parseP s.data.toList = (accP (piecesL s.data.toList), 0)) := hide (by
        unfold parseP
        rw [if_pos (List.all_eq_true.2 hall), if_pos hpl, hac])
      have HFIN : Hid (∀ W2, W2 = (W.setCell ⟨w.heap.size, 0, none⟩ (.slice av (accP (piecesL s.data.toList)).length cv)).setCell ⟨w.heap.size + 1, 0, none⟩ (.int .i64 0) → W2.heap[D]? = some (.deferred (some [])) ∧ (W2.putObj D (.deferred none)).cell? ⟨w.heap.size, 0, none⟩ = some (.slice av (accP (piecesL s.data.toList)).length cv) ∧ (W2.putObj D (.deferred none)).cell? ⟨w.heap.size + 1, 0, none⟩ = some (.int .i64 0) ∧ (W2.putObj D (.deferred none)).ownsRow w.heap.size 79 2 (.slice av (accP (piecesL s.data.toList)).length cv) (accP (piecesL s.data.toList)).length (flatG cellsS (accP (piecesL s.data.toList))) ∧ Below w.heap.size w (W2.putObj D (.deferred none))) := hide (by
        rintro W2 rfl
        have g1 := grownBy_setCell' W w.heap.size (.slice av (accP (piecesL s.data.toList)).length cv)
        have g2 := grownBy_setCell' (W.setCell ⟨w.heap.size, 0, none⟩ (.slice av (accP (piecesL s.data.toList)).length cv)) (w.heap.size + 1) (.int .i64 0)
        have b1 : Boxed ((W.setCell ⟨w.heap.size, 0, none⟩ (.slice av (accP (piecesL s.data.toList)).length cv)).setCell ⟨w.heap.size + 1, 0, none⟩ (.int .i64 0)) w.heap.size 26 (.slice av (accP (piecesL s.data.toList)).length cv) := (h.res.set _).kept g2 (by simp)
        have b2 := (h.err.kept g1 (by simp)).set (.int .i64 0)
        have hKD : ((W.setCell ⟨w.heap.size, 0, none⟩ (.slice av (accP (piecesL s.data.toList)).length cv)).setCell ⟨w.heap.size + 1, 0, none⟩ (.int .i64 0)).heap[D]? = some (.deferred (some [])) := by
          rw [g2.block D (by have := g1.size; omega) (fun e => hD1 (Option.some.inj e).symm), g1.block D hDz (fun e => hD0 (Option.some.inj e).symm)]
          exact hK
        have g3 := grownBy_putObj' ((W.setCell ⟨w.heap.size, 0, none⟩ (.slice av (accP (piecesL s.data.toList)).length cv)).setCell ⟨w.heap.size + 1, 0, none⟩ (.int .i64 0)) D (.deferred none)
        refine ⟨hKD, (b1.kept g3 (fun e => hD0 (Option.some.inj e))).cell, (b2.kept g3 (fun e => hD1 (Option.some.inj e))).cell, ?_, ?_⟩
        · have hnb : ∀ x, x < w.heap.size + 4 → (Value.slice av (accP (piecesL s.data.toList)).length cv).ownBlock ≠ some x := fun x hx e => by have := (gown_blockS hrow e).1; omega
          exact own_monoS (((hrow.kept g1 (.inr (hnb _ (by omega)))).kept g2 (.inr (hnb _ (by omega)))).kept g3 (.inr (fun e => hDr D e rfl))) (by omega)
        · exact ((h.bel.setCell (p := ⟨w.heap.size, 0, none⟩) (Nat.le_refl _) _).setCell (p := ⟨w.heap.size + 1, 0, none⟩) (by show w.heap.size ≤ w.heap.size + 1; omega) _).trans (belowK_b (w := w) (Nat.le_refl _) _ D _ _ (by omega) hKD rfl rfl))
      have hle : ¬ ((accP (piecesL s.data.toList)).length : Int) > 1024 := by omega
      clear h hv hrow hDb hDr hall hm hpl hac hK
      generalize accP (piecesL s.data.toList) = AC at *
      obtain ⟨M1, hM1⟩ : ∃ M1, M1 = AC.length := ⟨_, rfl⟩
      rw [← hM1] at hcL HFIN hle
      have HM1 := hide hM1
      clear hM1
      gi_wp2
      obtain ⟨q1, q2, q3, q4, q5⟩ := unhide HFIN _ rfl
      refine ⟨by simp, .inl ⟨_, _, rfl, run_takeDeferred q1, ?_⟩⟩
      refine ⟨.tuple #[.slice av M1 cv, .int .i64 0], ?_, ?_⟩
      · rw [results_cells rfl]
        go_simp
      · rw [unhide HPP]
        exact ⟨_, rfl, by show World.ownsRow _ _ _ _ _ AC.length _; rw [← unhide HM1]; exact q4, q5⟩
    · have hpl : ¬ (piecesL s.data.toList).length ≤ 1024 := by unfold accP at hm; rw [List.length_take, List.length_map] at hm; omega
      have HPP : Hid (parseP s.data.toList = ([], 15)) := hide (by
        unfold parseP
        rw [if_pos (List.all_eq_true.2 hall), if_neg hpl])
      have HFIN : Hid (∀ W2, W2 = (W.setCell ⟨w.heap.size, 0, none⟩ (.slice none 0 0)).setCell ⟨w.heap.size + 1, 0, none⟩ (.int .i64 15) → W2.heap[D]? = some (.deferred (some [])) ∧ (W2.putObj D (.deferred none)).cell? ⟨w.heap.size, 0, none⟩ = some (.slice none 0 0) ∧ (W2.putObj D (.deferred none)).cell? ⟨w.heap.size + 1, 0, none⟩ = some (.int .i64 15) ∧ Below w.heap.size w (W2.putObj D (.deferred none))) := hide (by
        rintro W2 rfl
        have g1 := grownBy_setCell' W w.heap.size (.slice none 0 0)
        have g2 := grownBy_setCell' (W.setCell ⟨w.heap.size, 0, none⟩ (.slice none 0 0)) (w.heap.size + 1) (.int .i64 15)
        have b1 : Boxed ((W.setCell ⟨w.heap.size, 0, none⟩ (.slice none 0 0)).setCell ⟨w.heap.size + 1, 0, none⟩ (.int .i64 15)) w.heap.size 26 (.slice none 0 0) := (h.res.set _).kept g2 (by simp)
        have b2 := (h.err.kept g1 (by simp)).set (.int .i64 15)
        have hKD : ((W.setCell ⟨w.heap.size, 0, none⟩ (.slice none 0 0)).setCell ⟨w.heap.size + 1, 0, none⟩ (.int .i64 15)).heap[D]? = some (.deferred (some [])) := by
          rw [g2.block D (by have := g1.size; omega) (fun e => hD1 (Option.some.inj e).symm), g1.block D hDz (fun e => hD0 (Option.some.inj e).symm)]
          exact hK
        have g3 := grownBy_putObj' ((W.setCell ⟨w.heap.size, 0, none⟩ (.slice none 0 0)).setCell ⟨w.heap.size + 1, 0, none⟩ (.int .i64 15)) D (.deferred none)
        refine ⟨hKD, (b1.kept g3 (fun e => hD0 (Option.some.inj e))).cell, (b2.kept g3 (fun e => hD1 (Option.some.inj e))).cell, ?_⟩
        exact ((h.bel.setCell (p := ⟨w.heap.size, 0, none⟩) (Nat.le_refl _) _).setCell (p := ⟨w.heap.size + 1, 0, none⟩) (by show w.heap.size ≤ w.heap.size + 1; omega) _).trans (belowK_b (w := w) (Nat.le_refl _) _ D _ _ (by omega) hKD rfl rfl))
      have hle : ((accP (piecesL s.data.toList)).length : Int) > 1024 := by omega
      clear h hv hrow hDb hDr hall hm hpl hK
      generalize (accP (piecesL s.data.toList)).length = M1 at *
      gi_wp2
      obtain ⟨q1, q2, q3, q5⟩ := unhide HFIN _ rfl
      refine ⟨by simp, .inl ⟨_, _, rfl, run_takeDeferred q1, ?_⟩⟩
      refine ⟨.tuple #[.slice none 0 0, .int .i64 15], ?_, ?_⟩
      · rw [results_cells rfl]
        go_simp
      · rw [unhide HPP]
        exact ⟨_, rfl, World.ownsRow_nil _ _ _ _, q5⟩
  case left =>
    rintro D xs W hD hS h hK
    clear bR bE bL bS hB0 HE
    have hDb : ∀ {x : Nat} {t : TypeId} {u : Value}, Boxed W x t u → x ≠ D := fun {x t u} hx e => by
      subst e
      rw [show W.heap[x]? = _ from hx] at hK
      cases hK
    have hD0 := hDb h.res
    have hD1 := hDb h.err
    have hbad : ¬ ((piecesL s.data.toList).all fun p => (spanP p).2) = true := by
      intro hall
      obtain ⟨p, hp, hr⟩ := h.one
      have := List.all_eq_true.1 hall p (hS.subset hp)
      rw [hr] at this
      cases this
    have HPP : Hid (parseP s.data.toList = ([], 7)) := hide (by
      unfold parseP
      rw [if_neg hbad])
    have g3 := grownBy_putObj' W D (.deferred none)
    have q2 := (h.res.kept g3 (fun e => hD0 (Option.some.inj e))).cell
    have q3 := (h.err.kept g3 (fun e => hD1 (Option.some.inj e))).cell
    have HB := hide (h.bel.trans (belowK_b (w := w) (Nat.le_refl _) W D _ (.deferred none) (by omega) hK rfl rfl))
    have HK := hide hK
    clear hDb hbad g3 h hK hD0 hD1
    (try simp only [Exit.inBlock, Exit.then])
    refine ⟨by simp, .inl ⟨_, _, rfl, run_takeDeferred (unhide HK), ?_⟩⟩
    refine ⟨.tuple #[.slice none 0 0, .int .i64 7], ?_, ?_⟩
    · rw [results_cells rfl]
      go_simp
    · rw [unhide HPP]
      exact ⟨_, rfl, World.ownsRow_nil _ _ _ _, unhide HB⟩
end Go.Proofs.YtihgmpebpkjmkaaGreatDoor
