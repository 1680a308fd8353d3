/-
  What post.Blocks does, over this seat's program.
-/
import Derived.Test.YtfjjigcghhohkaaPni
set_option linter.unusedVariables false
namespace Go.Proofs.Ytfjjigcghhohkaa
open Go.RowKit Go.Shelf Go.Proofs.Num Go.Proofs.Dct Go.Proofs.Pna
attribute [local go_sem] Oper.semAt_some

theorem gown_block {w : World} {B size : Nat} {e : TypeId} {v : Value} {n : Nat} {xs : List Value} (h : w.ownsRow B e size v n xs) {k : Nat} (hk : v.ownBlock = some k) : B ≤ k ∧ k < w.heap.size := by
  rcases h.2 with ⟨rfl, _⟩ | ⟨g, cap, cur, rfl, hg, hc, _⟩
  · cases hk
  · cases hk
    exact ⟨hg, (Array.getElem?_eq_some_iff.1 hc).1⟩
theorem gown_slice {w : World} {B size : Nat} {e : TypeId} {v : Value} {n : Nat} {xs : List Value} (h : w.ownsRow B e size v n xs) : ∃ a nn cap, v = .slice a nn cap := by
  rcases h.2 with ⟨rfl, _⟩ | ⟨g, cap, cur, rfl, hg, hc, _⟩
  · exact ⟨_, _, _, rfl⟩
  · exact ⟨_, _, _, rfl⟩
def sayB (pre : List Bk) : List (Nat × List Nat) := pre.map Bk.say
theorem sayB_snoc (pre : List Bk) (x : Bk) : sayB (pre ++ [x]) = sayB pre ++ [(x.pos, x.l)] := by simp [sayB, Bk.say]
/-- The cells of what is told of a block. -/
def cellsK (p : Nat × List Nat) : List Value := [.int .u32 (p.2.getD 0 0 : Nat), .int .u32 (p.2.getD (p.2.length - 1) 0 : Nat), .int .i64 (p.2.length : Int), .int .i64 (p.1 : Int)]
theorem cellsK_len (p : Nat × List Nat) : (cellsK p).length = 4 := rfl
theorem blkInfo : (Try.prog.info? 38).map (fun i => (i.zero, i.size, i.bytes)) = some (some (.agg #[.int .u32 0, .int .u32 0, .int .i64 0, .int .i64 0]), 4, 24) := by kernel_rfl
theorem run_appK (w : World) (B : Nat) (v : Value) (k : List (Nat × List Nat)) (p : Nat × List Nat) (ty : TypeId) (hown : w.ownsRow B 38 4 v k.length (flatG cellsK k)) (hkl : k.length ≤ 4194304) (hB : B ≤ w.heap.size) :
    ∃ v' w', (Builtin.append_ #[32, 32] ty #[v, .slice (some ⟨w.heap.size, 0, none⟩) 1 1]).run Try.prog (w.alloc (.cells (cellsK p).toArray 38)) = .ok v' w' ∧ w'.ownsRow B 38 4 v' (k ++ [p]).length (flatG cellsK (k ++ [p])) ∧ (w.alloc (.cells (cellsK p).toArray 38)).grownBy w' v.ownBlock ∧ (v'.ownBlock = v.ownBlock ∨ v'.ownBlock = some (w.heap.size + 1)) := by
  obtain ⟨i0, hi, hz0, hz1, hz2⟩ := info_parts blkInfo
  have hx : (w.alloc (.cells (cellsK p).toArray 38)).ownsRow B 38 4 (.slice (some ⟨w.heap.size, 0, none⟩) 1 1) 1 (cellsK p).toArray.toList := World.ownsRow_lit w (cellsK p).toArray 1 hB (by unfold maxLen; omega) rfl
  have hc := hx.cells (g := w.heap.size) rfl
  have hown' := own_below hown ((Below.refl _ w).alloc (Nat.le_refl _) (.cells (cellsK p).toArray 38))
  obtain ⟨v', w', hrun, h2, h3, h4, h5⟩ := run_append_own_at (P := Try.prog) (w := w.alloc (.cells (cellsK p).toArray 38)) B 32 ty 38 i0 (.agg #[.int .u32 0, .int .u32 0, .int .i64 0, .int .i64 0]) 4 24 Try.underlying32 hi hz0 hz1 hz2 rfl (by decide) v k.length (flatG cellsK k) hown' ⟨w.heap.size, 0, none⟩ 1 1 (cellsK p) rfl hc (by intro u hu; simp [cellsK] at hu; rcases hu with rfl | rfl | rfl | rfl <;> rfl) (by unfold maxLen; omega) (by omega) (by rw [World.size_alloc]; omega)
  refine ⟨v', w', hrun, ?_, h3, by rw [World.size_alloc] at h5; exact h5⟩
  rw [List.length_append, flatG_append]
  simpa [flatG] using h2

set_option maxHeartbeats 4000000 in
set_option maxRecDepth 100000 in
theorem blocksP_any (s : ByteArray) (w : World) (hs : s.size ≤ 140737488355328) (hbig : (readS s.data.toList).1.length ≤ 4000000) :
    Calls Try.prog 10 #[.string s] w fun e w' => ((readS s.data.toList).2.er = 0 → ∃ v, e = .returned (.tuple #[v, .int .i64 0]) ∧ w'.ownsRow w.heap.size 38 4 v (readS s.data.toList).1.length (flatG cellsK (readS s.data.toList).1)) ∧
      ((readS s.data.toList).2.er ≠ 0 → e = .returned (.tuple #[.slice none 0 0, .int .i64 ((readS s.data.toList).2.er : Int)])) ∧ Below w.heap.size w w' := by
  have HPC := hide (fun B W => blocks_any B W)
  have HPG := hide (fun (W : World) n n0 Br Bs tb h1 => blocks_gives s W n n0 Br Bs tb h1 hs)
  refine (callsIn_wide (n := 3)).1 ?_
  refine callsIn_of_wp_marks Try.func10 rfl trivial ?_ rfl
  simp only [Try.ntmps10, List.size_toArray, List.length_cons, List.length_nil, Nat.reduceAdd, Nat.reduceSub, Array.replicate_succ, Array.replicate_zero, List.push_toArray, List.append_toArray, List.nil_append, List.cons_append]
  gi_wp2_with fail
  refine ⟨trivial, (callsIn_wide.2 (unhide HPC _ _)).mono ?_⟩
  rintro e _ ⟨rfl, tb, rfl⟩
  clear HPC
  gi_wp2
  have hR0 : Rdr (((w.alloc (.cells #[.string s, .int .i64 0, .int .u64 0, .int .i64 0] 66)).alloc (.cells #[.slice none 0 0] 32)).alloc (.cells #[.pointer (some ⟨w.heap.size, 0, none⟩)] tb)) w.heap.size s ⟨0, 0, 0⟩ := Blk.below (Blk.below (Blk.new _ _ _) ((Below.refl _ _).alloc (Nat.le_refl _) _)) ((Below.refl _ _).alloc (Nat.le_refl _) _)
  have bO : Boxed (((w.alloc (.cells #[.string s, .int .i64 0, .int .u64 0, .int .i64 0] 66)).alloc (.cells #[.slice none 0 0] 32)).alloc (.cells #[.pointer (some ⟨w.heap.size, 0, none⟩)] tb)) (w.heap.size + 1) 32 (.slice none 0 0) := (by
    have := Boxed.new (w.alloc (.cells #[.string s, .int .i64 0, .int .u64 0, .int .i64 0] 66)) 32 (.slice none 0 0)
    rw [World.size_alloc] at this
    exact this.alloc _)
  have hS0 : Blk (((w.alloc (.cells #[.string s, .int .i64 0, .int .u64 0, .int .i64 0] 66)).alloc (.cells #[.slice none 0 0] 32)).alloc (.cells #[.pointer (some ⟨w.heap.size, 0, none⟩)] tb)) (w.heap.size + 1 + 1) tb #[.pointer (some ⟨w.heap.size, 0, none⟩)] := (by
    have := Blk.new ((w.alloc (.cells #[.string s, .int .i64 0, .int .u64 0, .int .i64 0] 66)).alloc (.cells #[.slice none 0 0] 32)) tb #[.pointer (some ⟨w.heap.size, 0, none⟩)]
    rw [World.size_alloc, World.size_alloc] at this
    exact this)
  have hB0 : Below w.heap.size w (((w.alloc (.cells #[.string s, .int .i64 0, .int .u64 0, .int .i64 0] 66)).alloc (.cells #[.slice none 0 0] 32)).alloc (.cells #[.pointer (some ⟨w.heap.size, 0, none⟩)] tb)) := (((Below.refl _ w).alloc (Nat.le_refl _) _).alloc (by simp) _).alloc (by simp; omega) _
  have hz0 : (((w.alloc (.cells #[.string s, .int .i64 0, .int .u64 0, .int .i64 0] 66)).alloc (.cells #[.slice none 0 0] 32)).alloc (.cells #[.pointer (some ⟨w.heap.size, 0, none⟩)] tb)).heap.size = w.heap.size + 3 := by simp [World.size_alloc]
  generalize ((w.alloc (.cells #[.string s, .int .i64 0, .int .u64 0, .int .i64 0] 66)).alloc (.cells #[.slice none 0 0] 32)).alloc (.cells #[.pointer (some ⟨w.heap.size, 0, none⟩)] tb) = W0 at hR0 bO hS0 hB0 hz0 ⊢
  refine wpIn_range_boxA rfl (by omega) (gf := 37) (lb := #[.pointer (some ⟨w.heap.size + 1 + 1, 0, none⟩)]) rfl trivial (enters_of Try.func37 (by kernel_rfl) rfl)
    (unhide HPG W0 _ w.heap.size w.heap.size (w.heap.size + 1 + 1) tb (by omega) hS0 hR0 (by omega) (by omega)) (by omega) (by rintro k (rfl | rfl) <;> omega) (by omega) (fun _ => rfl)
    (fun pre W => (∃ v, Boxed W (w.heap.size + 1) 32 v ∧ W.ownsRow (w.heap.size + 3) 38 4 v (sayB pre).length (flatG cellsK (sayB pre)) ∧ True) ∧ Below w.heap.size w W ∧ w.heap.size + 3 ≤ W.heap.size)
    (MineB (w.heap.size + 1))
    ?own ?mine ?ib ?mb ?tt ?older ?put
    ⟨⟨_, bO, World.ownsRow_nil _ _ _ _, trivial⟩, hB0, by omega⟩
    (fun x => .cells #[.int .u32 (x.l.getD 0 0 : Nat), .int .u32 (x.l.getD (x.l.length - 1) 0 : Nat), .int .i64 (x.l.length : Int), .int .i64 (x.pos : Int), x.v] 71)
    (fun C x => { tmps := #[.string s, undef, .slice none 0 0, .int .i64 0, .pointer (some ⟨w.heap.size, 0, none⟩), .pointer (some ⟨w.heap.size + 1, 0, none⟩), .pointer (some ⟨C, 0, none⟩), .string s, .agg #[.string s, .int .i64 0, .int .u64 0, .int .i64 0], .func (.func 37) #[] #[.pointer (some ⟨w.heap.size + 1 + 1, 0, none⟩)], blkV x.pos x.l x.v, undef, undef, undef, undef, undef, undef, undef, undef, undef, undef, undef], defers := [] }) ?assign ?body ?done
  case own =>
    refine OwnFrom.and (Own.from (holdsRow_own (w.heap.size + 3) (w.heap.size + 1) 32 38 4 (fun pre => (sayB pre).length) (fun pre => flatG cellsK (sayB pre)) (fun _ _ => True)) _) (OwnFrom.and (ownFrom_below (Nat.le_refl _) (by omega)) ?_)
    intro _ A B _ h hg _
    exact Nat.le_trans h hg.size
  case mine =>
    rintro p A k ⟨⟨v, hv, hrow, _⟩, _⟩ (rfl | ⟨u, hu, hk⟩)
    · exact ⟨by omega, by omega, cells_of_cell hv.cell⟩
    · rw [hv.cell] at hu
      cases hu
      rcases hrow.2 with ⟨rfl, _⟩ | ⟨g, cap, cur, rfl, hg, hc, _⟩
      · cases hk
      · cases hk
        exact ⟨(show w.heap.size ≤ g by omega), (show ¬ (g = w.heap.size ∨ g = w.heap.size + 1 + 1) by omega), _, hc, rfl⟩
  case ib =>
    rintro p A B ⟨⟨v, hv, hrow, _⟩, hB, hz⟩ hgr
    refine ⟨⟨v, hv.kept hgr (by simp), hrow.kept hgr (.inr (fun e => by have := (gown_block hrow e).1; omega)), trivial⟩, ?_, Nat.le_trans hz hgr.size⟩
    exact hB.grown hgr (by omega) (fun k e => by cases e; omega)
  case mb =>
    rintro p A B k ⟨⟨v, hv, hrow, _⟩, hB, hz⟩ hgr (rfl | ⟨u, hu, hk⟩)
    · exact .inl rfl
    · rw [(hv.kept hgr (by simp)).cell] at hu
      cases hu
      exact .inr ⟨_, hv.cell, hk⟩
  case tt => exact fun xs A l o h hl => Blk.put h hl
  case older =>
    rintro p A B row k ⟨⟨v, hv, hrow, _⟩, _⟩ hgr hr (rfl | ⟨u, hu, hk⟩)
    · exact .inl rfl
    · have := cell_kept hv.cell hgr (fun r e => (hr r e).2)
      rw [this] at hu
      cases hu
      exact .inr ⟨_, hv.cell, hk⟩
  case put =>
    rintro p x A l r r' o ⟨⟨v, hv, hrow, _⟩, _⟩ hl h
    refine BkR.put ?_ h
    rintro k (rfl | ⟨u, hu, hk⟩)
    · exact .inl rfl
    · have := cell_kept (hv.alloc o).cell (grownBy_putObj' (A.alloc o) l (.loop r')) (fun q e => by cases e; exact ⟨_, (Below.heap_alloc _ _ _ (Array.getElem?_eq_some_iff.1 hl).1).trans hl, rfl⟩)
      rw [this] at hu
      cases hu
      exact .inr ⟨_, hv.cell, hk⟩
  case assign =>
    rintro l x W K ⟨_, hx⟩ hK
    obtain ⟨xv, pos, xl⟩ := x
    obtain ⟨xa, xn, xc, hxv⟩ := bown_slice hx.1
    simp only at hxv
    subst hxv
    clear hx
    simp only [Bk.enc, blkV] at hK ⊢
    gi_wp2
    exact hK
  case body =>
    rintro l C pre x W ⟨⟨v, hv, hrow, _⟩, hB, hz⟩ hr hsp hC hnC hwC
    clear HPG hR0 bO hS0 hB0
    obtain ⟨xv, pos, xl⟩ := x
    obtain ⟨xa, xn, xc, hxv⟩ := bown_slice hr.1
    simp only at hxv hC
    subst hxv
    have hc := hv.cell
    have hC0 : W.cell? ⟨C, 0, none⟩ = some (.int .u32 (xl.getD 0 0 : Nat)) := (Blk.cell hC 0).trans rfl
    have hC1 : W.cell? ⟨C, 1, none⟩ = some (.int .u32 (xl.getD (xl.length - 1) 0 : Nat)) := (Blk.cell hC 1).trans rfl
    have hC2 : W.cell? ⟨C, 2, none⟩ = some (.int .i64 (xl.length : Int)) := (Blk.cell hC 2).trans rfl
    have hC3 : W.cell? ⟨C, 3, none⟩ = some (.int .i64 (pos : Int)) := (Blk.cell hC 3).trans rfl
    have hln : (sayB pre).length ≤ (readS s.data.toList).1.length := by
      have := hsp.length_le
      rw [List.map_append, List.length_append] at this
      show (pre.map Bk.say).length ≤ _
      omega
    obtain ⟨v', w1, hrun, hown', hgrow, hblk⟩ := run_appK W (w.heap.size + 3) v (sayB pre) (pos, xl) 32 hrow (by omega) hz
    have hga := World.grownBy_alloc W (.cells (cellsK (pos, xl)).toArray 38) none
    have hva := hv.alloc (.cells (cellsK (pos, xl)).toArray 38)
    have hrowa := own_below hrow ((Below.refl _ W).alloc (Nat.le_refl _) (.cells (cellsK (pos, xl)).toArray 38))
    have hne : some (w.heap.size + 1) ≠ v.ownBlock := hv.not_row (by decide) hrow
    obtain ⟨a', n', c', rfl⟩ := gown_slice hown'
    have hv1 : Boxed w1 (w.heap.size + 1) 32 v := hva.kept hgrow hne
    have hc1 := hv1.cell
    have hf1 := hv1.frozen
    have hv2 := hv1.set (.slice a' n' c')
    have hg2 := grownBy_setCell' w1 (w.heap.size + 1) (.slice a' n' c')
    have hr2 := hown'.kept hg2 (.inr (hv1.not_row (by decide) hown').symm)
    have hK : KeptBut (MineB (w.heap.size + 1)) W (w1.setCell ⟨w.heap.size + 1, 0, none⟩ (.slice a' n' c')) := by
      refine ⟨hg2.os.trans hgrow.os, hg2.tape.trans hgrow.tape, hg2.output.trans hgrow.output, Nat.le_trans hga.size (Nat.le_trans hgrow.size hg2.size), fun k hk hn => ?_, ?_⟩
      · have h1 := hga.size
        have h2 := hgrow.size
        rw [hg2.block k (by omega) (fun e => hn (.inl (Option.some.inj e))), hgrow.block k (by omega) (fun e => hn (.inr ⟨v, hc, e.symm⟩)), hga.block k hk (by simp)]
      · rintro k (rfl | ⟨u, hu, hk⟩)
        · exact .inl (.inl rfl)
        · rw [hv2.cell] at hu
          cases hu
          rcases hblk with h | h
          · exact .inl (.inr ⟨v, hc, h.symm.trans hk⟩)
          · rw [h] at hk
            cases hk
            exact .inr (Nat.le_succ _)
    have hB2 : Below w.heap.size w (w1.setCell ⟨w.heap.size + 1, 0, none⟩ (.slice a' n' c')) := hB.trans (hK.bbelow hB.size (by
      rintro k (rfl | ⟨u, hu, hk⟩)
      · omega
      · rw [hc] at hu
        cases hu
        have := (gown_block hrow hk).1
        omega))
    have hr3 : (w1.setCell ⟨w.heap.size + 1, 0, none⟩ (.slice a' n' c')).ownsRow (w.heap.size + 3) 38 4 (.slice a' n' c') (sayB (pre ++ [⟨.slice xa xn xc, pos, xl⟩])).length (flatG cellsK (sayB (pre ++ [⟨.slice xa xn xc, pos, xl⟩]))) := by rw [sayB_snoc]; exact hr2
    have HFIN := hide (show KeptBut (MineB (w.heap.size + 1)) W (w1.setCell ⟨w.heap.size + 1, 0, none⟩ (.slice a' n' c')) ∧ (∃ v, Boxed (w1.setCell ⟨w.heap.size + 1, 0, none⟩ (.slice a' n' c')) (w.heap.size + 1) 32 v ∧ (w1.setCell ⟨w.heap.size + 1, 0, none⟩ (.slice a' n' c')).ownsRow (w.heap.size + 3) 38 4 v (sayB (pre ++ [⟨.slice xa xn xc, pos, xl⟩])).length (flatG cellsK (sayB (pre ++ [⟨.slice xa xn xc, pos, xl⟩])))) ∧ Below w.heap.size w (w1.setCell ⟨w.heap.size + 1, 0, none⟩ (.slice a' n' c')) ∧ w.heap.size + 3 ≤ (w1.setCell ⟨w.heap.size + 1, 0, none⟩ (.slice a' n' c')).heap.size from ⟨hK, ⟨_, hv2, hr3⟩, hB2, Nat.le_trans hz hK.size⟩)
    have HRUN := hide hrun
    clear hrun hK hB2 hr2 hr3 hg2 hv2 hv1 hblk hgrow hown' hrow hv hB hr hsp hln hz hC hnC hga hva hrowa
    gi_wp2_with (gi_at_builtin; refine wpListIn_append_runB rfl _ _ 32 rfl rfl rfl rfl (unhide HRUN) ?_)
    refine cast ?_ (unhide HFIN)
    simp
  case done =>
    rintro D ys W hD hS ⟨⟨v, hv, hrow, _⟩, hB, hz⟩ ht hK
    clear HPG hR0 bO hS0 hB0
    have hc := hv.cell
    rw [show sayB ys = _ from hS] at hrow
    obtain ⟨L, hL⟩ : ∃ L, L = (readS s.data.toList).1 := ⟨_, rfl⟩
    obtain ⟨r, hr⟩ : ∃ r, r = (readS s.data.toList).2 := ⟨_, rfl⟩
    rw [← hL] at hrow hbig
    rw [← hr] at ht
    have HL := hide hL.symm
    have HR := hide hr.symm
    clear hL hr hS
    have c3 : W.cell? ⟨w.heap.size, 3, none⟩ = some (.int .i64 (r.er : Int)) := (Blk.cell ht 3).trans rfl
    have HB := hide hB
    by_cases h0 : r.er = 0
    · have e0 : ((r.er : Int) != 0) = false := by rw [h0]; rfl
      have e1 : ((r.er : Int) == 0) = true := by rw [h0]; rfl
      have HO := hide hrow
      clear hrow ht hB
      clear hv
      gi_wp2
      refine ⟨by simp, .inl ⟨_, _, rfl, run_takeDeferred hK, ?_⟩⟩
      refine ⟨_, results_tmp2 rfl _ _ _, ?_⟩
      rw [unhide HR, unhide HL]
      exact ⟨fun _ => ⟨v, rfl, own_mono (ownsRow_putObj (unhide HO) _ hK rfl) (by omega)⟩, fun h => absurd h0 h, (unhide HB).trans (belowK_b (w := w) (Nat.le_refl _) W D _ _ (by omega) hK rfl rfl)⟩
    · have e1 : ((r.er : Int) == 0) = false := by rw [beq_eq_false_iff_ne]; omega
      have e0 : ((r.er : Int) != 0) = true := by simp [bne, e1]
      clear hrow hv ht hB
      gi_wp2_with fail
      gi_region
      all_goals
        (try gi_wp2)
        refine ⟨by simp, .inl ⟨_, _, rfl, run_takeDeferred hK, ?_⟩⟩
        refine ⟨_, results_tmp2 rfl _ _ _, ?_⟩
        rw [unhide HR]
        exact ⟨fun h => absurd h h0, fun _ => rfl, unpack_below (unhide HB) hK⟩
end Go.Proofs.Ytfjjigcghhohkaa
