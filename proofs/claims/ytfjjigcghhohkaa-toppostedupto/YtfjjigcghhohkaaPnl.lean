/-
  What post.Has does, over this seat's program.
-/
import Derived.Test.YtfjjigcghhohkaaPnk
set_option linter.unusedVariables false
namespace Go.Proofs.Ytfjjigcghhohkaa
open Go.RowKit Go.Shelf Go.Proofs.Num Go.Proofs.Dct Go.Proofs.Pna
attribute [local go_sem] Oper.semAt_some

/-- Whether a number is in the blocks that have come: what the last one says that could have it. -/
def hasS (n : Nat) (l : List (Nat × List Nat)) : Bool := l.foldl (fun b p => if p.2.getD 0 0 ≤ n ∧ n ≤ p.2.getD (p.2.length - 1) 0 then decide (n ∈ p.2) else b) false
theorem hasS_snoc (n : Nat) (l : List (Nat × List Nat)) (p : Nat × List Nat) : hasS n (l ++ [p]) = if p.2.getD 0 0 ≤ n ∧ n ≤ p.2.getD (p.2.length - 1) 0 then decide (n ∈ p.2) else hasS n l := by simp [hasS]

theorem say_in {pre : List Bk} {x : Bk} {l : List (Nat × List Nat)} (h : (pre ++ [x]).map Bk.say <+: l) : (x.pos, x.l) ∈ l := by
  obtain ⟨t, rfl⟩ := h
  simp [Bk.say]

set_option maxHeartbeats 4000000 in
set_option maxRecDepth 100000 in
theorem has_any (s : ByteArray) (n : Nat) (w : World) (hn : n ≤ 4294967295) (hs : s.size ≤ 140737488355328) (hall : ∀ p ∈ (readS s.data.toList).1, p.2.length ≤ 65536 ∧ (∀ y ∈ p.2, y ≤ 4294967295) ∧ p.2.Pairwise (· < ·)) :
    Calls Try.prog 11 #[.string s, .int .u32 (n : Int)] w fun e w' => ((readS s.data.toList).2.er = 0 → e = .returned (.tuple #[.bool (hasS n (readS s.data.toList).1), .int .i64 0])) ∧
      ((readS s.data.toList).2.er ≠ 0 → e = .returned (.tuple #[.bool false, .int .i64 ((readS s.data.toList).2.er : Int)])) ∧ Below w.heap.size w w' := by
  have HPC := hide (fun B W => blocks_any B W)
  have HPG := hide (fun (W : World) n n0 Br Bs tb h1 => blocks_gives s W n n0 Br Bs tb h1 hs)
  refine (callsIn_wide (n := 3)).1 ?_
  refine callsIn_of_wp_marks Try.func11 rfl trivial ?_ rfl
  simp only [Try.ntmps11, List.size_toArray, List.length_cons, List.length_nil, Nat.reduceAdd, Nat.reduceSub, Array.replicate_succ, Array.replicate_zero, List.push_toArray, List.append_toArray, List.nil_append, List.cons_append]
  gi_wp2_with fail
  refine ⟨trivial, (callsIn_wide.2 (unhide HPC _ _)).mono ?_⟩
  rintro e _ ⟨rfl, tb, rfl⟩
  clear HPC
  gi_wp2
  have hR0 : Rdr ((((w.alloc (.cells #[.int .u32 (n : Int)] 31)).alloc (.cells #[.string s, .int .i64 0, .int .u64 0, .int .i64 0] 66)).alloc (.cells #[.bool false] 4)).alloc (.cells #[.pointer (some ⟨w.heap.size + 1, 0, none⟩)] tb)) (w.heap.size + 1) s ⟨0, 0, 0⟩ := (by
    have := Blk.new (w.alloc (.cells #[.int .u32 (n : Int)] 31)) 66 #[.string s, .int .i64 0, .int .u64 0, .int .i64 0]
    rw [World.size_alloc] at this
    exact Blk.below (Blk.below this ((Below.refl _ _).alloc (Nat.le_refl _) _)) ((Below.refl _ _).alloc (Nat.le_refl _) _))
  have bN : Boxed ((((w.alloc (.cells #[.int .u32 (n : Int)] 31)).alloc (.cells #[.string s, .int .i64 0, .int .u64 0, .int .i64 0] 66)).alloc (.cells #[.bool false] 4)).alloc (.cells #[.pointer (some ⟨w.heap.size + 1, 0, none⟩)] tb)) w.heap.size 31 (.int .u32 (n : Int)) := (((Boxed.new w 31 (.int .u32 (n : Int))).alloc _).alloc _).alloc _
  have bO : Boxed ((((w.alloc (.cells #[.int .u32 (n : Int)] 31)).alloc (.cells #[.string s, .int .i64 0, .int .u64 0, .int .i64 0] 66)).alloc (.cells #[.bool false] 4)).alloc (.cells #[.pointer (some ⟨w.heap.size + 1, 0, none⟩)] tb)) (w.heap.size + 1 + 1) 4 (.bool false) := (by
    have := Boxed.new ((w.alloc (.cells #[.int .u32 (n : Int)] 31)).alloc (.cells #[.string s, .int .i64 0, .int .u64 0, .int .i64 0] 66)) 4 (.bool false)
    rw [World.size_alloc, World.size_alloc] at this
    exact this.alloc _)
  have hS0 : Blk ((((w.alloc (.cells #[.int .u32 (n : Int)] 31)).alloc (.cells #[.string s, .int .i64 0, .int .u64 0, .int .i64 0] 66)).alloc (.cells #[.bool false] 4)).alloc (.cells #[.pointer (some ⟨w.heap.size + 1, 0, none⟩)] tb)) (w.heap.size + 1 + 1 + 1) tb #[.pointer (some ⟨w.heap.size + 1, 0, none⟩)] := (by
    have := Blk.new (((w.alloc (.cells #[.int .u32 (n : Int)] 31)).alloc (.cells #[.string s, .int .i64 0, .int .u64 0, .int .i64 0] 66)).alloc (.cells #[.bool false] 4)) tb #[.pointer (some ⟨w.heap.size + 1, 0, none⟩)]
    rw [World.size_alloc, World.size_alloc, World.size_alloc] at this
    exact this)
  have hB0 : Below w.heap.size w ((((w.alloc (.cells #[.int .u32 (n : Int)] 31)).alloc (.cells #[.string s, .int .i64 0, .int .u64 0, .int .i64 0] 66)).alloc (.cells #[.bool false] 4)).alloc (.cells #[.pointer (some ⟨w.heap.size + 1, 0, none⟩)] tb)) := ((((Below.refl _ w).alloc (Nat.le_refl _) _).alloc (by simp) _).alloc (by simp; omega) _).alloc (by simp; omega) _
  have hz0 : ((((w.alloc (.cells #[.int .u32 (n : Int)] 31)).alloc (.cells #[.string s, .int .i64 0, .int .u64 0, .int .i64 0] 66)).alloc (.cells #[.bool false] 4)).alloc (.cells #[.pointer (some ⟨w.heap.size + 1, 0, none⟩)] tb)).heap.size = w.heap.size + 4 := by simp [World.size_alloc]
  generalize ((((w.alloc (.cells #[.int .u32 (n : Int)] 31)).alloc (.cells #[.string s, .int .i64 0, .int .u64 0, .int .i64 0] 66)).alloc (.cells #[.bool false] 4)).alloc (.cells #[.pointer (some ⟨w.heap.size + 1, 0, none⟩)] tb)) = W0 at hR0 bN bO hS0 hB0 hz0 ⊢
  refine wpIn_range_boxA rfl (by omega) (gf := 37) (lb := #[.pointer (some ⟨w.heap.size + 1 + 1 + 1, 0, none⟩)]) rfl trivial (enters_of Try.func37 (by kernel_rfl) rfl)
    (unhide HPG W0 _ w.heap.size (w.heap.size + 1) (w.heap.size + 1 + 1 + 1) tb (by omega) hS0 hR0 (by omega) (by omega)) (by omega) (by rintro k (rfl | rfl) <;> omega) (by omega) (fun _ => rfl)
    (fun pre W => (Boxed W w.heap.size 31 (.int .u32 (n : Int)) ∧ Boxed W (w.heap.size + 1 + 1) 4 (.bool (hasS n (sayB pre)))) ∧ Below w.heap.size w W ∧ w.heap.size + 4 ≤ W.heap.size)
    (fun k _ => k = w.heap.size + 1 + 1)
    ?own ?mine ?ib ?mb ?tt ?older ?put
    ⟨⟨bN, bO⟩, hB0, by omega⟩
    (fun x => .cells #[.int .u32 (x.l.getD 0 0 : Nat), .int .u32 (x.l.getD (x.l.length - 1) 0 : Nat), .int .i64 (x.l.length : Int), .int .i64 (x.pos : Int), x.v] 71)
    (fun C x => { tmps := #[.string s, .int .u32 (n : Int), undef, .pointer (some ⟨w.heap.size, 0, none⟩), .bool false, .int .i64 0, .pointer (some ⟨w.heap.size + 1, 0, none⟩), .pointer (some ⟨w.heap.size + 1 + 1, 0, none⟩), .pointer (some ⟨C, 0, none⟩), .string s, .agg #[.string s, .int .i64 0, .int .u64 0, .int .i64 0], .func (.func 37) #[] #[.pointer (some ⟨w.heap.size + 1 + 1 + 1, 0, none⟩)], blkV x.pos x.l x.v, undef, undef, undef, undef, undef, undef, undef, undef, undef, undef, undef, undef, undef, undef, undef, undef, undef, undef, undef, undef, undef, undef, undef, undef, undef], defers := [] }) ?assign ?body ?done
  case own =>
    refine OwnFrom.and ?_ (OwnFrom.and (ownFrom_below (Nat.le_refl _) (by omega)) ?_)
    · rintro p A B row ⟨h1, h2⟩ hg hr
      exact ⟨h1.kept hg (fun e => by obtain ⟨_, o, ho, hc⟩ := hr _ e.symm; rw [show A.heap[w.heap.size]? = _ from h1] at ho; cases ho; cases hc), h2.kept hg (fun e => by obtain ⟨_, o, ho, hc⟩ := hr _ e.symm; rw [show A.heap[w.heap.size + 1 + 1]? = _ from h2] at ho; cases ho; cases hc)⟩
    · intro _ A B _ h hg _
      exact Nat.le_trans h hg.size
  case mine =>
    rintro p A k ⟨⟨_, hv⟩, _⟩ rfl
    exact ⟨by omega, by omega, cells_of_cell hv.cell⟩
  case ib =>
    rintro p A B ⟨⟨h1, h2⟩, hB, hz⟩ hgr
    exact ⟨⟨h1.kept hgr (by simp), h2.kept hgr (by simp)⟩, hB.grown hgr (by omega) (fun k e => by cases e; omega), Nat.le_trans hz hgr.size⟩
  case mb => exact fun _ _ _ _ _ _ h => h
  case tt => exact fun xs A l o h hl => Blk.put h hl
  case older => exact fun _ _ _ _ _ _ _ _ h => h
  case put =>
    rintro p x A l r r' o _ hl h
    exact BkR.put (fun _ h => h) h
  case assign =>
    rintro l x W K ⟨_, hx⟩ hK
    obtain ⟨xv, pos, xl⟩ := x
    obtain ⟨xa, xn, xc, hxv⟩ := bown_slice hx.1
    simp only at hxv
    subst hxv
    clear hx
    simp only [Bk.enc, blkV] at hK ⊢
    gi_wp2
    exact hK
  case body =>
    rintro l C pre x W ⟨⟨h1, h2⟩, hB, hz⟩ hr hsp hC hnC hwC
    clear HPG hR0 bN bO hS0 hB0
    obtain ⟨xv, pos, xl⟩ := x
    obtain ⟨xa, xn, xc, hxv⟩ := bown_slice hr.1
    simp only at hxv hC
    subst hxv
    have hc1 := h1.cell
    have hc2 := h2.cell
    have hf2 := h2.frozen
    have hC0 : W.cell? ⟨C, 0, none⟩ = some (.int .u32 (xl.getD 0 0 : Nat)) := (Blk.cell hC 0).trans rfl
    have hC1 : W.cell? ⟨C, 1, none⟩ = some (.int .u32 (xl.getD (xl.length - 1) 0 : Nat)) := (Blk.cell hC 1).trans rfl
    have hC4 : W.cell? ⟨C, 4, none⟩ = some (.slice xa xn xc) := (Blk.cell hC 4).trans rfl
    obtain ⟨q1, q2, q3⟩ := hall (pos, xl) (say_in hsp)
    simp only at q1 q2 q3
    have HBS := hide (bsearch_any (.slice xa xn xc) xl n W (rowG_of_own cells32_len hr.1 (by omega) q2) hn q1 q3)
    have HSN := hide (hasS_snoc n (sayB pre) (pos, xl))
    have HSS := hide (sayB_snoc pre ⟨.slice xa xn xc, pos, xl⟩)
    have HSET := hide (fun b => h2.set (.bool b))
    have HG2 := hide (fun b => grownBy_setCell' W (w.heap.size + 1 + 1) (.bool b))
    have H1 := hide h1
    have H2 := hide h2
    have HB := hide hB
    have HZ := hide hz
    clear h1 h2 hB hz hr hsp hC hnC q1 q2 q3 hall
    simp only at HSN HSS
    generalize xl.getD 0 0 = xf at hC0 HSN
    generalize xl.getD (xl.length - 1) 0 = xz at hC1 HSN
    by_cases ha : xf ≤ n
    · have ha1 : (xf : Int) ≤ (n : Int) := by omega
      by_cases hb : n ≤ xz
      · have hb1 : (n : Int) ≤ (xz : Int) := by omega
        gi_wp2_with (refine ⟨trivial, (callsIn_wide.2 (unhide HBS)).mono ?_⟩; rintro e w2 ⟨⟨iv, rfl⟩, rfl⟩)
        have hE : hasS n (sayB (pre ++ [⟨.slice xa xn xc, pos, xl⟩])) = decide (n ∈ xl) := by rw [unhide HSS, unhide HSN, if_pos ⟨ha, hb⟩]
        rw [hE]
        have hg := unhide HG2 (decide (n ∈ xl))
        refine ⟨⟨hg.os, hg.tape, hg.output, hg.size, fun k hk hn => hg.block k hk (fun e => hn (Option.some.inj e)), fun _ h => .inl h⟩, ⟨(unhide H1).kept hg (fun e => by have := Option.some.inj e; omega), unhide HSET _⟩, (unhide HB).grown hg (by have := unhide HZ; omega) (fun k e => by cases e; omega), unhide HZ⟩
      · have hb1 : ¬ (n : Int) ≤ (xz : Int) := by omega
        gi_wp2
        have hE : hasS n (sayB (pre ++ [⟨.slice xa xn xc, pos, xl⟩])) = hasS n (sayB pre) := by rw [unhide HSS, unhide HSN, if_neg (fun h => hb h.2)]
        rw [hE]
        exact ⟨⟨rfl, rfl, rfl, Nat.le_refl _, fun _ _ _ => rfl, fun _ h => .inl h⟩, ⟨unhide H1, unhide H2⟩, unhide HB, unhide HZ⟩
    · have ha1 : ¬ (xf : Int) ≤ (n : Int) := by omega
      gi_wp2
      have hE : hasS n (sayB (pre ++ [⟨.slice xa xn xc, pos, xl⟩])) = hasS n (sayB pre) := by rw [unhide HSS, unhide HSN, if_neg (fun h => ha h.1)]
      rw [hE]
      exact ⟨⟨rfl, rfl, rfl, Nat.le_refl _, fun _ _ _ => rfl, fun _ h => .inl h⟩, ⟨unhide H1, unhide H2⟩, unhide HB, unhide HZ⟩
  case done =>
    rintro D ys W hD hS ⟨⟨h1, h2⟩, hB, hz⟩ ht hK
    clear HPG hR0 bN bO hS0 hB0
    have hc := h2.cell
    rw [show sayB ys = _ from hS] at hc
    obtain ⟨L, hL⟩ : ∃ L, L = hasS n (readS s.data.toList).1 := ⟨_, rfl⟩
    obtain ⟨r, hr⟩ : ∃ r, r = (readS s.data.toList).2 := ⟨_, rfl⟩
    rw [← hL] at hc
    rw [← hr] at ht
    have HL := hide hL.symm
    have HR := hide hr.symm
    clear hL hr hS h1 h2 hall
    have c3 : W.cell? ⟨w.heap.size + 1, 3, none⟩ = some (.int .i64 (r.er : Int)) := (Blk.cell ht 3).trans rfl
    have HB := hide hB
    by_cases h0 : r.er = 0
    · have e0 : ((r.er : Int) != 0) = false := by rw [h0]; rfl
      have e1 : ((r.er : Int) == 0) = true := by rw [h0]; rfl
      clear ht hB
      gi_wp2
      refine ⟨by simp, .inl ⟨_, _, rfl, run_takeDeferred hK, ?_⟩⟩
      refine ⟨_, results_tmp2 rfl _ _ _, ?_⟩
      rw [unhide HR, unhide HL]
      exact ⟨fun _ => rfl, fun h => absurd h0 h, (unhide HB).trans (belowK_b (w := w) (Nat.le_refl _) W D _ _ (by omega) hK rfl rfl)⟩
    · have e1 : ((r.er : Int) == 0) = false := by rw [beq_eq_false_iff_ne]; omega
      have e0 : ((r.er : Int) != 0) = true := by simp [bne, e1]
      clear ht hB
      gi_wp2_with fail
      gi_region
      all_goals
        (try gi_wp2)
        refine ⟨by simp, .inl ⟨_, _, rfl, run_takeDeferred hK, ?_⟩⟩
        refine ⟨_, results_tmp2 rfl _ _ _, ?_⟩
        rw [unhide HR]
        exact ⟨fun h => absurd h h0, fun _ => rfl, unpack_below (unhide HB) hK⟩
end Go.Proofs.Ytfjjigcghhohkaa
