/-
  What post.Unpack does, over this seat's program.
-/
import Derived.Test.YtfjjigcghhohkaaPng
import Derived.Test.YtfjjigcghhohkaaPnh
import Derived.Maps.AppendAt
import Derived.Laws.OwnMore
import Derived.Maps.OwnIn
set_option linter.unusedVariables false
namespace Go.Proofs.Ytfjjigcghhohkaa
open Go.RowKit Go.Shelf Go.Proofs.Num Go.Proofs.Dct Go.Proofs.Pna
attribute [local go_sem] Oper.semAt_some

set_option maxHeartbeats 1000000 in
theorem blocks_any (B : Nat) (w : World) :
    Calls Try.prog 25 #[.pointer (some ⟨B, 0, none⟩)] w fun e w' => e = .returned (.func (.func 37) #[] #[.pointer (some ⟨w.heap.size, 0, none⟩)]) ∧ ∃ tb, w' = w.alloc (.cells #[.pointer (some ⟨B, 0, none⟩)] tb) := by
  go_enter Try.func25, Try.ntmps25
  go_wp2
  go_ret
  exact ⟨rfl, _, rfl⟩

theorem bown_same {A B : World} {n0 : Nat} {e : TypeId} {v : Value} {n : Nat} {xs : List Value} (h : A.ownsRow n0 e 1 v n xs) (hs : ∀ k, v.ownBlock = some k → B.heap[k]? = A.heap[k]?) : B.ownsRow n0 e 1 v n xs := by
  refine ⟨h.1, ?_⟩
  rcases h.2 with h2 | ⟨g, cap, cur, rfl, hg, hc, hr⟩
  · exact .inl h2
  · exact .inr ⟨g, cap, cur, rfl, hg, (hs g rfl).trans hc, hr⟩
theorem BkR.put {M : Nat → World → Prop} {n0 l : Nat} {A : World} {o o' : Obj} {x : Bk} (hM : ∀ k, M k ((A.alloc o).putObj l o') → M k A) (h : BkR n0 (fun k W => k = l ∨ M k W) x A) : BkR n0 M x ((A.alloc o).putObj l o') := by
  refine ⟨bown_same h.1 (fun k hk => (World.putObj_heap_other (fun e => (h.2 k hk).1 (.inl e))).trans (Below.heap_alloc _ _ _ (h.2 k hk).2)), fun k hk => ?_⟩
  have := h.2 k hk
  exact ⟨fun hm => this.1 (.inr (hM k hm)), by rw [World.putObj_size, World.size_alloc]; omega⟩
theorem Blk.put {W : World} {B l : Nat} {t : TypeId} {cs : Array Value} {o : Obj} (h : Blk W B t cs) (hn : l ≠ B) : Blk (W.putObj l o) B t cs := by
  unfold Blk at *
  rw [World.putObj_heap_other (fun e => hn e.symm)]
  exact h
/-- The numbers of what has come. -/
def dcB (pre : List Bk) : List Nat := (pre.map Bk.say).flatMap (·.2)
theorem dcB_snoc (pre : List Bk) (x : Bk) : dcB (pre ++ [x]) = dcB pre ++ x.l := by simp [dcB, Bk.say]
theorem dcB_le {pre : List Bk} {l : List (Nat × List Nat)} (h : pre.map Bk.say <+: l) : (dcB pre).length ≤ (l.flatMap (·.2)).length := by
  obtain ⟨t, rfl⟩ := h
  unfold dcB
  rw [List.flatMap_append, List.length_append]
  omega
theorem dcB_in {pre : List Bk} {x : Bk} {l : List (Nat × List Nat)} (h : (pre ++ [x]).map Bk.say <+: l) : ∀ n ∈ x.l, n ∈ l.flatMap (·.2) := by
  obtain ⟨t, rfl⟩ := h
  intro n hn
  simp [Bk.say]
  exact .inr (.inl hn)
/-- The blocks that a round may write: the box, and that of the row in it. -/
def MineB (B k : Nat) (W : World) : Prop := k = B ∨ ∃ v, W.cell? ⟨B, 0, none⟩ = some v ∧ v.ownBlock = some k
theorem wpListIn_append_runB {F : Fence} {n : Nat} {P : Program} {w w' : World} {v v' xv : Value} {ty : TypeId} {ops : Array Oper} {rest : List Oper} {o : Oper} {a : Act} {Q : Exit → Act → World → Prop} (hg : o.guard = none) (s x : Operand) (t : TypeId)
    (ho : o.op = .call { callee := .builtin .append, args := #[s, x], argTypes := #[t, t] }) (hty : o.type = ty) (hs : a.eval s = v) (hx : a.eval x = xv)
    (hrun : (Builtin.append_ #[t, t] ty #[v, xv]).run P w = .ok v' w')
    (h : wpListIn F n P ops Q rest (a.put o.dst v') w') : wpListIn F n P ops Q (o :: rest) a w := by
  refine wpListIn_plain hg fun K hK => ?_
  subst hty
  unfold Oper.wpIn
  refine ⟨by simp [Oper.about, ho, resolve, Target.leads, Sem.run_pure], ?_⟩
  rw [Oper.semAt_plain F _ _ (by rw [ho]; intro c hc'; cases hc')]
  simp [execOp, ho, resolve, invoke, builtin, hs, hx, hrun, Result.andThen]
  exact hK _ _ h

theorem run_appB (w : World) (B B' : Nat) (v xv : Value) (k l : List Nat) (ty : TypeId) (hown : w.ownsRow B 31 1 v k.length (flatG cells32 k)) (hx : w.ownsRow B' 31 1 xv l.length (flatG cells32 l)) (hkl : k.length + l.length ≤ 4194304) (hB : B ≤ w.heap.size) :
    ∃ v' w', (Builtin.append_ #[22, 22] ty #[v, xv]).run Try.prog w = .ok v' w' ∧ w'.ownsRow B 31 1 v' (k ++ l).length (flatG cells32 (k ++ l)) ∧ w.grownBy w' v.ownBlock ∧ (v'.ownBlock = v.ownBlock ∨ v'.ownBlock = some w.heap.size) := by
  obtain ⟨i0, hi, hz0, hz1, hz2⟩ := info_parts u32InfoN
  rcases hx.2 with ⟨hv, h0⟩ | ⟨g, cap, cur, hv, _⟩
  · have hl : l = [] := List.eq_nil_of_length_eq_zero h0
    rw [hv, hl]
    exact ⟨v, w, run_append_owned_none (P := Try.prog) (w := w) B 22 ty 31 i0 1 Try.underlying22 hi v _ _ hown, by simpa using hown, ⟨rfl, rfl, rfl, Nat.le_refl _, fun _ _ _ => rfl⟩, .inl rfl⟩
  · have hc := hx.cells (g := g) (by rw [hv]; rfl)
    rw [hv]
    obtain ⟨v', w', hrun, h2, h3, h4, h5⟩ := run_append_own_at (P := Try.prog) (w := w) B 22 ty 31 i0 (.int .u32 0) 1 4 Try.underlying22 hi hz0 hz1 hz2 rfl (by decide) v k.length (flatG cells32 k) hown ⟨g, 0, none⟩ l.length cap (flatG cells32 l) (by rw [flat32_len, Nat.mul_one]) hc (by intro u hu; simp [flatG, cells32] at hu; obtain ⟨n, _, rfl⟩ := hu; rfl) (by unfold maxLen; omega) (by omega) hB
    exact ⟨v', w', hrun, by simpa [flatG] using h2, h3, h5⟩

theorem wpIn_calm {F : Fence} {n : Nat} {P : Program} {c : Code} {K : Act → World → Prop} {Q : Exit → Act → World → Prop} {a : Act} {w : World} (h : c.wpIn F n P (Exit.then K (fun _ _ _ => False)) a w) : c.wpIn F n P (Exit.then K Q) a w := by
  refine wpIn_mono h ?_
  intro e a w h
  cases e <;> simp [Exit.then] at h ⊢
  exact h
theorem unpack_below {w W : World} {D : Nat} {o' : Obj} (hb : Below w.heap.size w W) (hK : W.heap[D]? = some (.deferred (some []))) (hD : w.heap.size ≤ D := by omega) : Below w.heap.size w (W.drew.putObj D o') := by
  have := hb.trans (belowK_b (w := w) (Nat.le_refl _) W D _ o' hD hK rfl rfl)
  exact ⟨this.os, this.tape, this.output, this.size, this.block⟩
set_option maxHeartbeats 4000000 in
set_option maxRecDepth 100000 in
theorem unpack_any (s : ByteArray) (w : World) (hs : s.size ≤ 140737488355328) (hbig : ((readS s.data.toList).1.flatMap (·.2)).length ≤ 4000000) (hfit : ∀ n ∈ (readS s.data.toList).1.flatMap (·.2), n ≤ 4294967295) (hin : In s.data.toList (readS s.data.toList).2) :
    Calls Try.prog 8 #[.string s] w fun e w' => ((readS s.data.toList).2.er = 0 → ∃ v d, e = .returned (.tuple #[v, .string d, .int .i64 0]) ∧ w'.ownsRow w.heap.size 31 1 v ((readS s.data.toList).1.flatMap (·.2)).length (flatG cells32 ((readS s.data.toList).1.flatMap (·.2))) ∧ d.data.toList = s.data.toList.drop (readS s.data.toList).2.pos) ∧
      ((readS s.data.toList).2.er ≠ 0 → e = .returned (.tuple #[.slice none 0 0, .string ⟨#[]⟩, .int .i64 ((readS s.data.toList).2.er : Int)])) ∧ Below w.heap.size w w' := by
  have HPC := hide (fun B W => blocks_any B W)
  have HPG := hide (fun (W : World) n n0 Br Bs tb h1 => blocks_gives s W n n0 Br Bs tb h1 hs)
  refine (callsIn_wide (n := 3)).1 ?_
  refine callsIn_of_wp_marks Try.func8 rfl trivial ?_ rfl
  simp only [Try.ntmps8, List.size_toArray, List.length_cons, List.length_nil, Nat.reduceAdd, Nat.reduceSub, Array.replicate_succ, Array.replicate_zero, List.push_toArray, List.append_toArray, List.nil_append, List.cons_append]
  gi_wp2_with fail
  refine ⟨trivial, (callsIn_wide.2 (unhide HPC _ _)).mono ?_⟩
  rintro e _ ⟨rfl, tb, rfl⟩
  clear HPC
  gi_wp2
  have hR0 : Rdr (((w.alloc (.cells #[.string s, .int .i64 0, .int .u64 0, .int .i64 0] 66)).alloc (.cells #[.slice none 0 0] 22)).alloc (.cells #[.pointer (some ⟨w.heap.size, 0, none⟩)] tb)) w.heap.size s ⟨0, 0, 0⟩ := Blk.below (Blk.below (Blk.new _ _ _) ((Below.refl _ _).alloc (Nat.le_refl _) _)) ((Below.refl _ _).alloc (Nat.le_refl _) _)
  have bO : Boxed (((w.alloc (.cells #[.string s, .int .i64 0, .int .u64 0, .int .i64 0] 66)).alloc (.cells #[.slice none 0 0] 22)).alloc (.cells #[.pointer (some ⟨w.heap.size, 0, none⟩)] tb)) (w.heap.size + 1) 22 (.slice none 0 0) := (by
    have := Boxed.new (w.alloc (.cells #[.string s, .int .i64 0, .int .u64 0, .int .i64 0] 66)) 22 (.slice none 0 0)
    rw [World.size_alloc] at this
    exact this.alloc _)
  have hS0 : Blk (((w.alloc (.cells #[.string s, .int .i64 0, .int .u64 0, .int .i64 0] 66)).alloc (.cells #[.slice none 0 0] 22)).alloc (.cells #[.pointer (some ⟨w.heap.size, 0, none⟩)] tb)) (w.heap.size + 1 + 1) tb #[.pointer (some ⟨w.heap.size, 0, none⟩)] := (by
    have := Blk.new ((w.alloc (.cells #[.string s, .int .i64 0, .int .u64 0, .int .i64 0] 66)).alloc (.cells #[.slice none 0 0] 22)) tb #[.pointer (some ⟨w.heap.size, 0, none⟩)]
    rw [World.size_alloc, World.size_alloc] at this
    exact this)
  have hB0 : Below w.heap.size w (((w.alloc (.cells #[.string s, .int .i64 0, .int .u64 0, .int .i64 0] 66)).alloc (.cells #[.slice none 0 0] 22)).alloc (.cells #[.pointer (some ⟨w.heap.size, 0, none⟩)] tb)) := (((Below.refl _ w).alloc (Nat.le_refl _) _).alloc (by simp) _).alloc (by simp; omega) _
  have hz0 : (((w.alloc (.cells #[.string s, .int .i64 0, .int .u64 0, .int .i64 0] 66)).alloc (.cells #[.slice none 0 0] 22)).alloc (.cells #[.pointer (some ⟨w.heap.size, 0, none⟩)] tb)).heap.size = w.heap.size + 3 := by simp [World.size_alloc]
  generalize ((w.alloc (.cells #[.string s, .int .i64 0, .int .u64 0, .int .i64 0] 66)).alloc (.cells #[.slice none 0 0] 22)).alloc (.cells #[.pointer (some ⟨w.heap.size, 0, none⟩)] tb) = W0 at hR0 bO hS0 hB0 hz0 ⊢
  refine wpIn_range_boxA rfl (by omega) (gf := 37) (lb := #[.pointer (some ⟨w.heap.size + 1 + 1, 0, none⟩)]) rfl trivial (enters_of Try.func37 (by kernel_rfl) rfl)
    (unhide HPG W0 _ w.heap.size w.heap.size (w.heap.size + 1 + 1) tb (by omega) hS0 hR0 (by omega) (by omega)) (by omega) (by rintro k (rfl | rfl) <;> omega) (by omega) (fun _ => rfl)
    (fun pre W => (∃ v, Boxed W (w.heap.size + 1) 22 v ∧ W.ownsRow (w.heap.size + 3) 31 1 v (dcB pre).length (flatG cells32 (dcB pre)) ∧ True) ∧ Below w.heap.size w W ∧ w.heap.size + 3 ≤ W.heap.size)
    (MineB (w.heap.size + 1))
    ?own ?mine ?ib ?mb ?tt ?older ?put
    ⟨⟨_, bO, World.ownsRow_nil _ _ _ _, trivial⟩, hB0, by omega⟩
    (fun x => .cells #[.int .u32 (x.l.getD 0 0 : Nat), .int .u32 (x.l.getD (x.l.length - 1) 0 : Nat), .int .i64 (x.l.length : Int), .int .i64 (x.pos : Int), x.v] 71)
    (fun C x => { tmps := #[.string s, undef, .slice none 0 0, .string ⟨#[]⟩, .int .i64 0, .pointer (some ⟨w.heap.size, 0, none⟩), .pointer (some ⟨w.heap.size + 1, 0, none⟩), .pointer (some ⟨C, 0, none⟩), .string s, .agg #[.string s, .int .i64 0, .int .u64 0, .int .i64 0], .func (.func 37) #[] #[.pointer (some ⟨w.heap.size + 1 + 1, 0, none⟩)], blkV x.pos x.l x.v, undef, undef, undef, undef, undef, undef, undef, undef, undef, undef, undef, undef, undef, undef, undef], defers := [] }) ?assign ?body ?done
  case own =>
    refine OwnFrom.and (Own.from (holdsRow_own (w.heap.size + 3) (w.heap.size + 1) 22 31 1 (fun pre => (dcB pre).length) (fun pre => flatG cells32 (dcB pre)) (fun _ _ => True)) _) (OwnFrom.and (ownFrom_below (Nat.le_refl _) (by omega)) ?_)
    intro _ A B _ h hg _
    exact Nat.le_trans h hg.size
  case mine =>
    rintro p A k ⟨⟨v, hv, hrow, _⟩, _⟩ (rfl | ⟨u, hu, hk⟩)
    · exact ⟨by omega, by omega, cells_of_cell hv.cell⟩
    · rw [hv.cell] at hu
      cases hu
      rcases hrow.2 with ⟨rfl, _⟩ | ⟨g, cap, cur, rfl, hg, hc, _⟩
      · cases hk
      · cases hk
        exact ⟨(show w.heap.size ≤ g by omega), (show ¬ (g = w.heap.size ∨ g = w.heap.size + 1 + 1) by omega), _, hc, rfl⟩
  case ib =>
    rintro p A B ⟨⟨v, hv, hrow, _⟩, hB, hz⟩ hgr
    refine ⟨⟨v, hv.kept hgr (by simp), hrow.kept hgr (.inr (fun e => by have := (bown_block hrow e).1; omega)), trivial⟩, ?_, Nat.le_trans hz hgr.size⟩
    exact hB.grown hgr (by omega) (fun k e => by cases e; omega)
  case mb =>
    rintro p A B k ⟨⟨v, hv, hrow, _⟩, hB, hz⟩ hgr (rfl | ⟨u, hu, hk⟩)
    · exact .inl rfl
    · rw [(hv.kept hgr (by simp)).cell] at hu
      cases hu
      exact .inr ⟨_, hv.cell, hk⟩
  case tt => exact fun xs A l o h hl => Blk.put h hl
  case older =>
    rintro p A B row k ⟨⟨v, hv, hrow, _⟩, _⟩ hgr hr (rfl | ⟨u, hu, hk⟩)
    · exact .inl rfl
    · have := cell_kept hv.cell hgr (fun r e => (hr r e).2)
      rw [this] at hu
      cases hu
      exact .inr ⟨_, hv.cell, hk⟩
  case put =>
    rintro p x A l r r' o ⟨⟨v, hv, hrow, _⟩, _⟩ hl h
    refine BkR.put ?_ h
    rintro k (rfl | ⟨u, hu, hk⟩)
    · exact .inl rfl
    · have := cell_kept (hv.alloc o).cell (grownBy_putObj' (A.alloc o) l (.loop r')) (fun q e => by cases e; exact ⟨_, (Below.heap_alloc _ _ _ (Array.getElem?_eq_some_iff.1 hl).1).trans hl, rfl⟩)
      rw [this] at hu
      cases hu
      exact .inr ⟨_, hv.cell, hk⟩
  case assign =>
    rintro l x W K ⟨_, hx⟩ hK
    obtain ⟨xv, pos, xl⟩ := x
    obtain ⟨xa, xn, xc, hxv⟩ := bown_slice hx.1
    simp only at hxv
    subst hxv
    clear hx
    simp only [Bk.enc, blkV] at hK ⊢
    gi_wp2
    exact hK
  case body =>
    rintro l C pre x W ⟨⟨v, hv, hrow, _⟩, hB, hz⟩ hr hsp hC hnC hwC
    clear HPG hR0 bO hS0 hB0
    obtain ⟨xv, pos, xl⟩ := x
    obtain ⟨xa, xn, xc, hxv⟩ := bown_slice hr.1
    simp only at hxv hC
    subst hxv
    have hc := hv.cell
    have hC4 : W.cell? ⟨C, 4, none⟩ = some (.slice xa xn xc) := (Blk.cell hC 4).trans rfl
    have hln := dcB_le hsp
    rw [dcB_snoc, List.length_append] at hln
    simp only at hln
    obtain ⟨v', w1, hrun, hown', hgrow, hblk⟩ := run_appB W (w.heap.size + 3) w.heap.size v (.slice xa xn xc) (dcB pre) xl 22 hrow hr.1 (by omega) hz
    have hne : some (w.heap.size + 1) ≠ v.ownBlock := hv.not_row (by decide) hrow
    obtain ⟨a', n', c', rfl⟩ := bown_slice hown'
    have hv1 : Boxed w1 (w.heap.size + 1) 22 v := hv.kept hgrow hne
    have hc1 := hv1.cell
    have hf1 := hv1.frozen
    have hv2 := hv1.set (.slice a' n' c')
    have hg2 := grownBy_setCell' w1 (w.heap.size + 1) (.slice a' n' c')
    have hr2 := hown'.kept hg2 (.inr (hv1.not_row (by decide) hown').symm)
    have hK : KeptBut (MineB (w.heap.size + 1)) W (w1.setCell ⟨w.heap.size + 1, 0, none⟩ (.slice a' n' c')) := by
      refine ⟨hg2.os.trans hgrow.os, hg2.tape.trans hgrow.tape, hg2.output.trans hgrow.output, Nat.le_trans hgrow.size hg2.size, fun k hk hn => ?_, ?_⟩
      · rw [hg2.block k (by have := hgrow.size; omega) (fun e => hn (.inl (Option.some.inj e))), hgrow.block k hk (fun e => hn (.inr ⟨v, hc, e.symm⟩))]
      · rintro k (rfl | ⟨u, hu, hk⟩)
        · exact .inl (.inl rfl)
        · rw [hv2.cell] at hu
          cases hu
          rcases hblk with h | h
          · exact .inl (.inr ⟨v, hc, h.symm.trans hk⟩)
          · rw [h] at hk
            cases hk
            exact .inr (Nat.le_refl _)
    have hB2 : Below w.heap.size w (w1.setCell ⟨w.heap.size + 1, 0, none⟩ (.slice a' n' c')) := hB.trans (hK.bbelow hB.size (by
      rintro k (rfl | ⟨u, hu, hk⟩)
      · omega
      · rw [hc] at hu
        cases hu
        have := (bown_block hrow hk).1
        omega))
    have hr3 : (w1.setCell ⟨w.heap.size + 1, 0, none⟩ (.slice a' n' c')).ownsRow (w.heap.size + 3) 31 1 (.slice a' n' c') (dcB (pre ++ [⟨.slice xa xn xc, pos, xl⟩])).length (flatG cells32 (dcB (pre ++ [⟨.slice xa xn xc, pos, xl⟩]))) := by rw [dcB_snoc]; exact hr2
    have HFIN := hide (show KeptBut (MineB (w.heap.size + 1)) W (w1.setCell ⟨w.heap.size + 1, 0, none⟩ (.slice a' n' c')) ∧ (∃ v, Boxed (w1.setCell ⟨w.heap.size + 1, 0, none⟩ (.slice a' n' c')) (w.heap.size + 1) 22 v ∧ (w1.setCell ⟨w.heap.size + 1, 0, none⟩ (.slice a' n' c')).ownsRow (w.heap.size + 3) 31 1 v (dcB (pre ++ [⟨.slice xa xn xc, pos, xl⟩])).length (flatG cells32 (dcB (pre ++ [⟨.slice xa xn xc, pos, xl⟩]))) ∧ True) ∧ Below w.heap.size w (w1.setCell ⟨w.heap.size + 1, 0, none⟩ (.slice a' n' c')) ∧ w.heap.size + 3 ≤ (w1.setCell ⟨w.heap.size + 1, 0, none⟩ (.slice a' n' c')).heap.size from ⟨hK, ⟨_, hv2, hr3, trivial⟩, hB2, Nat.le_trans hz hK.size⟩)
    have HRUN := hide hrun
    clear hrun hK hB2 hr2 hr3 hg2 hv2 hv1 hblk hgrow hown' hrow hv hB hr hsp hln hz hC hnC
    gi_wp2_with (gi_at_builtin; refine wpListIn_append_runB rfl _ _ 22 rfl rfl rfl rfl (unhide HRUN) ?_)
    obtain ⟨f1, ⟨u, f2, f3, _⟩, f4, f5⟩ := unhide HFIN
    exact ⟨f1, ⟨u, f2, f3⟩, f4, by simpa using f5⟩
  case done =>
    rintro D ys W hD hS ⟨⟨v, hv, hrow, _⟩, hB, hz⟩ ht hK
    clear HPG hR0 bO hS0 hB0
    have hc := hv.cell
    have he : dcB ys = (readS s.data.toList).1.flatMap (·.2) := by unfold dcB; rw [hS]
    rw [he] at hrow
    obtain ⟨L, hL⟩ : ∃ L, L = (readS s.data.toList).1.flatMap (·.2) := ⟨_, rfl⟩
    obtain ⟨r, hr⟩ : ∃ r, r = (readS s.data.toList).2 := ⟨_, rfl⟩
    rw [← hL] at hrow hbig hfit
    rw [← hr] at ht hin
    have HL := hide hL.symm
    have HR := hide hr.symm
    clear hL hr he
    have c3 : W.cell? ⟨w.heap.size, 3, none⟩ = some (.int .i64 (r.er : Int)) := (Blk.cell ht 3).trans rfl
    have c1 : W.cell? ⟨w.heap.size, 1, none⟩ = some (.int .i64 (r.pos : Int)) := (Blk.cell ht 1).trans rfl
    have HB := hide hB
    have hDz := (Array.getElem?_eq_some_iff.1 hK).1
    by_cases h0 : r.er = 0
    · have e0 : ((r.er : Int) != 0) = false := by rw [h0]; rfl
      have e1 : ((r.er : Int) == 0) = true := by rw [h0]; rfl
      have hp := hin.pos
      rw [sizeL] at hp
      have hsf := fun W => slice_from s (r.pos : Int) r.pos rfl hp W
      have hF0 : (s.extract r.pos s.size).data.toList = s.data.toList.drop r.pos := toList_from _ _
      have hFz : (s.extract r.pos s.size).size = s.size - r.pos := size_part _ _ _ (Nat.le_refl _)
      generalize s.extract r.pos s.size = F0 at hsf hF0 hFz
      have HC := hide (fun W' => clone_any F0 W' (by omega))
      have HO := hide hrow
      have HK := hide hK
      have HF := hide hF0
      clear hrow ht hS hB hK hF0 hFz hp
      have hp0 := hv.lt
      clear hv
      gi_wp2_with fail
      refine wpIn_calm ?_
      gi_region_with (refine ⟨trivial, (callsIn_wide.2 (unhide HC _)).mono ?_⟩; rintro e w2 ⟨rfl, b2⟩; have hb2 : Below W.heap.size W w2 := ⟨b2.os, b2.tape, b2.output, b2.size, b2.block⟩; have hc2 : w2.cell? ⟨w.heap.size + 1, 0, none⟩ = some v := (hb2.cell (p := ⟨w.heap.size + 1, 0, none⟩) hp0).trans hc; have HB2 := hide hb2; clear hb2 b2)
      all_goals
        (try gi_wp2)
        refine ⟨by simp, .inl ⟨_, _, rfl, run_takeDeferred (((unhide HB2).block D hDz).trans (unhide HK)), ?_⟩⟩
        refine ⟨_, results_tmp3 rfl _ _ _, ?_⟩
        rw [unhide HR, unhide HL]
        have hDD := ((unhide HB2).block D hDz).trans (unhide HK)
        exact ⟨fun _ => ⟨v, F0, rfl, own_mono (ownsRow_putObj (own_below (unhide HO) (unhide HB2)) _ hDD rfl) (by omega), unhide HF⟩, fun h => absurd h0 h, ((unhide HB).trans ((unhide HB2).mono (by omega))).trans (belowK_b (w := w) (Nat.le_refl _) w2 D _ _ (by omega) hDD rfl rfl)⟩
    · have e1 : ((r.er : Int) == 0) = false := by rw [beq_eq_false_iff_ne]; omega
      have e0 : ((r.er : Int) != 0) = true := by simp [bne, e1]
      clear hrow hv ht hS hB
      gi_wp2_with fail
      gi_region
      all_goals
        (try gi_wp2)
        refine ⟨by simp, .inl ⟨_, _, rfl, run_takeDeferred hK, ?_⟩⟩
        refine ⟨_, results_tmp3 rfl _ _ _, ?_⟩
        rw [unhide HR]
        exact ⟨fun h => absurd h h0, fun _ => rfl, unpack_below (unhide HB) hK⟩
end Go.Proofs.Ytfjjigcghhohkaa
