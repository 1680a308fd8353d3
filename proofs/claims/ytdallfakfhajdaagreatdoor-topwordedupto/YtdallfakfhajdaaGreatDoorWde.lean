/-
  What word.Decode does, over this seat's program.
-/
import Derived.Test.YtdallfakfhajdaaGreatDoorWwd
import Derived.Laws.OwnMore
import Derived.Maps.OwnIn
set_option linter.unusedVariables false
namespace Go.Proofs.YtdallfakfhajdaaGreatDoor
open Go.RowKit Go.Shelf Go.Proofs.Enc Go.Proofs.Rns
attribute [local go_sem] Oper.semAt_some

theorem run_app (w : World) (B B' : Nat) (v : Value) (x : Pc) (k : List Nat) (ty : TypeId) (hown : w.ownsRow B 21 1 v k.length (runeC k)) (hx : w.ownsRow B' 21 1 x.v x.l.length (runeC x.l)) (hkl : k.length + x.l.length ≤ 40000000) (hB : B ≤ w.heap.size) :
    ∃ v' w', (Builtin.append_ #[22, 22] ty #[v, x.v]).run Tryz.prog w = .ok v' w' ∧ w'.ownsRow B 21 1 v' (k ++ x.l).length (runeC (k ++ x.l)) ∧ w.grownBy w' v.ownBlock ∧ (v'.ownBlock = v.ownBlock ∨ v'.ownBlock = some w.heap.size) := by
  obtain ⟨i0, hi, hz0, hz1, hz2⟩ := info_parts rInfo
  rcases hx.2 with ⟨hv, h0⟩ | ⟨g, cap, cur, hv, _⟩
  · have hl : x.l = [] := List.eq_nil_of_length_eq_zero h0
    rw [hv, hl]
    exact ⟨v, w, run_append_owned_none (P := Tryz.prog) (w := w) B 22 ty 21 i0 1 Tryz.underlying22 hi v _ _ hown, by simpa using hown, ⟨rfl, rfl, rfl, Nat.le_refl _, fun _ _ _ => rfl⟩, .inl rfl⟩
  · have hc := hx.cells (g := g) (by rw [hv]; rfl)
    rw [hv]
    obtain ⟨v', w', hrun, h2, h3, h4, h5⟩ := run_append_own_at (P := Tryz.prog) (w := w) B 22 ty 21 i0 (.int .i32 0) 1 4 Tryz.underlying22 hi hz0 hz1 hz2 rfl (by decide) v k.length (runeC k) hown ⟨g, 0, none⟩ x.l.length cap (runeC x.l) (by simp [runeC]) hc (by intro u hu; simp [runeC] at hu; obtain ⟨n, _, rfl⟩ := hu; rfl) (by unfold maxLen; omega) (by omega) hB
    exact ⟨v', w', hrun, by simpa [runeC] using h2, h3, h5⟩

/-- An append whose run is known, in a fence. -/
theorem wpListIn_append_run {F : Fence} {n : Nat} {P : Program} {w w' : World} {v v' xv : Value} {ty : TypeId} {ops : Array Oper} {rest : List Oper} {o : Oper} {a : Act} {Q : Exit → Act → World → Prop} (hg : o.guard = none) (s x : Operand) (t : TypeId)
    (ho : o.op = .call { callee := .builtin .append, args := #[s, x], argTypes := #[t, t] }) (hty : o.type = ty) (hs : a.eval s = v) (hx : a.eval x = xv)
    (hrun : (Builtin.append_ #[t, t] ty #[v, xv]).run P w = .ok v' w')
    (h : wpListIn F n P ops Q rest (a.put o.dst v') w') : wpListIn F n P ops Q (o :: rest) a w := by
  refine wpListIn_plain hg fun K hK => ?_
  subst hty
  unfold Oper.wpIn
  refine ⟨by simp [Oper.about, ho, resolve, Target.leads, Sem.run_pure], ?_⟩
  rw [Oper.semAt_plain F _ _ (by rw [ho]; intro c hc'; cases hc')]
  simp [execOp, ho, resolve, invoke, builtin, hs, hx, hrun, Result.andThen]
  exact hK _ _ h

/-- The letters of what has come. -/
def dcL (pre : List Pc) : List Nat := (pre.map Pc.say).flatMap (·.1)
theorem dcL_snoc (pre : List Pc) (x : Pc) : dcL (pre ++ [x]) = dcL pre ++ x.l := by simp [dcL, Pc.say]
theorem dcL_le {pre : List Pc} {l : List (List Nat × Bool)} (h : pre.map Pc.say <+: l) : (dcL pre).length ≤ (l.flatMap (·.1)).length := by
  obtain ⟨t, rfl⟩ := h
  unfold dcL
  rw [List.flatMap_append, List.length_append]
  omega

/-- The blocks that a round of Decode may write: the box, and that of the row in it. -/
def MineD (B k : Nat) (W : World) : Prop := k = B ∨ ∃ v, W.cell? ⟨B, 0, none⟩ = some v ∧ v.ownBlock = some k

set_option maxHeartbeats 4000000 in
set_option maxRecDepth 100000 in
theorem decodeW_any (s : ByteArray) (w : World) (ht : RTabN w) (hes : ErrS w) (hml : MaxL w) (hs : s.size ≤ 16777216) (hbig : ((pcW s.data.toList).flatMap (·.1)).length ≤ 40000000) :
    Calls Tryz.prog 13 #[.string s] w fun e w' => ∃ v, e = .returned v ∧ w'.ownsRow w.heap.size 21 1 v ((pcW s.data.toList).flatMap (·.1)).length (runeC ((pcW s.data.toList).flatMap (·.1))) ∧ Below w.heap.size w w' := by
  have HPC := hide (fun W => pieces_any s W)
  have HPG := hide (fun (W : World) n Bs h1 => pieces_gives s w W n Bs h1 hs ht hes hml)
  clear ht hes hml
  refine (callsIn_wide (n := 3)).1 ?_
  refine callsIn_of_wp_marks Tryz.func13 rfl trivial ?_ rfl
  simp only [Tryz.ntmps13, List.size_toArray, List.length_cons, List.length_nil, Nat.reduceAdd, Nat.reduceSub, Array.replicate_succ, Array.replicate_zero, List.push_toArray, List.append_toArray, List.nil_append, List.cons_append]
  gi_wp2_with fail
  refine ⟨trivial, (callsIn_wide.2 (unhide HPC _)).mono ?_⟩
  rintro e _ ⟨rfl, rfl⟩
  clear HPC
  gi_wp2
  have bO := Boxed.new w 22 (.slice none 0 0)
  have bN := Boxed.new (w.alloc (.cells #[.slice none 0 0] 22)) 9 (.string s)
  rw [World.size_alloc] at bN
  have hB0 : Below w.heap.size w ((w.alloc (.cells #[.slice none 0 0] 22)).alloc (.cells #[.string s] 9)) := ((Below.refl _ w).alloc (Nat.le_refl _) _).alloc (by simp) _
  refine wpIn_range_rows rfl (by omega) (gf := 77) (lb := #[.pointer (some ⟨w.heap.size + 1, 0, none⟩)]) rfl trivial (enters_of Tryz.func77 (by kernel_rfl) rfl)
    (unhide HPG _ _ (w.heap.size + 1) (by omega) hB0 bN.cell (by simp)) (by simp; omega) (fun _ => rfl)
    (fun pre W => (∃ v, Boxed W w.heap.size 22 v ∧ W.ownsRow w.heap.size 21 1 v (dcL pre).length (runeC (dcL pre)) ∧ True) ∧ Below w.heap.size w W)
    (MineD w.heap.size)
    (OwnFrom.and (Own.from (holdsRow_own w.heap.size w.heap.size 22 21 1 (fun pre => (dcL pre).length) (fun pre => runeC (dcL pre)) (fun _ _ => True)) _) (ownFrom_below (Nat.le_refl _) (by simp; omega)))
    ?mine ?older ?put
    ⟨⟨_, bO.alloc _, World.ownsRow_nil _ _ _ _, trivial⟩, hB0⟩
    (fun x => { tmps := #[.string s, undef, .slice none 0 0, .pointer (some ⟨w.heap.size, 0, none⟩), x.v, .string s, .func (.func 77) #[] #[.pointer (some ⟨w.heap.size + 1, 0, none⟩)], x.v, .bool x.b, undef, undef, undef, undef], defers := [] }) ?assign ?body ?done
  case mine =>
    rintro p A k ⟨⟨v, hv, hrow, _⟩, _⟩ (rfl | ⟨u, hu, hk⟩)
    · exact ⟨Nat.le_refl _, cells_of_cell hv.cell⟩
    · rw [hv.cell] at hu
      cases hu
      rcases hrow.2 with ⟨rfl, _⟩ | ⟨g, cap, cur, rfl, hg, hc, _⟩
      · cases hk
      · cases hk
        exact ⟨hg, _, hc, rfl⟩
  case older =>
    rintro p A B row k ⟨⟨v, hv, hrow, _⟩, _⟩ hgr hr (rfl | ⟨u, hu, hk⟩)
    · exact .inl rfl
    · have := cell_kept hv.cell hgr (fun r e => (hr r e).2)
      rw [this] at hu
      cases hu
      exact .inr ⟨_, hv.cell, hk⟩
  case put =>
    rintro p x A l r r' ⟨⟨v, hv, hrow, _⟩, _⟩ hl h
    refine PcR.put ?_ h
    rintro k (rfl | ⟨u, hu, hk⟩)
    · exact .inl rfl
    · have := cell_kept hv.cell (grownBy_putObj' A l (.loop r')) (fun q e => by cases e; exact ⟨_, hl, rfl⟩)
      rw [this] at hu
      cases hu
      exact .inr ⟨_, hv.cell, hk⟩
  case assign =>
    intro l x W K hK
    simp only [Pc.enc]
    gi_wp2
    exact hK
  case body =>
    rintro l pre x W ⟨⟨v, hv, hrow, _⟩, hB⟩ hr hsp
    clear HPG
    have hc := hv.cell
    have hln := dcL_le hsp
    rw [dcL_snoc, List.length_append] at hln
    obtain ⟨v', w1, hrun, hown', hgrow, hblk⟩ := run_app W w.heap.size w.heap.size v x (dcL pre) 22 hrow hr.1 (by omega) hB.size
    have hne : some w.heap.size ≠ v.ownBlock := hv.not_row (by decide) hrow
    obtain ⟨a', n', c', rfl⟩ : ∃ a n c, v' = Value.slice a n c := by
      rcases hown'.2 with ⟨rfl, _⟩ | ⟨g, cap, cur, rfl, _⟩
      · exact ⟨_, _, _, rfl⟩
      · exact ⟨_, _, _, rfl⟩
    have hv1 : Boxed w1 w.heap.size 22 v := hv.kept hgrow hne
    have hc1 := hv1.cell
    have hf1 := hv1.frozen
    have hv2 := hv1.set (.slice a' n' c')
    have hg2 := grownBy_setCell' w1 w.heap.size (.slice a' n' c')
    have hr2 := hown'.kept hg2 (.inr (hv1.not_row (by decide) hown').symm)
    have hK : KeptBut (MineD w.heap.size) W (w1.setCell ⟨w.heap.size, 0, none⟩ (.slice a' n' c')) := by
      refine ⟨hg2.os.trans hgrow.os, hg2.tape.trans hgrow.tape, hg2.output.trans hgrow.output, Nat.le_trans hgrow.size hg2.size, fun k hk hn => ?_, ?_⟩
      · rw [hg2.block k (by have := hgrow.size; omega) (fun e => hn (.inl (Option.some.inj e))), hgrow.block k hk (fun e => hn (.inr ⟨v, hc, e.symm⟩))]
      · rintro k (rfl | ⟨u, hu, hk⟩)
        · exact .inl (.inl rfl)
        · rw [hv2.cell] at hu
          cases hu
          rcases hblk with h | h
          · exact .inl (.inr ⟨v, hc, h.symm.trans hk⟩)
          · rw [h] at hk
            cases hk
            exact .inr (Nat.le_refl _)
    have hB2 : Below w.heap.size w (w1.setCell ⟨w.heap.size, 0, none⟩ (.slice a' n' c')) := hB.trans (hK.below hB.size (by
      rintro k (rfl | ⟨u, hu, hk⟩)
      · exact Nat.le_refl _
      · rw [hc] at hu
        cases hu
        exact (own_block hrow hk).1))
    rw [← dcL_snoc] at hr2
    have HFIN := hide (show KeptBut (MineD w.heap.size) W (w1.setCell ⟨w.heap.size, 0, none⟩ (.slice a' n' c')) ∧ (∃ v, Boxed (w1.setCell ⟨w.heap.size, 0, none⟩ (.slice a' n' c')) w.heap.size 22 v ∧ (w1.setCell ⟨w.heap.size, 0, none⟩ (.slice a' n' c')).ownsRow w.heap.size 21 1 v (dcL (pre ++ [x])).length (runeC (dcL (pre ++ [x]))) ∧ True) ∧ Below w.heap.size w (w1.setCell ⟨w.heap.size, 0, none⟩ (.slice a' n' c')) from ⟨hK, ⟨_, hv2, hr2, trivial⟩, hB2⟩)
    have HRUN := hide hrun
    clear hrun hK hB2 hr2 hg2 hv2 hv1 hblk hgrow hown' hrow hv hB hr hsp hln
    gi_wp2_with (gi_at_builtin; refine wpListIn_append_run rfl _ _ 22 rfl rfl rfl rfl (unhide HRUN) ?_)
    obtain ⟨f1, ⟨u, f2, f3, _⟩, f4⟩ := unhide HFIN
    exact ⟨f1, ⟨u, f2, f3⟩, f4⟩
  case done =>
    rintro D ys W hD hS ⟨⟨v, hv, hrow, _⟩, hB⟩ hK
    clear HPG
    have hc := hv.cell
    have he : dcL ys = (pcW s.data.toList).flatMap (·.1) := by unfold dcL; rw [hS]
    rw [he] at hrow
    gi_wp2
    refine ⟨by simp, .inl ⟨_, _, rfl, run_takeDeferred hK, ?_⟩⟩
    exact ⟨_, results_tmp rfl _ _ _, v, rfl, ownsRow_putObj hrow _ hK rfl, hB.trans (belowK_b (w := w) (Nat.le_refl _) W D _ _ (by simp at hD; omega) hK rfl rfl)⟩
end Go.Proofs.YtdallfakfhajdaaGreatDoor
