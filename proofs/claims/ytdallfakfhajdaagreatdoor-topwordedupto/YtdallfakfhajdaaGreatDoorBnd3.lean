/-
  What word.Decode does, over this seat's program.
-/
import Derived.Test.YtdallfakfhajdaaGreatDoorWwd
import Derived.Laws.OwnMore
import Derived.Maps.OwnIn
import Derived.Test.YtdallfakfhajdaaGreatDoorRsm
import Derived.Test.YtdallfakfhajdaaGreatDoorWen
set_option linter.unusedVariables false
namespace Go.Proofs.YtdallfakfhajdaaGreatDoor
open Go.RowKit Go.Shelf Go.Proofs.Enc Go.Proofs.Rns
attribute [local go_sem] Oper.semAt_some

theorem run_app (w : World) (B B' : Nat) (v : Value) (x : Pc) (k : List Nat) (ty : TypeId) (hown : w.ownsRow B 21 1 v k.length (runeC k)) (hx : w.ownsRow B' 21 1 x.v x.l.length (runeC x.l)) (hkl : k.length + x.l.length ≤ 40000000) (hB : B ≤ w.heap.size) :
    ∃ v' w', (Builtin.append_ #[22, 22] ty #[v, x.v]).run Tryz.prog w = .ok v' w' ∧ w'.ownsRow B 21 1 v' (k ++ x.l).length (runeC (k ++ x.l)) ∧ w.grownBy w' v.ownBlock ∧ (v'.ownBlock = v.ownBlock ∨ v'.ownBlock = some w.heap.size) := by
  obtain ⟨i0, hi, hz0, hz1, hz2⟩ := info_parts rInfo
  rcases hx.2 with ⟨hv, h0⟩ | ⟨g, cap, cur, hv, _⟩
  · have hl : x.l = [] := List.eq_nil_of_length_eq_zero h0
    rw [hv, hl]
    exact ⟨v, w, run_append_owned_none (P := Tryz.prog) (w := w) B 22 ty 21 i0 1 Tryz.underlying22 hi v _ _ hown, by simpa using hown, ⟨rfl, rfl, rfl, Nat.le_refl _, fun _ _ _ => rfl⟩, .inl rfl⟩
  · have hc := hx.cells (g := g) (by rw [hv]; rfl)
    rw [hv]
    obtain ⟨v', w', hrun, h2, h3, h4, h5⟩ := run_append_own_at (P := Tryz.prog) (w := w) B 22 ty 21 i0 (.int .i32 0) 1 4 Tryz.underlying22 hi hz0 hz1 hz2 rfl (by decide) v k.length (runeC k) hown ⟨g, 0, none⟩ x.l.length cap (runeC x.l) (by simp [runeC]) hc (by intro u hu; simp [runeC] at hu; obtain ⟨n, _, rfl⟩ := hu; rfl) (by unfold maxLen; omega) (by omega) hB
    exact ⟨v', w', hrun, by simpa [runeC] using h2, h3, h5⟩

/-- An append whose run is known, in a fence. -/
theorem wpListIn_append_run {F : Fence} {n : Nat} {P : Program} {w w' : World} {v v' xv : Value} {ty : TypeId} {ops : Array Oper} {rest : List Oper} {o : Oper} {a : Act} {Q : Exit → Act → World → Prop} (hg : o.guard = none) (s x : Operand) (t : TypeId)
    (ho : o.op = .call { callee := .builtin .append, args := #[s, x], argTypes := #[t, t] }) (hty : o.type = ty) (hs : a.eval s = v) (hx : a.eval x = xv)
    (hrun : (Builtin.append_ #[t, t] ty #[v, xv]).run P w = .ok v' w')
    (h : wpListIn F n P ops Q rest (a.put o.dst v') w') : wpListIn F n P ops Q (o :: rest) a w := by
  refine wpListIn_plain hg fun K hK => ?_
  subst hty
  unfold Oper.wpIn
  refine ⟨by simp [Oper.about, ho, resolve, Target.leads, Sem.run_pure], ?_⟩
  rw [Oper.semAt_plain F _ _ (by rw [ho]; intro c hc'; cases hc')]
  simp [execOp, ho, resolve, invoke, builtin, hs, hx, hrun, Result.andThen]
  exact hK _ _ h

/-- The letters of what has come. -/
def dcL (pre : List Pc) : List Nat := (pre.map Pc.say).flatMap (·.1)
theorem dcL_snoc (pre : List Pc) (x : Pc) : dcL (pre ++ [x]) = dcL pre ++ x.l := by simp [dcL, Pc.say]
theorem dcL_le {pre : List Pc} {l : List (List Nat × Bool)} (h : pre.map Pc.say <+: l) : (dcL pre).length ≤ (l.flatMap (·.1)).length := by
  obtain ⟨t, rfl⟩ := h
  unfold dcL
  rw [List.flatMap_append, List.length_append]
  omega

/-- The blocks that a round of Decode may write: the box, and that of the row in it. -/
def MineD (B k : Nat) (W : World) : Prop := k = B ∨ ∃ v, W.cell? ⟨B, 0, none⟩ = some v ∧ v.ownBlock = some k

set_option maxHeartbeats 4000000 in
set_option maxRecDepth 100000 in
theorem decodeW_any (s : ByteArray) (w : World) (ht : RTabN w) (hes : ErrS w) (hml : MaxL w) (hs : s.size ≤ 16777216) (hbig : ((pcW s.data.toList).flatMap (·.1)).length ≤ 40000000) :
    Calls Tryz.prog 13 #[.string s] w fun e w' => ∃ v, e = .returned v ∧ w'.ownsRow w.heap.size 21 1 v ((pcW s.data.toList).flatMap (·.1)).length (runeC ((pcW s.data.toList).flatMap (·.1))) ∧ Below w.heap.size w w' := by
  have HPC := hide (fun W => pieces_any s W)
  have HPG := hide (fun (W : World) n Bs h1 => pieces_gives s w W n Bs h1 hs ht hes hml)
  clear ht hes hml
  refine (callsIn_wide (n := 3)).1 ?_
  refine callsIn_of_wp_marks Tryz.func13 rfl trivial ?_ rfl
  simp only [Tryz.ntmps13, List.size_toArray, List.length_cons, List.length_nil, Nat.reduceAdd, Nat.reduceSub, Array.replicate_succ, Array.replicate_zero, List.push_toArray, List.append_toArray, List.nil_append, List.cons_append]
  gi_wp2_with fail
  refine ⟨trivial, (callsIn_wide.2 (unhide HPC _)).mono ?_⟩
  rintro e _ ⟨rfl, rfl⟩
  clear HPC
  gi_wp2
  have bO := Boxed.new w 22 (.slice none 0 0)
  have bN := Boxed.new (w.alloc (.cells #[.slice none 0 0] 22)) 9 (.string s)
  rw [World.size_alloc] at bN
  have hB0 : Below w.heap.size w ((w.alloc (.cells #[.slice none 0 0] 22)).alloc (.cells #[.string s] 9)) := ((Below.refl _ w).alloc (Nat.le_refl _) _).alloc (by simp) _
  refine wpIn_range_rows rfl (by omega) (gf := 77) (lb := #[.pointer (some ⟨w.heap.size + 1, 0, none⟩)]) rfl trivial (enters_of Tryz.func77 (by kernel_rfl) rfl)
    (unhide HPG _ _ (w.heap.size + 1) (by omega) hB0 bN.cell (by simp)) (by simp; omega) (fun _ => rfl)
    (fun pre W => (∃ v, Boxed W w.heap.size 22 v ∧ W.ownsRow w.heap.size 21 1 v (dcL pre).length (runeC (dcL pre)) ∧ True) ∧ Below w.heap.size w W)
    (MineD w.heap.size)
    (OwnFrom.and (Own.from (holdsRow_own w.heap.size w.heap.size 22 21 1 (fun pre => (dcL pre).length) (fun pre => runeC (dcL pre)) (fun _ _ => True)) _) (ownFrom_below (Nat.le_refl _) (by simp; omega)))
    ?mine ?older ?put
    ⟨⟨_, bO.alloc _, World.ownsRow_nil _ _ _ _, trivial⟩, hB0⟩
    (fun x => { tmps := #[.string s, undef, .slice none 0 0, .pointer (some ⟨w.heap.size, 0, none⟩), x.v, .string s, .func (.func 77) #[] #[.pointer (some ⟨w.heap.size + 1, 0, none⟩)], x.v, .bool x.b, undef, undef, undef, undef], defers := [] }) ?assign ?body ?done
  case mine =>
    rintro p A k ⟨⟨v, hv, hrow, _⟩, _⟩ (rfl | ⟨u, hu, hk⟩)
    · exact ⟨Nat.le_refl _, cells_of_cell hv.cell⟩
    · rw [hv.cell] at hu
      cases hu
      rcases hrow.2 with ⟨rfl, _⟩ | ⟨g, cap, cur, rfl, hg, hc, _⟩
      · cases hk
      · cases hk
        exact ⟨hg, _, hc, rfl⟩
  case older =>
    rintro p A B row k ⟨⟨v, hv, hrow, _⟩, _⟩ hgr hr (rfl | ⟨u, hu, hk⟩)
    · exact .inl rfl
    · have := cell_kept hv.cell hgr (fun r e => (hr r e).2)
      rw [this] at hu
      cases hu
      exact .inr ⟨_, hv.cell, hk⟩
  case put =>
    rintro p x A l r r' ⟨⟨v, hv, hrow, _⟩, _⟩ hl h
    refine PcR.put ?_ h
    rintro k (rfl | ⟨u, hu, hk⟩)
    · exact .inl rfl
    · have := cell_kept hv.cell (grownBy_putObj' A l (.loop r')) (fun q e => by cases e; exact ⟨_, hl, rfl⟩)
      rw [this] at hu
      cases hu
      exact .inr ⟨_, hv.cell, hk⟩
  case assign =>
    intro l x W K hK
    simp only [Pc.enc]
    gi_wp2
    exact hK
  case body =>
    rintro l pre x W ⟨⟨v, hv, hrow, _⟩, hB⟩ hr hsp
    clear HPG
    have hc := hv.cell
    have hln := dcL_le hsp
    rw [dcL_snoc, List.length_append] at hln
    obtain ⟨v', w1, hrun, hown', hgrow, hblk⟩ := run_app W w.heap.size w.heap.size v x (dcL pre) 22 hrow hr.1 (by omega) hB.size
    have hne : some w.heap.size ≠ v.ownBlock := hv.not_row (by decide) hrow
    obtain ⟨a', n', c', rfl⟩ : ∃ a n c, v' = Value.slice a n c := by
      rcases hown'.2 with ⟨rfl, _⟩ | ⟨g, cap, cur, rfl, _⟩
      · exact ⟨_, _, _, rfl⟩
      · exact ⟨_, _, _, rfl⟩
    have hv1 : Boxed w1 w.heap.size 22 v := hv.kept hgrow hne
    have hc1 := hv1.cell
    have hf1 := hv1.frozen
    have hv2 := hv1.set (.slice a' n' c')
    have hg2 := grownBy_setCell' w1 w.heap.size (.slice a' n' c')
    have hr2 := hown'.kept hg2 (.inr (hv1.not_row (by decide) hown').symm)
    have hK : KeptBut (MineD w.heap.size) W (w1.setCell ⟨w.heap.size, 0, none⟩ (.slice a' n' c')) := by
      refine ⟨hg2.os.trans hgrow.os, hg2.tape.trans hgrow.tape, hg2.output.trans hgrow.output, Nat.le_trans hgrow.size hg2.size, fun k hk hn => ?_, ?_⟩
      · rw [hg2.block k (by have := hgrow.size; omega) (fun e => hn (.inl (Option.some.inj e))), hgrow.block k hk (fun e => hn (.inr ⟨v, hc, e.symm⟩))]
      · rintro k (rfl | ⟨u, hu, hk⟩)
        · exact .inl (.inl rfl)
        · rw [hv2.cell] at hu
          cases hu
          rcases hblk with h | h
          · exact .inl (.inr ⟨v, hc, h.symm.trans hk⟩)
          · rw [h] at hk
            cases hk
            exact .inr (Nat.le_refl _)
    have hB2 : Below w.heap.size w (w1.setCell ⟨w.heap.size, 0, none⟩ (.slice a' n' c')) := hB.trans (hK.below hB.size (by
      rintro k (rfl | ⟨u, hu, hk⟩)
      · exact Nat.le_refl _
      · rw [hc] at hu
        cases hu
        exact (own_block hrow hk).1))
    rw [← dcL_snoc] at hr2
    have HFIN := hide (show KeptBut (MineD w.heap.size) W (w1.setCell ⟨w.heap.size, 0, none⟩ (.slice a' n' c')) ∧ (∃ v, Boxed (w1.setCell ⟨w.heap.size, 0, none⟩ (.slice a' n' c')) w.heap.size 22 v ∧ (w1.setCell ⟨w.heap.size, 0, none⟩ (.slice a' n' c')).ownsRow w.heap.size 21 1 v (dcL (pre ++ [x])).length (runeC (dcL (pre ++ [x]))) ∧ True) ∧ Below w.heap.size w (w1.setCell ⟨w.heap.size, 0, none⟩ (.slice a' n' c')) from ⟨hK, ⟨_, hv2, hr2, trivial⟩, hB2⟩)
    have HRUN := hide hrun
    clear hrun hK hB2 hr2 hg2 hv2 hv1 hblk hgrow hown' hrow hv hB hr hsp hln
    gi_wp2_with (gi_at_builtin; refine wpListIn_append_run rfl _ _ 22 rfl rfl rfl rfl (unhide HRUN) ?_)
    obtain ⟨f1, ⟨u, f2, f3, _⟩, f4⟩ := unhide HFIN
    exact ⟨f1, ⟨u, f2, f3⟩, f4⟩
  case done =>
    rintro D ys W hD hS ⟨⟨v, hv, hrow, _⟩, hB⟩ hK
    clear HPG
    have hc := hv.cell
    have he : dcL ys = (pcW s.data.toList).flatMap (·.1) := by unfold dcL; rw [hS]
    rw [he] at hrow
    gi_wp2
    refine ⟨by simp, .inl ⟨_, _, rfl, run_takeDeferred hK, ?_⟩⟩
    exact ⟨_, results_tmp rfl _ _ _, v, rfl, ownsRow_putObj hrow _ hK rfl, hB.trans (belowK_b (w := w) (Nat.le_refl _) W D _ _ (by simp at hD; omega) hK rfl rfl)⟩
end Go.Proofs.YtdallfakfhajdaaGreatDoor

/-
  How many letters and words a value's pieces have: plain mathematics.
-/
set_option linter.unusedVariables false
namespace Go.Proofs.YtdallfakfhajdaaGreatDoor
open Go.RowKit Go.Proofs.Enc Go.Proofs.Rns

theorem rdL_le (hl : ∀ c b, (decR c b).1.length ≤ b.length) (l : List UInt8) : (rdL (rdW l)).length ≤ rdN (rdW l) := by
  unfold rdW
  cases ho : opW l with
  | none => simp [rdL, rdN]
  | some r =>
    obtain ⟨hr, h2⟩ := opW_some ho
    have hrl : r.length = l.length - 2 := by rw [hr, List.length_drop]
    have l1 := cutD_len 63 r
    have l2 := cutD_len 63 (cutD 63 r).2
    have l3 := cutD_len 63 (cutD 63 (cutD 63 r).2).2
    simp only
    unfold rdP partsW
    simp only
    split
    · split
      · split
        · simp [rdL, rdN]
        · rename_i b hb
          have hbl := textR_len hb
          have := hl (setW ⟨(cutD 63 r).1, (cutD 63 (cutD 63 r).2).1, (cutD 63 (cutD 63 (cutD 63 r).2).2).1, (cutD 63 (cutD 63 (cutD 63 r).2).2).2⟩).1 b
          simp only [rdL, rdN]
          omega
      · simp [rdL, rdN]
    · simp [rdL, rdN]
theorem fdW_few (hl : ∀ c b, (decR c b).1.length ≤ b.length) : ∀ (l : List UInt8) (k : Nat), (fdW l k).2.1.length ≤ (fdW l k).2.2
  | [], k => by simp [fdW]
  | a :: r, k => by
    unfold fdW
    split
    · exact rdL_le hl (a :: r)
    · exact fdW_few hl r (k + 1)
theorem pcF_few (hl : ∀ c b, (decR c b).1.length ≤ b.length) (hs : ∀ b, (lettersL b).length ≤ b.length) : ∀ (f : Nat) (bw : Bool) (l : List UInt8), ((pcF f bw l).flatMap (·.1)).length ≤ l.length
  | 0, bw, l => by simp [pcF]
  | f + 1, bw, l => by
    unfold pcF
    split
    · simp
    · have h1 := fdW_le l 0
      have h2 := fdW_few hl l 0
      have h3 := pcF_few hl hs f true (l.drop ((fdW l 0).1 + (fdW l 0).2.2))
      have h4 := hs (l.take (fdW l 0).1)
      rw [List.length_drop] at h3
      rw [List.length_take] at h4
      rw [List.flatMap_append, List.flatMap_append, List.length_append, List.length_append]
      have h5 : ((if runB bw l then [(lettersL (l.take (fdW l 0).1), false)] else []).flatMap (·.1)).length ≤ (fdW l 0).1 := by
        split
        · simp; omega
        · simp
      have h6 : ((if 0 < (fdW l 0).2.2 then [((fdW l 0).2.1, true)] else []).flatMap (·.1)).length ≤ (fdW l 0).2.2 := by
        split
        · simpa using h2
        · simp
      omega
theorem decR_few (c : Nat) (b : List UInt8) : (decR c b).1.length ≤ b.length := by
  unfold decR decL
  split
  · simp only
    split
    · exact lettersL_len b
    · simp
  · simp
theorem pcW_few (l : List UInt8) : ((pcW l).flatMap (·.1)).length ≤ l.length := pcF_few decR_few lettersL_len _ _ _
theorem pcF_words : ∀ (f : Nat) (bw : Bool) (l : List UInt8), wdN (pcF f bw l) ≤ l.length
  | 0, bw, l => by simp [pcF, wdN]
  | f + 1, bw, l => by
    unfold pcF
    split
    · simp [wdN]
    · have h1 := fdW_le l 0
      have h3 := pcF_words f true (l.drop ((fdW l 0).1 + (fdW l 0).2.2))
      rw [List.length_drop] at h3
      unfold wdN at h3 ⊢
      rw [List.filter_append, List.filter_append, List.length_append, List.length_append]
      have h5 : ((if runB bw l then [(lettersL (l.take (fdW l 0).1), false)] else []).filter (fun p => p.2)).length = 0 := by
        split
        · simp
        · simp
      have h6 : ((if 0 < (fdW l 0).2.2 then [((fdW l 0).2.1, true)] else []).filter (fun p => p.2)).length ≤ (fdW l 0).2.2 := by
        split
        · simp; omega
        · simp
      omega
theorem wdC_from : ∀ (xs : List Pc) (n : Nat), n + wdN (xs.map Pc.say) < 4611686018427387904 → xs.foldl (fun n x => if x.b then wrap64 (n + 1) else n) (n : Int) = ((n + wdN (xs.map Pc.say) : Nat) : Int)
  | [], n, _ => by simp [wdN]
  | x :: r, n, h => by
    rw [List.foldl_cons]
    cases hb : x.b with
    | true =>
      have e : wdN ((x :: r).map Pc.say) = 1 + wdN (r.map Pc.say) := by simp [wdN, Pc.say, hb]; omega
      rw [e] at h ⊢
      rw [if_pos rfl, show wrap64 ((n : Int) + 1) = ((n + 1 : Nat) : Int) by unfold wrap64; omega, wdC_from r (n + 1) (by omega)]
      congr 1
      omega
    | false =>
      have e : wdN ((x :: r).map Pc.say) = wdN (r.map Pc.say) := by simp [wdN, Pc.say, hb]
      rw [e] at h ⊢
      rw [if_neg (by simp)]
      exact wdC_from r n h
theorem wdC_is {xs : List Pc} {l : List UInt8} (h : xs.map Pc.say = pcW l) (hl : l.length ≤ 16777216) : wdC xs = ((wdN (pcW l) : Nat) : Int) := by
  have h1 : wdN (pcW l) ≤ l.length := pcF_words _ _ _
  have h2 := wdC_from xs 0 (by rw [h]; omega)
  rw [h, Nat.zero_add] at h2
  exact h2
/-- Decode and Words, as the laws ask them. -/
theorem decode_word (s : ByteArray) (w : World) (ht : RTabN w) (hes : ErrS w) (hml : MaxL w) (hs : s.size ≤ 16777216) :
    Calls Tryz.prog 13 #[.string s] w fun e w' => ∃ v, e = .returned v ∧ w'.ownsRow w.heap.size 21 1 v ((pcW s.data.toList).flatMap (·.1)).length (runeC ((pcW s.data.toList).flatMap (·.1))) ∧ Below w.heap.size w w' :=
  decodeW_any s w ht hes hml hs (by have := pcW_few s.data.toList; rw [sizeL] at this; omega)
theorem words_word (s : ByteArray) (w : World) (ht : RTabN w) (hes : ErrS w) (hml : MaxL w) (hs : s.size ≤ 16777216) :
    Calls Tryz.prog 15 #[.string s] w fun e w' => e = .returned (.int .i64 (wdN (pcW s.data.toList) : Nat)) ∧ Below w.heap.size w w' := by
  refine (words_any s w ht hes hml hs).mono ?_
  rintro e w' ⟨⟨xs, hx, rfl⟩, hb⟩
  exact ⟨by rw [wdC_is hx (by rw [sizeL]; exact hs)], hb⟩
/-- A value without a word's beginning has one piece, or none. -/
theorem pcW_plain {l : List UInt8} (h : ∀ j, j ≤ l.length → opW (l.drop j) = none) : pcW l = if l = [] then [] else [(lettersL l, false)] := by
  have hf : fdW l 0 = (l.length, [], 0) := by
    rw [fdW_skip l.length l 0 (fun j hj => h j (by omega)) (Nat.le_refl _), List.drop_length]
    simp [fdW]
  unfold pcW pcF
  by_cases hl : l = []
  · rw [if_pos hl, if_pos hl]
  · rw [if_neg hl, if_neg hl]
    have hr : runB false l = true := by
      unfold runB
      rw [hf]
      simp [hl]
    rw [hr, hf]
    simp
    cases l.length <;> simp [pcF]
end Go.Proofs.YtdallfakfhajdaaGreatDoor

/-
  What missivelaw09.lives does, over this seat's program: it answers true.
-/
set_option linter.unusedVariables false
namespace Go.Proofs.YtdallfakfhajdaaGreatDoor
open Go.RowKit Go.Proofs.Enc Go.Proofs.Rns

/-- The variables that the layer reads lie as the program's text lays them. -/
structure TabW (w : World) : Prop where
  tab : RTabN w
  err : ErrS w
  max : MaxL w
theorem TabW.below {w w' : World} (h : TabW w) (hb : Below w.heap.size w w') : TabW w' := ⟨h.tab.below hb, h.err.below hb, h.max.below hb⟩

def lvS : ByteArray := ⟨#[61, 63, 117, 116, 102, 45, 56, 63, 113, 63, 97, 95, 98, 63, 61, 32, 32, 61, 63, 108, 97, 116, 105, 110, 49, 42, 101, 110, 63, 66, 63, 54, 81, 61, 61, 63, 61, 32, 120]⟩
def lvR : ByteArray := ⟨#[32, 32, 61, 63, 108, 97, 116, 105, 110, 49, 42, 101, 110, 63, 66, 63, 54, 81, 61, 61, 63, 61, 32, 120]⟩
theorem lv_dec (w : World) (ht : TabW w) : Calls Tryz.prog 13 #[.string lvS] w fun e w' => ∃ v, e = .returned v ∧ RowI w' v [97, 32, 98, 233, 32, 120] ∧ Below w.heap.size w w' := by
  have h := decode_word lvS w ht.tab ht.err ht.max (by decide)
  rw [show (pcW lvS.data.toList).flatMap (·.1) = [97, 32, 98, 233, 32, 120] by decide +kernel] at h
  refine h.mono ?_
  rintro e w' ⟨v, rfl, ho, hb⟩
  exact ⟨v, rfl, own_rowI ho (by decide), hb⟩
theorem lv_words (w : World) (ht : TabW w) : Calls Tryz.prog 15 #[.string lvS] w fun e w' => e = .returned (.int .i64 2) ∧ Below w.heap.size w w' := by
  have h := words_word lvS w ht.tab ht.err ht.max (by decide)
  rw [show wdN (pcW lvS.data.toList) = 2 by decide +kernel] at h
  exact h
theorem lv_one (w : World) (ht : TabW w) : Calls Tryz.prog 9 #[.string lvS] w fun e w' => ∃ v, e = .returned (.tuple #[v, .string lvR, .int .i64 0]) ∧ RowI w' v [97, 32, 98] ∧ Below w.heap.size w w' := by
  have h := one_word lvS w ht.tab ht.err (by decide)
  rw [show oneW lvS.data.toList = ([97, 32, 98], lvR.data.toList, 0) by decide +kernel] at h
  refine h.mono ?_
  rintro e w' ⟨v, rfl, ho, hb⟩
  exact ⟨v, by rw [bts_toList]; rfl, own_rowI ho (by decide), hb⟩
theorem lv_koi (w : World) (ht : TabW w) : Calls Tryz.prog 9 #[.string ⟨#[61, 63, 107, 111, 105, 56, 63, 113, 63, 97, 63, 61]⟩] w fun e w' => ∃ v t, e = .returned (.tuple #[v, .string t, .int .i64 7]) ∧ Below w.heap.size w w' := by
  have h := one_word ⟨#[61, 63, 107, 111, 105, 56, 63, 113, 63, 97, 63, 61]⟩ w ht.tab ht.err (by decide)
  rw [show oneW (ByteArray.mk #[61, 63, 107, 111, 105, 56, 63, 113, 63, 97, 63, 61]).data.toList = ([], [], 7) by decide +kernel] at h
  refine h.mono ?_
  rintro e w' ⟨v, rfl, ho, hb⟩
  exact ⟨v, _, rfl, hb⟩
theorem lv_enc (w : World) (ht : TabW w) (a : Option Addr) (hv : RowI w (.slice a 3 3) [97, 32, 233]) : Calls Tryz.prog 17 #[.slice a 3 3, .bool false] w fun e w' => e = .returned (.tuple #[.string ⟨#[61, 63, 85, 84, 70, 45, 56, 63, 81, 63, 97, 95, 61, 67, 51, 61, 65, 57, 63, 61]⟩, .int .i64 0]) ∧ Below w.heap.size w w' := by
  have h := encodeW_any a 3 [97, 32, 233] false w ht.tab.toRTab hv (by decide) (by decide)
  rw [show encW false [97, 32, 233] = ([61, 63, 85, 84, 70, 45, 56, 63, 81, 63, 97, 95, 61, 67, 51, 61, 65, 57, 63, 61], 0) by decide +kernel] at h
  exact h
theorem lv_enc1 (w : World) (ht : TabW w) (a : Option Addr) (hv : RowI w (.slice a 1 1) [97]) : Calls Tryz.prog 17 #[.slice a 1 1, .bool true] w fun e w' => e = .returned (.tuple #[.string ⟨#[61, 63, 85, 84, 70, 45, 56, 63, 66, 63, 89, 81, 61, 61, 63, 61]⟩, .int .i64 0]) ∧ Below w.heap.size w w' := by
  have h := encodeW_any a 1 [97] true w ht.tab.toRTab hv (by decide) (by decide)
  rw [show encW true [97] = ([61, 63, 85, 84, 70, 45, 56, 63, 66, 63, 89, 81, 61, 61, 63, 61], 0) by decide +kernel] at h
  exact h
theorem alloc_below {w w' : World} (o : Obj) (h : Below (w.alloc o).heap.size (w.alloc o) w') : Below w.heap.size w w' :=
  belows' ((Below.refl _ w).alloc (Nat.le_refl _) o) h
end Go.Proofs.YtdallfakfhajdaaGreatDoor

/-
  What is written as words is read as words, whatever runs of bytes stand between: plain mathematics of layer 9.
-/
set_option linter.unusedVariables false
namespace Go.Proofs.YtdallfakfhajdaaGreatDoor
open Go.RowKit Go.Proofs.Enc Go.Proofs.Rns

theorem cut_ahead {k : UInt8} : ∀ (a b : List UInt8), k ∉ a → cutAt k (a ++ k :: b) = some (a, b)
  | [], b, _ => by simp [cutAt]
  | c :: r, b, h => by
    simp only [List.cons_append, cutAt]
    rw [if_neg (fun e => h (by simp [e])), cut_ahead r b (fun hm => h (List.mem_cons_of_mem _ hm))]
    rfl
theorem cut_not {k : UInt8} : ∀ a : List UInt8, k ∉ a → cutAt k a = none
  | [], _ => rfl
  | c :: r, h => by
    simp only [cutAt]
    rw [if_neg (fun e => h (by simp [e])), cut_not r (fun hm => h (List.mem_cons_of_mem _ hm))]
    rfl
theorem cutD_ahead {k : UInt8} (a b : List UInt8) (h : k ∉ a) : cutD k (a ++ k :: b) = (a, b) := by
  unfold cutD
  rw [cut_ahead a b h]
  rfl
theorem let64_fin : ∀ n : Fin 64, plB (let64 n.val) = true ∧ let64 n.val ≠ 63 := by decide +kernel
theorem let64_pl {n : Nat} (h : n < 64) : plB (let64 n) = true ∧ let64 n ≠ 63 := let64_fin ⟨n, h⟩
theorem b64_pl : ∀ l : List UInt8, ∀ c ∈ b64 l, plB c = true ∧ c ≠ 63
  | [], c, h => by simp [b64, quad] at h
  | [a], c, h => by
    have ha := a.toNat_lt
    simp only [b64, quad, List.mem_cons, List.not_mem_nil, or_false] at h
    rcases h with rfl | rfl | rfl | rfl
    · exact let64_pl (by omega)
    · exact let64_pl (by omega)
    · decide
    · decide
  | [a, b], c, h => by
    have ha := a.toNat_lt
    have hb := b.toNat_lt
    simp only [b64, quad, List.mem_cons, List.not_mem_nil, or_false] at h
    rcases h with rfl | rfl | rfl | rfl
    · exact let64_pl (by omega)
    · exact let64_pl (by omega)
    · exact let64_pl (by omega)
    · decide
  | a :: b :: d :: r, c, h => by
    have ha := a.toNat_lt
    have hb := b.toNat_lt
    have hd := d.toNat_lt
    simp only [b64, quad, List.mem_append, List.mem_cons, List.not_mem_nil, or_false] at h
    rcases h with (rfl | rfl | rfl | rfl) | h
    · exact let64_pl (by omega)
    · exact let64_pl (by omega)
    · exact let64_pl (by omega)
    · exact let64_pl (by omega)
    · exact b64_pl r c h
theorem hx_fin : ∀ n : Fin 16, plB (hx n.val) = true ∧ hx n.val ≠ 63 := by decide +kernel
theorem qB_pl (a : UInt8) : ∀ c ∈ qB a, plB c = true ∧ c ≠ 63 := by
  intro c h
  have ha := a.toNat_lt
  unfold qB at h
  split at h
  · rename_i hal
    simp only [List.mem_singleton] at h
    subst h
    unfold alB at hal
    have hal := of_decide_eq_true hal
    refine ⟨by unfold plB; exact decide_eq_true (by omega), fun e => ?_⟩
    rw [e] at hal
    revert hal
    decide
  · split at h
    · simp only [List.mem_singleton] at h
      subst h
      decide
    · simp only [List.mem_cons, List.not_mem_nil, or_false] at h
      rcases h with rfl | rfl | rfl
      · decide
      · exact hx_fin ⟨a.toNat / 16, by omega⟩
      · exact hx_fin ⟨a.toNat % 16, by omega⟩
theorem qL_pl (l : List UInt8) : ∀ c ∈ qL l, plB c = true ∧ c ≠ 63 := by
  intro c h
  unfold qL at h
  obtain ⟨x, hx, hc⟩ := List.mem_flatten.1 h
  obtain ⟨a, _, rfl⟩ := List.mem_map.1 hx
  exact qB_pl a c hc
theorem alB_ne {c : UInt8} (h : alB c = true) : c ≠ 61 ∧ c ≠ 95 := by
  unfold alB at h
  have h := of_decide_eq_true h
  constructor <;> (intro e; rw [e] at h; revert h; decide)
theorem qL_cons (c : UInt8) (r : List UInt8) : qL (c :: r) = qB c ++ qL r := by simp [qL]
/-- What is written in Q is read. -/
theorem qA_back : ∀ (l acc : List UInt8) (f : Nat), l.length < f → qA f acc (qL l) = some (acc ++ l)
  | [], acc, 0, h => by simp at h
  | [], acc, f + 1, _ => by simp [qL, qA]
  | c :: r, acc, 0, h => by simp at h
  | c :: r, acc, f + 1, h => by
    have ih := qA_back r (acc ++ [c]) f (by simpa using h)
    have hc := c.toNat_lt
    rw [qL_cons]
    unfold qB
    split
    · rename_i ha
      obtain ⟨h1, h2⟩ := alB_ne ha
      rw [List.singleton_append, qA_else h1 h2, ih]
      simp
    · split
      · rename_i h32
        have e : c = 32 := UInt8.toNat_inj.mp (by rw [h32]; rfl)
        subst e
        rw [List.singleton_append, qA_us (by decide) rfl, ih]
        simp
      · show qA (f + 1) acc (61 :: hx (c.toNat / 16) :: hx (c.toNat % 16) :: qL r) = _
        unfold qA
        rw [if_pos rfl, if_neg (by simp)]
        have e : hexA 0 ((hx (c.toNat / 16) :: hx (c.toNat % 16) :: qL r).take 2) = some c.toNat := by
          simp only [List.take_succ_cons, List.take_zero, hexA]
          rw [dig_hx (by omega), dig_hx (by omega), if_pos (by omega), if_pos (by omega)]
          congr 1
          omega
        rw [e]
        simp only [List.drop_succ_cons, List.drop_zero]
        rw [show UInt8.ofNat c.toNat = c by simp, ih]
        simp
theorem qL_ge : ∀ l : List UInt8, l.length ≤ (qL l).length
  | [] => by simp
  | c :: r => by
    have := qL_ge r
    have h1 : 1 ≤ (qB c).length := by unfold qB; split; simp; split <;> simp
    rw [qL_cons, List.length_append, List.length_cons]
    omega
theorem fromQ_back (l : List UInt8) : fromQR (qL l) = some l := by
  unfold fromQR
  rw [qA_back l [] _ (by have := qL_ge l; omega)]
  rfl
def codT (base : Bool) (t : List UInt8) : List UInt8 := if base then b64 t else qL t
def codB (base : Bool) : UInt8 := if base then 66 else 81
theorem wordT_eq (base : Bool) (t : List UInt8) : wordT base t = 61 :: 63 :: ([85, 84, 70, 45, 56] ++ 63 :: ([codB base] ++ 63 :: (codT base t ++ 63 :: [61]))) := by
  unfold wordT codT codB
  cases base <;> simp
theorem codT_pl (base : Bool) (t : List UInt8) : ∀ c ∈ codT base t, plB c = true ∧ c ≠ 63 := by
  unfold codT
  cases base
  · exact qL_pl t
  · exact b64_pl t
theorem text_back (base : Bool) (t : List UInt8) : textR [codB base] (codT base t) = some t := by
  unfold textR codB codT
  cases base
  · rw [if_neg (by decide), if_pos (by decide)]
    exact fromQ_back t
  · rw [if_pos (by decide)]
    simp only [if_true]
    rw [strict_b64]
    rfl
/-- A word that is written is read, whatever stands behind it. -/
theorem rd_word (base : Bool) (t rest : List UInt8) : rdW (wordT base t ++ rest) = some (lettersL t, (wordT base t).length) := by
  have hn : (63 : UInt8) ∉ codT base t := fun h => (codT_pl base t 63 h).2 rfl
  have e : wordT base t ++ rest = 61 :: 63 :: ([85, 84, 70, 45, 56] ++ 63 :: ([codB base] ++ 63 :: (codT base t ++ 63 :: (61 :: rest)))) := by rw [wordT_eq]; simp
  have hl : (wordT base t ++ rest).length - (rest.length + 1 - 1) = (wordT base t).length := by rw [List.length_append]; omega
  unfold rdW
  rw [e] at hl ⊢
  have ho : opW (61 :: 63 :: ([85, 84, 70, 45, 56] ++ 63 :: ([codB base] ++ 63 :: (codT base t ++ 63 :: (61 :: rest))))) = some ([85, 84, 70, 45, 56] ++ 63 :: ([codB base] ++ 63 :: (codT base t ++ 63 :: (61 :: rest)))) := by
    unfold opW
    simp
  rw [ho]
  have h1 := cutD_ahead (k := 63) [85, 84, 70, 45, 56] ([codB base] ++ 63 :: (codT base t ++ 63 :: (61 :: rest))) (by decide)
  have h2 := cutD_ahead (k := 63) [codB base] (codT base t ++ 63 :: (61 :: rest)) (by unfold codB; cases base <;> decide)
  have h3 := cutD_ahead (k := 63) (codT base t) (61 :: rest) hn
  have hp : partsW ([85, 84, 70, 45, 56] ++ 63 :: ([codB base] ++ 63 :: (codT base t ++ 63 :: (61 :: rest)))) = ⟨[85, 84, 70, 45, 56], [codB base], codT base t, 61 :: rest⟩ := by
    unfold partsW
    rw [h1, h2, h3]
  simp only
  rw [hp]
  unfold rdP
  have hs : setW ⟨[85, 84, 70, 45, 56], [codB base], codT base t, 61 :: rest⟩ = (2, 0) := by
    unfold setW
    show namedR (cutD 42 [85, 84, 70, 45, 56]).1 = (2, 0)
    decide
  have hpl : plL (codT base t) = true := List.all_eq_true.2 fun c hc => (codT_pl base t c hc).1
  rw [if_pos ⟨rfl, (show plL [85, 84, 70, 45, 56] = true by decide), hpl⟩, hs, if_pos rfl, text_back]
  simp only [List.length_cons] at hl ⊢
  rw [hl]
  congr 1

theorem wordT_pos (base : Bool) (t : List UInt8) : 0 < (wordT base t).length := by rw [wordT_eq]; simp
theorem opW_no {l : List UInt8} (h : l.head? ≠ some 61) : opW l = none := by
  unfold opW
  rcases l with _ | ⟨a, _ | ⟨b, r⟩⟩
  · rfl
  · rfl
  · simp only [List.head?_cons, ne_eq, Option.some.injEq] at h
    simp [h]
theorem fd_word (run : List UInt8) (base : Bool) (t rest : List UInt8) (k : Nat) (h : 61 ∉ run) : fdW (run ++ (wordT base t ++ rest)) k = (k + run.length, lettersL t, (wordT base t).length) := by
  rw [fdW_skip run.length _ k (fun j hj => ?_) (by simp), List.drop_left]
  · have e := rd_word base t rest
    rw [fdW_hit (by rw [e]; exact wordT_pos base t), e]
    rfl
  · apply opW_no
    rw [List.head?_drop, List.getElem?_append_left hj, List.getElem?_eq_getElem hj]
    intro e
    exact h (by rw [← Option.some.inj e]; exact List.getElem_mem hj)
theorem fdW_go {l : List UInt8} (h : l ≠ []) : 0 < (fdW l 0).1 + (fdW l 0).2.2 := by
  cases l with
  | nil => exact absurd rfl h
  | cons a r =>
    unfold fdW
    split
    · simp only; omega
    · have := (fdW_le r (0 + 1)).1
      omega
theorem pcF_enough : ∀ (f g : Nat) (bw : Bool) (l : List UInt8), l.length < f → l.length < g → pcF f bw l = pcF g bw l
  | 0, g, bw, l, h, _ => by omega
  | f + 1, 0, bw, l, _, h => by omega
  | f + 1, g + 1, bw, l, hf, hg => by
    unfold pcF
    by_cases hl : l = []
    · rw [if_pos hl, if_pos hl]
    · rw [if_neg hl, if_neg hl]
      have h1 := fdW_go hl
      have h0 : 0 < l.length := List.length_pos_iff.2 hl
      rw [pcF_enough f g true _ (by rw [List.length_drop]; omega) (by rw [List.length_drop]; omega)]
/-- A run of bytes, and a word behind it. -/
theorem pc_word (run : List UInt8) (base : Bool) (t rest : List UInt8) (bw : Bool) (f : Nat) (h : 61 ∉ run) (hf : (run ++ (wordT base t ++ rest)).length < f) :
    pcF f bw (run ++ (wordT base t ++ rest)) = (if !run.isEmpty && !(bw && blL run) then [(lettersL run, false)] else []) ++ (lettersL t, true) :: pcF f true rest := by
  have hp := wordT_pos base t
  have hd := fd_word run base t rest 0 h
  rw [Nat.zero_add] at hd
  obtain ⟨f', rfl⟩ : ∃ f', f = f' + 1 := ⟨f - 1, by omega⟩
  have hlen : (run ++ (wordT base t ++ rest)).length = run.length + ((wordT base t).length + rest.length) := by simp
  rw [hlen] at hf
  rw [pcF_enough (f' + 1) f' true rest (by omega) (by omega)]
  conv => lhs; unfold pcF
  have hne : run ++ (wordT base t ++ rest) ≠ [] := by
    intro e
    have := congrArg List.length e
    rw [hlen, List.length_nil] at this
    omega
  rw [if_neg hne]
  have hr : runB bw (run ++ (wordT base t ++ rest)) = (!run.isEmpty && !(bw && blL run)) := by
    unfold runB
    rw [hd]
    simp only [List.take_left, decide_eq_true hp, Bool.and_true]
  rw [hr, hd]
  simp only [List.take_left]
  rw [if_pos hp, show run ++ (wordT base t ++ rest) = (run ++ wordT base t) ++ rest by simp, show run.length + (wordT base t).length = (run ++ wordT base t).length by simp, List.drop_left]
  simp
/-- Words one behind the other, a space between them. -/
def jw (base : Bool) : Bool → List (List UInt8) → List UInt8
  | _, [] => []
  | sp, t :: r => (if sp then [32] else []) ++ (wordT base t ++ jw base true r)
def wdP (t : List UInt8) : List Nat × Bool := (lettersL t, true)
theorem pc_jw (base : Bool) : ∀ (ts : List (List UInt8)) (sp bw : Bool) (rest : List UInt8) (f : Nat), (sp = true → bw = true) → (jw base sp ts ++ rest).length < f →
    pcF f bw (jw base sp ts ++ rest) = ts.map wdP ++ pcF f (bw || !ts.isEmpty) rest
  | [], sp, bw, rest, f, _, hf => by simp [jw]
  | t :: r, sp, bw, rest, f, h, hf => by
    have e : jw base sp (t :: r) ++ rest = (if sp then [32] else []) ++ (wordT base t ++ (jw base true r ++ rest)) := by simp [jw]
    rw [e] at hf ⊢
    have hl : (jw base true r ++ rest).length < f := by
      simp only [List.length_append] at hf ⊢
      omega
    rw [pc_word _ base t _ bw f (by cases sp <;> simp) hf, pc_jw base r true true rest f (fun _ => rfl) hl]
    have hc : (!(if sp then ([32] : List UInt8) else []).isEmpty && !(bw && blL (if sp then [32] else []))) = false := by
      cases sp
      · rfl
      · rw [h rfl]; decide
    rw [hc]
    simp [wdP]
def chunkF : Nat → List Int → List (List UInt8)
  | 0, _ => []
  | f + 1, l => if l = [] then [] else utf8L (l.take 12) :: chunkF f (l.drop 12)
theorem chunk_len : ∀ (f : Nat) (l : List Int), l.length < f → (chunkF f l).length = (l.length + 11) / 12
  | 0, l, h => by omega
  | f + 1, l, h => by
    unfold chunkF
    by_cases hl : l = []
    · subst hl; simp
    · have h0 : 0 < l.length := List.length_pos_iff.2 hl
      rw [if_neg hl, List.length_cons, chunk_len f _ (by rw [List.length_drop]; omega), List.length_drop]
      omega
theorem chunk_back : ∀ (f : Nat) (l : List Int), l.length < f → (∀ n ∈ l, isL n = true) → ints ((chunkF f l).flatMap lettersL) = l
  | 0, l, h, _ => by omega
  | f + 1, l, h, hi => by
    unfold chunkF
    by_cases hl : l = []
    · subst hl; simp [ints]
    · have h0 : 0 < l.length := List.length_pos_iff.2 hl
      have ih := chunk_back f (l.drop 12) (by rw [List.length_drop]; omega) (fun n hn => hi n (List.mem_of_mem_drop hn))
      have hb : ints (lettersL (utf8L (l.take 12))) = l.take 12 := by
        rw [letters_utf8]
        exact ints_fix _ (fun n hn => hi n (List.mem_of_mem_take hn))
      rw [if_neg hl, List.flatMap_cons]
      unfold ints at ih hb ⊢
      rw [List.map_append, ih, hb, List.take_append_drop]
/-- What is encoded, or not. -/
theorem encF_cases (base : Bool) : ∀ (f : Nat) (acc : List UInt8) (l : List Int), l.length < f →
    encF base f acc l = ([], 7) ∨ ((∀ n ∈ l, isL n = true) ∧ encF base f acc l = (acc ++ jw base (!acc.isEmpty) (chunkF f l), 0))
  | 0, acc, l, h => by omega
  | f + 1, acc, l, h => by
    unfold encF chunkF
    by_cases hl : l = []
    · right
      subst hl
      simp [jw]
    · have h0 : 0 < l.length := List.length_pos_iff.2 hl
      rw [if_neg hl, if_neg hl]
      cases he : encL 2 (l.take 12) with
      | none => left; rfl
      | some t =>
        obtain ⟨ht, hi⟩ := encL_two _ _ he
        subst ht
        rcases encF_cases base f ((if acc = [] then acc else acc ++ [32]) ++ wordT base (utf8L (l.take 12))) (l.drop 12) (by rw [List.length_drop]; omega) with h1 | ⟨h1, h2⟩
        · left; exact h1
        · right
          refine ⟨fun n hn => ?_, ?_⟩
          · rw [← List.take_append_drop 12 l] at hn
            rcases List.mem_append.1 hn with hn | hn
            · exact hi n hn
            · exact h1 n hn
          · simp only
            rw [h2]
            have hn : (!((if acc = [] then acc else acc ++ [32]) ++ wordT base (utf8L (l.take 12))).isEmpty) = true := by
              have := wordT_pos base (utf8L (l.take 12))
              cases hw : wordT base (utf8L (l.take 12)) with
              | nil => rw [hw] at this; simp at this
              | cons a r => simp
            rw [hn]
            have ha : (if acc = [] then acc else acc ++ [32]) = acc ++ (if (!acc.isEmpty) = true then [32] else []) := by
              cases acc <;> simp
            rw [ha]
            simp [jw]
def chunks (l : List Int) : List (List UInt8) := chunkF (l.length + 1) l
theorem encW_cases (base : Bool) (l : List Int) : encW base l = ([], 7) ∨ ((∀ n ∈ l, isL n = true) ∧ encW base l = (jw base false (chunks l), 0)) := encF_cases base _ [] l (Nat.lt_succ_self _)
theorem chunks_len (l : List Int) : (chunks l).length = (l.length + 11) / 12 := chunk_len _ l (Nat.lt_succ_self _)
theorem chunks_back {l : List Int} (h : ∀ n ∈ l, isL n = true) : ints ((chunks l).flatMap lettersL) = l := chunk_back _ l (Nat.lt_succ_self _) h
theorem wds_flat (ts : List (List UInt8)) : (ts.map wdP).flatMap (·.1) = ts.flatMap lettersL := by
  induction ts with
  | nil => rfl
  | cons t r ih => simp only [List.map_cons, List.flatMap_cons, ih]; rfl
theorem wds_num (ts : List (List UInt8)) : wdN (ts.map wdP) = ts.length := by
  unfold wdN
  rw [List.filter_eq_self.2]
  · simp
  · intro p hp
    obtain ⟨t, _, rfl⟩ := List.mem_map.1 hp
    rfl
theorem pcF_nil (f : Nat) (bw : Bool) : pcF f bw [] = [] := by cases f <;> simp [pcF]
/-- The words alone. -/
theorem pcW_jw (base : Bool) (ts : List (List UInt8)) : pcW (jw base false ts) = ts.map wdP := by
  have h := pc_jw base ts false false [] ((jw base false ts).length + 1) (fun h => by cases h) (by simp)
  rw [List.append_nil, pcF_nil, List.append_nil] at h
  exact h
theorem wordT_pl (base : Bool) (t : List UInt8) : ∀ c ∈ wordT base t, plB c = true := by
  intro c h
  rw [wordT_eq] at h
  simp only [List.mem_cons, List.mem_append, List.not_mem_nil, or_false] at h
  rcases h with rfl | rfl | (rfl | rfl | rfl | rfl | rfl) | rfl | rfl | rfl | h | rfl | rfl
  · decide
  · decide
  · decide
  · decide
  · decide
  · decide
  · decide
  · decide
  · unfold codB; cases base <;> decide
  · decide
  · exact (codT_pl base t c h).1
  · decide
  · decide
theorem jw_pl (base : Bool) : ∀ (sp : Bool) (ts : List (List UInt8)), ∀ c ∈ jw base sp ts, 32 ≤ c.toNat ∧ c.toNat ≤ 126
  | sp, [], c, h => by simp [jw] at h
  | sp, t :: r, c, h => by
    simp only [jw, List.mem_append] at h
    rcases h with h | h | h
    · cases sp
      · simp at h
      · simp at h; subst h; decide
    · have := of_decide_eq_true (wordT_pl base t c h); omega
    · exact jw_pl base true r c h
/-- Words, a run of bytes that is not handed over or is, and words. -/
theorem pcW_two (base : Bool) (ts us : List (List UInt8)) (run : List UInt8) (h : 61 ∉ run) (ht : ts ≠ []) (hu : us ≠ []) :
    pcW (jw base false ts ++ (run ++ jw (!base) false us)) = ts.map wdP ++ ((if !run.isEmpty && !blL run then [(lettersL run, false)] else []) ++ us.map wdP) := by
  obtain ⟨u, ur, rfl⟩ : ∃ u ur, us = u :: ur := by cases us with | nil => exact absurd rfl hu | cons u ur => exact ⟨u, ur, rfl⟩
  have hb : (false || !ts.isEmpty) = true := by cases ts with | nil => exact absurd rfl ht | cons a b => rfl
  unfold pcW
  generalize hf : (jw base false ts ++ (run ++ jw (!base) false (u :: ur))).length + 1 = f
  have e : run ++ jw (!base) false (u :: ur) = run ++ (wordT (!base) u ++ (jw (!base) true ur ++ [])) := by simp [jw]
  have hlen : (run ++ jw (!base) false (u :: ur)).length < f := by rw [← hf]; simp only [List.length_append]; omega
  rw [pc_jw base ts false false _ f (fun h => by cases h) (by omega), hb, e]
  rw [e] at hlen
  have hl2 : (jw (!base) true ur ++ []).length < f := by
    simp only [List.length_append] at hlen ⊢
    omega
  rw [pc_word run (!base) u _ true f h hlen, pc_jw (!base) ur true true [] f (fun _ => rfl) hl2, pcF_nil]
  simp [wdP]
end Go.Proofs.YtdallfakfhajdaaGreatDoor

/-
  What missivelaw09.lives does, over this seat's program: it answers true.
-/
set_option linter.unusedVariables false
namespace Go.Proofs.YtdallfakfhajdaaGreatDoor
open Go.RowKit Go.Proofs.Enc Go.Proofs.Rns

set_option maxHeartbeats 4000000 in
set_option maxRecDepth 100000 in
theorem livesW_any (w : World) (ht : TabW w) : Calls Tryz.prog 11 #[] w fun e w' => e = .returned (.bool true) ∧ Below w.heap.size w w' := by
  have H0 := hide ht
  clear ht
  have hR : lvR.size = 24 := by decide
  have hS : (⟨#[61, 63, 117, 116, 102, 45, 56, 63, 113, 63, 97, 95, 98, 63, 61, 32, 32, 61, 63, 108, 97, 116, 105, 110, 49, 42, 101, 110, 63, 66, 63, 54, 81, 61, 61, 63, 61, 32, 120]⟩ : ByteArray).size = 39 := by decide
  go_enter Tryz.func11, Tryz.ntmps11
  go_wp2_with fail
  refine (lv_dec _ (unhide H0)).mono ?_
  rintro e w1 ⟨v, rfl, hv, b1⟩
  have HV := hide hv
  have H1 := hide ((unhide H0).below b1)
  clear hv
  go_wp2_with fail
  refine (lv_one _ (unhide H1)).mono ?_
  rintro e w2 ⟨u, rfl, hu, b2⟩
  have HU := hide hu
  have H2 := hide ((unhide H1).below b2)
  clear hu
  go_wp2_with fail
  refine (lv_enc _ ((unhide H2).below ((Below.refl _ w2).alloc (Nat.le_refl _) _)) _ (lit_rowI w2 [97, 32, 233] _ rfl (by decide) 3 rfl)).mono ?_
  rintro e w3 ⟨rfl, b3'⟩
  have b3 := alloc_below _ b3'
  have H3 := hide ((unhide H2).below b3)
  clear b3'
  go_wp2_with fail
  refine (lv_enc1 _ ((unhide H3).below ((Below.refl _ w3).alloc (Nat.le_refl _) _)) _ (lit_rowI w3 [97] _ rfl (by decide) 1 rfl)).mono ?_
  rintro e w4 ⟨rfl, b4'⟩
  have b4 := alloc_below _ b4'
  have H4 := hide ((unhide H3).below b4)
  clear b4'
  go_wp2_with fail
  refine (lv_koi _ (unhide H4)).mono ?_
  rintro e w5 ⟨x1, x2, rfl, b5⟩
  have H5 := hide ((unhide H4).below b5)
  have HV5 := hide (((((unhide HV).below b2).below b3).below b4).below b5)
  have HU5 := hide ((((unhide HU).below b3).below b4).below b5)
  clear HV HU
  go_wp2_with fail
  refine (same_any _ _ [97, 32, 98, 233, 32, 120] [97, 32, 98, 233, 32, 120] _ ((unhide HV5).below ((Below.refl _ w5).alloc (Nat.le_refl _) _)) (lit_rowI w5 [97, 32, 98, 233, 32, 120] _ rfl (by decide) 6 rfl) (by decide)).mono ?_
  rintro e w6 ⟨rfl, b6'⟩
  have b6 := alloc_below _ b6'
  have H6 := hide ((unhide H5).below b6)
  have HU6 := hide ((unhide HU5).below b6)
  clear b6' HU5 HV5
  rw [show decide (([97, 32, 98, 233, 32, 120] : List Int) = [97, 32, 98, 233, 32, 120]) = true from rfl]
  go_wp2_with fail
  refine (lv_words _ (unhide H6)).mono ?_
  rintro e w7 ⟨rfl, b7⟩
  have HU7 := hide ((unhide HU6).below b7)
  clear HU6
  go_wp2_with fail
  refine (same_any _ _ [97, 32, 98] [97, 32, 98] _ ((unhide HU7).below ((Below.refl _ w7).alloc (Nat.le_refl _) _)) (lit_rowI w7 [97, 32, 98] _ rfl (by decide) 3 rfl) (by decide)).mono ?_
  rintro e w8 ⟨rfl, b8'⟩
  have b8 := alloc_below _ b8'
  clear b8'
  rw [show decide (([97, 32, 98] : List Int) = [97, 32, 98]) = true from rfl]
  go_wp2
  go_ret
  exact ⟨rfl, belows' (belows' (belows' (belows' (belows' (belows' (belows' b1 b2) b3) b4) b5) b6) b7) b8⟩
end Go.Proofs.YtdallfakfhajdaaGreatDoor

/-
  What missivelaw09.WordBack does, over this seat's program: it answers true.
-/
set_option linter.unusedVariables false
namespace Go.Proofs.YtdallfakfhajdaaGreatDoor
open Go.RowKit Go.Proofs.Enc Go.Proofs.Rns

theorem jw_len (base : Bool) : ∀ (sp : Bool) (ts : List (List UInt8)), (∀ t ∈ ts, t.length ≤ 48) → (jw base sp ts).length ≤ 175 * ts.length
  | sp, [], h => by simp [jw]
  | sp, t :: r, h => by
    have h1 := wordT_len base t
    have h2 := jw_len base true r (fun x hx => h x (List.mem_cons_of_mem _ hx))
    have h3 := h t (List.mem_cons_self ..)
    have h4 : (if sp then ([32] : List UInt8) else []).length ≤ 1 := by cases sp <;> simp
    simp only [jw, List.length_append, List.length_cons]
    omega
theorem chunk_few : ∀ (f : Nat) (l : List Int), ∀ t ∈ chunkF f l, t.length ≤ 48
  | 0, l, t, h => by simp [chunkF] at h
  | f + 1, l, t, h => by
    unfold chunkF at h
    split at h
    · simp at h
    · rcases List.mem_cons.1 h with rfl | h
      · have := utf8L_len (l.take 12)
        have h2 : (l.take 12).length ≤ 12 := by simp; omega
        omega
      · exact chunk_few f _ t h
theorem enc_len_le (base : Bool) (l : List Int) : (jw base false (chunks l)).length ≤ 175 * ((l.length + 11) / 12) := by
  have := jw_len base false (chunks l) (chunk_few _ l)
  rw [chunks_len] at this
  exact this

set_option maxHeartbeats 4000000 in
set_option maxRecDepth 100000 in
theorem wordBack_walk (a : Option Addr) (cap : Nat) (l : List Int) (base : Bool) (w : World) (ht : TabW w) (hv : RowI w (.slice a l.length cap) l) (hc : l.length ≤ cap) (hl : l.length ≤ 1048576) :
    Calls Tryz.prog 5 #[.slice a l.length cap, .bool base] w fun e w' => e = .returned (.bool true) ∧ Below w.heap.size w w' := by
  have HT := hide ht
  have HV := hide hv
  have HL := hide (livesW_any w ht)
  clear ht hv
  go_enter Tryz.func5, Tryz.ntmps5
  go_wp2_with fail
  refine (unhide HL).mono ?_
  rintro e w1 ⟨rfl, b1⟩
  have HV1 := hide ((unhide HV).below b1)
  have HT1 := hide ((unhide HT).below b1)
  have HB := hide b1
  have HE := hide (encodeW_any a cap l base w1 (unhide HT1).tab.toRTab (unhide HV1) hc (by omega))
  clear HL b1 HT HV
  rcases encW_cases base l with he | ⟨hi, he⟩
  · rw [he] at HE
    clear he
    go_wp2_with fail
    refine (unhide HE).mono ?_
    rintro e w2 ⟨rfl, b2⟩
    have HB2 := hide (belows' (unhide HB) b2)
    clear HE b2 HB
    go_wp2
    go_ret
    exact ⟨congrArg (fun b => Ending.returned (Value.bool b)) (show (bts []).toList.isEmpty = true by rw [empty_size]; rfl), unhide HB2⟩
  · rw [he] at HE
    clear he
    have hlen := enc_len_le base l
    have hpl := jw_pl base false (chunks l)
    have hpw := pcW_jw base (chunks l)
    obtain ⟨s, hs⟩ : ∃ s, s = bts (jw base false (chunks l)) := ⟨_, rfl⟩
    have hsl : s.data.toList = jw base false (chunks l) := by rw [hs, toList_bts]
    have hss : s.size ≤ 16777216 := by rw [← sizeL, hsl]; omega
    rw [← hs] at HE
    rw [← hsl] at hpl hpw
    have HPL : Hid (∀ j (h : j < s.size), 32 ≤ s[j].toNat ∧ s[j].toNat ≤ 126) := hide (fun j h => by
      apply hpl
      have h' : j < s.data.toList.length := by rw [sizeL]; exact h
      have e : s[j] = s.data.toList[j] := by rfl
      rw [e]
      exact List.getElem_mem _)
    have HD := hide (fun W (h : TabW W) => decode_word s W h.tab h.err h.max hss)
    have HW := hide (fun W (h : TabW W) => words_word s W h.tab h.err h.max hss)
    have hfl : (pcW s.data.toList).flatMap (·.1) = (chunks l).flatMap lettersL := by rw [hpw, wds_flat]
    have hnum : wdN (pcW s.data.toList) = (l.length + 11) / 12 := by rw [hpw, wds_num, chunks_len]
    rw [hfl] at HD
    rw [hnum] at HW
    have HIS : Hid (∀ n ∈ (chunks l).flatMap lettersL, isL (n : Int) = true) := hide (fun n hn => by
      obtain ⟨t, _, ht⟩ := List.mem_flatMap.1 hn
      exact lettersL_is t n ht)
    have HBK := hide (chunks_back hi)
    clear hlen hpl hpw hs hsl hfl hnum hi
    go_wp2_with fail
    refine (unhide HE).mono ?_
    rintro e w2 ⟨rfl, b2⟩
    have HB2 := hide (belows' (unhide HB) b2)
    have HT2 := hide ((unhide HT1).below b2)
    have HV2 := hide ((unhide HV1).below b2)
    clear HE b2 HB HT1 HV1
    go_wp2
    go_loop [7] (fun z => ∃ k : Nat, z = .int .i64 k ∧ k ≤ s.size) (fun z => s.size - (intOf z).toNat)
    case atStart => exact ⟨0, rfl, Nat.zero_le _⟩
    case round =>
      obtain ⟨k, rfl, hk⟩ := hrel
      by_cases hlt : k < s.size
      · have hlt' : (k : Int) < (s.size : Int) := by omega
        obtain ⟨p1, p2⟩ := unhide HPL k hlt
        have h1' : ¬ (s[k].toNat : Int) < 32 := by omega
        have h2' : ¬ (126 : Int) < (s[k].toNat : Int) := by omega
        clear p1 p2
        go_wp2
        go_round
        case rel => exact ⟨k + 1, by go_num, by omega⟩
        case measure => simp [intOf]; omega
      · have hlt' : ¬ (k : Int) < (s.size : Int) := by omega
        have hq : ((l.length : Int) + 11) / 12 = (((l.length + 11) / 12 : Nat) : Int) := by omega
        obtain ⟨q, hqq⟩ : ∃ q, q = (l.length + 11) / 12 := ⟨_, rfl⟩
        rw [← hqq] at hq HW
        clear hqq
        go_wp2_with fail
        refine (unhide HD _ (unhide HT2)).mono ?_
        rintro e w3 ⟨v, rfl, ho, b3⟩
        have HO := hide (own_rowI ho (unhide HIS))
        have HT3 := hide ((unhide HT2).below b3)
        have HV3 := hide ((unhide HV2).below b3)
        have HB3 := hide (belows' (unhide HB2) b3)
        clear ho b3 HD
        have HS := hide (same_any _ _ _ _ _ (unhide HO) (unhide HV3) (by rw [unhide HBK]; omega))
        rw [unhide HBK, decide_eq_true rfl] at HS
        go_wp2_with fail
        refine (unhide HS).mono ?_
        rintro e w4 ⟨rfl, b4⟩
        have HT4 := hide ((unhide HT3).below b4)
        have HB4 := hide (belows' (unhide HB3) b4)
        clear b4 HS
        go_wp2_with fail
        refine (unhide HW _ (unhide HT4)).mono ?_
        rintro e w5 ⟨rfl, b5⟩
        have HB5 := hide (belows' (unhide HB4) b5)
        clear b5
        go_wp2
        go_ret
        exact ⟨rfl, unhide HB5⟩
end Go.Proofs.YtdallfakfhajdaaGreatDoor
