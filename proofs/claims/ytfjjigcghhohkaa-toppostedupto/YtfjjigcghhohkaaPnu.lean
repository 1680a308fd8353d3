/-
  What post.Pack does, over this seat's program: the walk.
-/
import Derived.Test.YtfjjigcghhohkaaPnv
set_option linter.unusedVariables false
namespace Go.Proofs.Ytfjjigcghhohkaa
open Go.RowKit Go.Shelf Go.Proofs.Num Go.Proofs.Dct Go.Proofs.Pna
attribute [local go_sem] Oper.semAt_some

theorem Kp.toBelow {b N : Nat} {g : Option Nat} {W W' : World} (h : Kp b g W W') (hb : N ≤ b) (hg : ∀ k, g = some k → N ≤ k) (hN : N ≤ W.heap.size) : Below N W W' :=
  ⟨h.os, h.tape, h.output, h.size, fun k hk => h.block k (by omega) (by omega) (fun e => by have := hg k e.symm; omega)⟩
theorem chk_rise {l : List Nat} (h : chk l = 0) : l.Pairwise (· < ·) ∧ l.length ≤ 65536 := by
  unfold chk at h
  split at h
  · rename_i h1
    split at h
    · rename_i h2
      refine ⟨?_, h2⟩
      rw [rises_iff] at h1
      rw [List.pairwise_iff_getElem]
      intro i j hi hj hij
      obtain ⟨d, rfl⟩ : ∃ d, j = i + 1 + d := ⟨j - i - 1, by omega⟩
      clear hij
      induction d with
      | zero => exact h1.2 i hj
      | succ d ih =>
        have h3 := ih (by omega)
        have h4 : l[i + 1 + d] < l[i + 1 + (d + 1)] := h1.2 (i + 1 + d) hj
        omega
    · omega
  · omega
theorem pre_len {pre : List Nat} {x N : Nat} (h : pre ++ [x] <+: List.range N) : x = pre.length ∧ x < N := by
  have h1 := h.length_le
  rw [List.length_append, List.length_range] at h1
  simp only [List.length_cons, List.length_nil] at h1
  have h2 := h.getElem (i := pre.length) (by simp)
  rw [List.getElem_append_right (Nat.le_refl _), List.getElem_range] at h2
  simp at h2
  exact ⟨h2, by omega⟩
/-- The blocks that a round of Pack may write. -/
def MineP (b A k : Nat) (W : World) : Prop := k = b ∨ k = A ∨ RowOf b k W

set_option maxHeartbeats 4000000 in
set_option maxRecDepth 100000 in
theorem pack_any (a : Option Addr) (l : List Nat) (T cap : Nat) (w : World) (h : Row32 w (.slice a T cap) l) (hT : T = l.length) (hc : T ≤ cap) :
    Calls Try.prog 7 #[.slice a T cap] w fun e w' => e = .returned (if chk l = 0 then .tuple #[.string ⟨(packL l).toArray⟩, .int .i64 0] else .tuple #[.string ⟨#[]⟩, .int .i64 (chk l : Int)]) ∧ Below w.heap.size w w' := by
  have HR := hide h
  have HCK := hide (check_any (.slice a T cap) l w h)
  have HCH := hide (fun W => chunk_any a T cap W)
  have HTL := hide hT
  clear h hT
  refine (callsIn_wide (n := 3)).1 ?_
  refine callsIn_of_wp_marks Try.func7 rfl trivial ?_ rfl
  simp only [Try.ntmps7, List.size_toArray, List.length_cons, List.length_nil, Nat.reduceAdd, Nat.reduceSub, Array.replicate_succ, Array.replicate_zero, List.push_toArray, List.append_toArray, List.nil_append, List.cons_append]
  gi_wp2_with fail
  refine ⟨trivial, (callsIn_wide.2 (unhide HCK)).mono ?_⟩
  rintro e u ⟨rfl, q, hq⟩
  have hBu : Below w.heap.size w u := by rw [hq]; exact below_drewN (Below.refl _ _) q
  have hzu : u.heap.size = w.heap.size := by rw [hq]; rfl
  have HBU := hide hBu
  have HZU := hide hzu
  clear hq hBu hzu HCK
  by_cases h0 : chk l = 0
  · have e0 : ((chk l : Int) != 0) = false := by rw [h0]; rfl
    have e1 : ((chk l : Int) == 0) = true := by rw [h0]; rfl
    have hT6 : T ≤ 65536 := by
      have h9 := h0
      unfold chk at h9
      have := unhide HTL
      split at h9
      · split at h9 <;> omega
      · omega
    have HPT := hide (fun W => put_any T W (by omega))
    have hu4 : IntKind.u64.wrap (T : Int) = (T : Int) := by rw [IntKind.wrap_u64]; omega
    have HCH0 := hide h0
    generalize (chk l : Int) = ck at e0 e1
    gi_wp2_with fail
    refine ⟨trivial, (callsIn_wide.2 (unhide HPT _)).mono ?_⟩
    rintro e w1 ⟨rfl, p1⟩
    have hfr : Bdr (u.alloc (.cells #[.pointer none, .slice none 0 0] 54)) u.heap.size u.heap.size none [] := ⟨(Wr.new u).isb, _, _, World.alloc_heap_new u _, rfl⟩
    have hb1 := hfr.below p1
    have hBw1 : Below u.heap.size u w1 := ((Below.refl _ u).alloc (Nat.le_refl _) _).trans (p1.mono (by simp))
    have HWS := hide (writeString_r hb1 ⟨(putL T).toArray⟩ (by rw [putB_size]; have := putL_len10 (n := T) (by omega); simp; omega) (by have := hb1.lt; omega))
    have HBW1 := hide hBw1
    clear hfr hb1 hBw1 p1 HPT
    gi_wp2_with fail
    refine ⟨trivial, (callsIn_wide.2 (unhide HWS)).mono ?_⟩
    rintro e w2 ⟨rfl, g2, d2, f2, k2⟩
    have hB2 : Below u.heap.size u w2 := (unhide HBW1).trans (k2.toBelow (Nat.le_refl _) (by simp) (unhide HBW1).size)
    have HD2 : Hid (Bdr w2 u.heap.size u.heap.size g2 (putL T)) := hide d2
    have HB2 := hide hB2
    clear f2 k2 d2 hB2 HWS HBW1
    gi_wp2_with fail
    refine ⟨trivial, (callsIn_wide.2 (unhide HCH _)).mono ?_⟩
    rintro e _ ⟨rfl, rfl⟩
    clear HCH
    gi_wp2
    obtain ⟨A, hA⟩ : ∃ A, A = w2.heap.size := ⟨_, rfl⟩
    have hAu : u.heap.size < A := by rw [hA]; exact (unhide HD2).lt
    have bA : Boxed (((w2.alloc (.cells #[.int .u32 0] 31)).alloc (.cells #[.slice a T cap] 22)).alloc (.cells #[.int .i64 32] 3)) w2.heap.size 31 (.int .u32 0) := ((Boxed.new w2 31 (.int .u32 0)).alloc _).alloc _
    have bS : Boxed (((w2.alloc (.cells #[.int .u32 0] 31)).alloc (.cells #[.slice a T cap] 22)).alloc (.cells #[.int .i64 32] 3)) (w2.heap.size + 1) 22 (.slice a T cap) := (by
      have := Boxed.new (w2.alloc (.cells #[.int .u32 0] 31)) 22 (.slice a T cap)
      rw [World.size_alloc] at this
      exact this.alloc _)
    have bN : Boxed (((w2.alloc (.cells #[.int .u32 0] 31)).alloc (.cells #[.slice a T cap] 22)).alloc (.cells #[.int .i64 32] 3)) (w2.heap.size + 1 + 1) 3 (.int .i64 32) := (by
      have := Boxed.new ((w2.alloc (.cells #[.int .u32 0] 31)).alloc (.cells #[.slice a T cap] 22)) 3 (.int .i64 32)
      rw [World.size_alloc, World.size_alloc] at this
      exact this)
    have hBa : Below w2.heap.size w2 (((w2.alloc (.cells #[.int .u32 0] 31)).alloc (.cells #[.slice a T cap] 22)).alloc (.cells #[.int .i64 32] 3)) := (((Below.refl _ w2).alloc (Nat.le_refl _) _).alloc (by simp) _).alloc (by simp; omega) _
    have hz0 : (((w2.alloc (.cells #[.int .u32 0] 31)).alloc (.cells #[.slice a T cap] 22)).alloc (.cells #[.int .i64 32] 3)).heap.size = w2.heap.size + 3 := by simp [World.size_alloc]
    generalize (((w2.alloc (.cells #[.int .u32 0] 31)).alloc (.cells #[.slice a T cap] 22)).alloc (.cells #[.int .i64 32] 3)) = W0 at bA bS bN hBa hz0 ⊢
    have dB := (unhide HD2).below hBa
    have hg2 : ∀ k, g2 = some k → k < A := fun k hk => by rw [hA]; exact ((unhide HD2).rowlt k hk).2
    have hB0 : Below u.heap.size u W0 := (unhide HB2).trans (hBa.mono (unhide HB2).size)
    rw [← hA] at bA bS bN hz0 ⊢
    clear hBa HD2 HB2 hA
    obtain ⟨b0, off, ha⟩ : ∃ b0 off, a = some ⟨b0, off, none⟩ ∨ T = 0 := by
      obtain ⟨a', cap', hv, hl4, hfit, hh⟩ := unhide HR
      injection hv with e1 e2 e3
      rcases hh with hh | ⟨b0, off, ha, _⟩
      · exact ⟨0, 0, .inr (by rw [unhide HTL, hh]; rfl)⟩
      · exact ⟨b0, off, .inl (e1.trans ha)⟩
    obtain ⟨hri, _⟩ := chk_rise (unhide HCH0)
    refine wpIn_range_box rfl (by omega) (gf := 35) (lb := #[.pointer (some ⟨A + 1, 0, none⟩), .pointer (some ⟨A + 1 + 1, 0, none⟩)]) rfl trivial (enters_of Try.func35 (by kernel_rfl) rfl)
      (chunk_gives a b0 off T cap W0 _ u.heap.size (A + 1) (by omega) ha hT6 hc bS.cell bN.cell (by omega)) (by omega) (by rintro k (rfl | rfl) <;> omega) (by omega) (fun _ => rfl)
      (fun pre W => (∃ g, Bdr W u.heap.size u.heap.size g (packN l pre.length).1 ∧ ∀ k, g = some k → k < A ∨ A + 3 ≤ k) ∧ Boxed W A 31 (.int .u32 ((packN l pre.length).2 : Int)) ∧ Below u.heap.size u W ∧ A + 3 ≤ W.heap.size)
      (MineP u.heap.size A)
      ?own ?mine ?ib ?mb ?tt ?older ?put
      ⟨⟨g2, by show Bdr W0 _ _ g2 (putL l.length); rw [← unhide HTL]; exact dB, fun k hk => .inl (hg2 k hk)⟩, bA, hB0, by omega⟩
      (fun i => { tmps := #[.slice a T cap, undef, .string ⟨#[]⟩, .int .i64 0, .int .i64 ck, .pointer (some ⟨u.heap.size, 0, none⟩), .pointer (some ⟨A, 0, none⟩), chunkV b0 off T i, .slice a T cap, .int .i64 ck, .int .i64 ck, .bool false, undef, .slice a T cap, .int .i64 (T : Int), .int .u64 (T : Int), .string ⟨(putL T).toArray⟩, .tuple #[.int .i64 ((putL T).length : Int), .nilIface], .slice a T cap, .func (.func 35) #[] #[.pointer (some ⟨A + 1, 0, none⟩), .pointer (some ⟨A + 1 + 1, 0, none⟩)], chunkV b0 off T i, undef, undef, undef, undef, undef, undef, undef, undef, undef, undef], defers := [] }) ?assign ?body ?done
    case own =>
      rintro p X Y row ⟨⟨g, h1, h2⟩, h3, h4, h5⟩ hg hr
      have hnr : ∀ k, (∃ o : Obj, X.heap[k]? = some o ∧ o.isCells = true) → some k ≠ row := by
        rintro k ⟨o, ho, hco⟩ e
        obtain ⟨_, o', ho', hc'⟩ := hr k e.symm
        rw [ho] at ho'
        cases ho'
        rw [hco] at hc'
        cases hc'
      refine ⟨⟨g, h1.grown hg (hnr _ h1.bcells) (fun k hk => hnr k (h1.rowcells k hk)), h2⟩, h3.kept hg (hnr _ (cells_of_cell h3.cell)), h4.grown hg (by omega) (fun k e => by have := (hr k e).1; omega), Nat.le_trans h5 hg.size⟩
    case mine =>
      rintro p X k ⟨⟨g, h1, h2⟩, h3, h4, h5⟩ (rfl | rfl | hk)
      · exact ⟨Nat.le_refl _, by omega, h1.bcells⟩
      · exact ⟨by omega, by omega, cells_of_cell h3.cell⟩
      · have hgk := h1.rowof hk
        have := h1.rowlt k hgk
        have := h2 k hgk
        exact ⟨by omega, by omega, h1.rowcells k hgk⟩
    case ib =>
      rintro p X Y ⟨⟨g, h1, h2⟩, h3, h4, h5⟩ hg
      refine ⟨⟨g, h1.grown hg (fun e => by have := Option.some.inj e; omega) (fun k hk e => by have := Option.some.inj e; have := h2 k hk; omega), h2⟩, h3.kept hg (by simp), h4.grown hg (by omega) (fun k e => by cases e; omega), Nat.le_trans h5 hg.size⟩
    case mb =>
      rintro p X Y k ⟨⟨g, h1, h2⟩, h3, h4, h5⟩ hg (rfl | rfl | hk)
      · exact .inl rfl
      · exact .inr (.inl rfl)
      · have h6 := h1.grown hg (fun e => by have := Option.some.inj e; omega) (fun k hk e => by have := Option.some.inj e; have := h2 k hk; omega)
        exact .inr (.inr (h1.rowof' (h6.rowof hk)))
    case tt => exact fun _ _ _ _ h _ => h
    case older =>
      rintro p X Y row k ⟨⟨g, h1, h2⟩, h3, h4, h5⟩ hg hr (rfl | rfl | hk)
      · exact .inl rfl
      · exact .inr (.inl rfl)
      · have hnr : ∀ k, (∃ o : Obj, X.heap[k]? = some o ∧ o.isCells = true) → some k ≠ row := by
          rintro k ⟨o, ho, hco⟩ e
          obtain ⟨_, o', ho', hc'⟩ := hr k e.symm
          rw [ho] at ho'
          cases ho'
          rw [hco] at hc'
          cases hc'
        have h6 := h1.grown hg (hnr _ h1.bcells) (fun k hk => hnr k (h1.rowcells k hk))
        exact .inr (.inr (h1.rowof' (h6.rowof hk)))
    case put => exact fun _ _ _ _ _ _ _ _ _ => trivial
    case assign =>
      intro l' i W K hK
      gi_wp2
      exact hK
    case body =>
      rintro l' pre x W ⟨⟨g, h1, h2⟩, h3, h4, h5⟩ _ hsp
      obtain ⟨hxl, hxN⟩ := pre_len hsp
      clear hsp bA bS bN dB hB0
      rw [← hxl] at h1 h3
      have hxT : 32 * x < T := by omega
      have ha' : a = some ⟨b0, off, none⟩ := by rcases ha with h | h; exact h; omega
      subst ha'
      have hBw : Below w.heap.size w W := (unhide HBU).trans (by rw [← unhide HZU]; exact h4)
      have hrow := row32_chunk (unhide HR) (unhide HTL) x hxT
      have hft : ∀ y ∈ l, y ≤ 4294967295 := (by obtain ⟨_, _, _, _, hft, _⟩ := unhide HR; exact hft)
      have hcl := chunkL_len l x
      rw [← unhide HTL] at hcl
      obtain ⟨m, hm⟩ : ∃ m, m = min 32 (T - 32 * x) := ⟨_, rfl⟩
      have HWB := hide (wblock_any (chunkV b0 off T x) (chunkL l x) (packN l x).2 u.heap.size u.heap.size g (packN l x).1 W (hrow.below hBw) h1 (by omega) (by omega) (chunkL_rise hri x) (ahead_le hri x (by have := unhide HTL; omega)) (by have := packN_len (l := l) hft (by have := unhide HTL; omega) x; omega))
      have HCV : Hid (chunkV b0 off T x = .slice (some ⟨b0, off + 32 * x, none⟩) m m) := hide (by unfold chunkV; rw [hm])
      rw [← hm] at hcl
      have hm1 : 1 ≤ m := by omega
      have hm32 : m ≤ 32 := by omega
      have HROW := hide hrow
      have HBW := hide hBw
      have HCL := hide hcl
      have H1 := hide h1
      have H3 := hide h3
      have H4 := hide h4
      have hc3 := h3.cell
      have HXL := hide hxl
      clear hrow hBw hcl h1 h3 hm hft hxl ha
      obtain ⟨pn, hpn⟩ : ∃ pn, pn = (packN l x).2 := ⟨_, rfl⟩
      rw [← hpn] at HWB H3 hc3
      have HPN := hide hpn
      clear hpn
      rw [unhide HCV]
      rw [unhide HCV] at HWB HROW
      gi_wp2_with fail
      refine ⟨trivial, (callsIn_wide.2 (unhide HWB)).mono ?_⟩
      rintro e w1' ⟨rfl, g', n1, n2, n3⟩
      have hgA : some A ≠ g := fun e => by have := h2 A e.symm; omega
      have hAlt : A < W.heap.size := by omega
      have bA1 : Boxed w1' A 31 (.int .u32 (pn : Int)) := (n3.block A hAlt (by omega) hgA).trans (unhide H3)
      have hBk : Below u.heap.size W w1' := n3.toBelow (Nat.le_refl _) (fun k hk => ((unhide H1).rowlt k hk).1) (by omega)
      have hg' : ∀ k, g' = some k → k < A ∨ A + 3 ≤ k := fun k hk => by
        rcases n2 with h | h | ⟨j, h, hj⟩
        · rw [h] at hk; exact h2 k hk
        · rw [h] at hk; cases hk
        · rw [h] at hk; cases hk; omega
      have hBw1 : Below w.heap.size w w1' := (unhide HBW).trans (by rw [← unhide HZU]; exact hBk)
      obtain ⟨b5, off5, cap5, hv5, hblt5, hcell5⟩ := RowG.at cells32_len ((unhide HROW).below hBw1) (j := m - 1) (by have := unhide HCL; omega)
      injection hv5 with e1 e2 e3
      injection e1 with e1
      injection e1 with e4 e5
      subst e4 e5
      have c0 := hcell5 0 (by omega)
      simp only [cells32, List.getElem?_cons_zero, Nat.add_zero, Nat.mul_one] at c0
      have HLST : Hid ((packN l (x + 1)).2 = (chunkL l x)[m - 1]'(by have := unhide HCL; omega)) := hide (by
        show (chunkL l x).getD ((chunkL l x).length - 1) 0 = _
        have hl9 : (chunkL l x).length - 1 = m - 1 := by have := unhide HCL; omega
        rw [List.getD_eq_getElem?_getD, hl9, List.getElem?_eq_getElem (by have := unhide HCL; omega)]
        rfl)
      generalize (chunkL l x)[m - 1]'(by have := unhide HCL; omega) = lst at c0 HLST
      obtain ⟨m1, hm1e⟩ : ∃ m1, m1 + 1 = m := ⟨m - 1, by omega⟩
      have hmm : m - 1 = m1 := by omega
      rw [hmm] at c0
      have hIC := index_runO b0 (off + 32 * x) m m m1 (IntKind.i64.wrap ((m : Int) - 1)) (by rw [IntKind.wrap_i64]; omega) (by omega)
      have hID := index_runO b0 (off + 32 * x) m m m1 (wrap64 ((m : Int) - 1)) (by unfold wrap64; omega) (by omega)
      have hIE := index_runO b0 (off + 32 * x) m m m1 ((m : Int) - 1) (by omega) (by omega)
      have hcA := bA1.cell
      have hfA := bA1.frozen
      have HFIN : Hid (KeptBut (MineP u.heap.size A) W (w1'.setCell ⟨A, 0, none⟩ (.int .u32 (lst : Int))) ∧ (∃ g, Bdr (w1'.setCell ⟨A, 0, none⟩ (.int .u32 (lst : Int))) u.heap.size u.heap.size g (packN l (pre.length + 1)).1 ∧ ∀ k, g = some k → k < A ∨ A + 3 ≤ k) ∧ Boxed (w1'.setCell ⟨A, 0, none⟩ (.int .u32 (lst : Int))) A 31 (.int .u32 ((packN l (pre.length + 1)).2 : Int)) ∧ Below u.heap.size u (w1'.setCell ⟨A, 0, none⟩ (.int .u32 (lst : Int))) ∧ A + 3 ≤ w1'.heap.size) := hide (by
        have hpl : pre.length + 1 = x + 1 := by rw [unhide HXL]
        have n1' : Bdr w1' u.heap.size u.heap.size g' (packN l (x + 1)).1 := by have h9 := n1; rw [unhide HPN] at h9; exact h9
        have hgs := grownBy_setCell' w1' A (.int .u32 (lst : Int))
        have hfB : Bdr (w1'.setCell ⟨A, 0, none⟩ (.int .u32 (lst : Int))) u.heap.size u.heap.size g' (packN l (x + 1)).1 := n1'.grown hgs (fun e => by have := Option.some.inj e; omega) (fun k hk e => by have := Option.some.inj e; have := hg' k hk; omega)
        rw [hpl]
        refine ⟨⟨hgs.os.trans n3.os, hgs.tape.trans n3.tape, hgs.output.trans n3.output, Nat.le_trans n3.size hgs.size, fun k hk hn => ?_, ?_⟩, ⟨g', hfB, hg'⟩, ?_, ?_, ?_⟩
        · have h6 : some k ≠ g := fun e => hn (.inr (.inr ((unhide H1).rowof' e.symm)))
          rw [hgs.block k (by have := n3.size; omega) (fun e => hn (.inr (.inl (Option.some.inj e)))), n3.block k hk (fun e => hn (.inl e)) h6]
        · rintro k (rfl | rfl | hk)
          · exact .inl (.inl rfl)
          · exact .inl (.inr (.inl rfl))
          · have h6 := hfB.rowof hk
            rcases n2 with h | h | ⟨j, h, hj⟩
            · rw [h] at h6; exact .inl (.inr (.inr ((unhide H1).rowof' h6)))
            · rw [h] at h6; cases h6
            · rw [h] at h6; cases h6; exact .inr hj
        · rw [unhide HLST]; exact bA1.set _
        · exact ((unhide H4).trans (hBk.mono (Nat.le_refl _))).setCell (p := ⟨A, 0, none⟩) (by show u.heap.size ≤ A; omega) _
        · exact Nat.le_trans h5 n3.size)
      clear n1 n2 n3 hgA bA1 hBk hg' hBw1 hcell5 e2 e3 HLST H1 H3 H4 HWB HROW HBW HCL hm1e hmm HXL hxN hxT h2 h4 h5 HPN
      gi_wp2
      exact unhide HFIN
    case done =>
      rintro D ys W hD hS ⟨⟨g, h1, h2⟩, h3, h4, h5⟩ _ hK
      have hyl : ys.length = (T + 31) / 32 := by rw [show ys = _ from hS]; simp
      have hpk : (packN l ((T + 31) / 32)).1 = packL l := by unfold packL; rw [← unhide HTL]
      have hne : packL l ≠ [] := by
        intro h
        have h9 := putL_pos l.length
        rw [packL_R] at h
        rw [(List.append_eq_nil_iff.1 h).1] at h9
        simp at h9
      rw [hyl, hpk] at h1
      have hDg : some D ≠ g := fun e => by
        obtain ⟨o, ho, hco⟩ := h1.rowcells D e.symm
        rw [hK] at ho
        cases ho
        cases hco
      have hDz := (Array.getElem?_eq_some_iff.1 hK).1
      have HST := hide (string_r h1 (fun h => absurd h hne))
      have HRW := hide h1.rowlt
      have H4 := hide h4
      clear hyl hpk hne h1 h2 h3 h4 hS ha bA bS bN dB hB0
      gi_wp2_with fail
      refine ⟨trivial, (callsIn_wide.2 (unhide HST)).mono ?_⟩
      rintro e w9 ⟨rfl, k9⟩
      have hK9 : w9.heap[D]? = some (.deferred (some [])) := (k9.block D hDz (by omega) hDg).trans hK
      have HB9 := hide ((unhide HBU).trans (by rw [← unhide HZU]; exact (unhide H4).trans (k9.toBelow (Nat.le_refl _) (fun k hk => (unhide HRW k hk).1) (by omega))))
      have hD9 : w.heap.size ≤ D := by have := unhide HZU; omega
      clear k9 HST HRW hDg
      gi_wp2
      refine ⟨by simp, .inl ⟨_, _, rfl, run_takeDeferred hK9, ?_⟩⟩
      refine ⟨_, results_tmp2 rfl _ _ _, ?_⟩
      exact ⟨rfl, (unhide HB9).trans (belowK_b (w := w) (Nat.le_refl _) w9 D _ _ hD9 hK9 rfl rfl)⟩
  · have e1 : ((chk l : Int) == 0) = false := by rw [beq_eq_false_iff_ne]; omega
    have e0 : ((chk l : Int) != 0) = true := by simp [bne, e1]
    obtain ⟨ck, hck⟩ : ∃ ck, ck = (chk l : Int) := ⟨_, rfl⟩
    rw [← hck] at e0 e1 ⊢
    have HEQ := hide hck
    clear hck
    gi_wp2
    exact ⟨_, results_tmp2 rfl _ _ _, by rw [← unhide HEQ]; rfl, unhide HBU⟩
end Go.Proofs.Ytfjjigcghhohkaa
