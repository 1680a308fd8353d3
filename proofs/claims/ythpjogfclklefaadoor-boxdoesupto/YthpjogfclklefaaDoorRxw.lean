/-
  What the document's Copy of a box does, over this seat's program.
-/
import Derived.Test.YthpjogfclklefaaDoorBpm
import Derived.Test.YthpjogfclklefaaDoorBck
import Derived.Test.YthpjogfclklefaaDoorOpn
import Derived.Test.YthpjogfclklefaaDoorBnd2
import Derived.Laws.OwnMore
set_option linter.unusedVariables false
set_option linter.unusedSimpArgs false
namespace Go.Proofs.YthpjogfclklefaaDoor
open Go.RowKit

theorem own_monoR {w : World} {base base' : Nat} {e : TypeId} {size : Nat} {v : Value} {n : Nat} {xs : List Value} (h : w.ownsRow base e size v n xs) (hb : base' ≤ base) : w.ownsRow base' e size v n xs := by
  refine ⟨h.1, ?_⟩
  rcases h.2 with h | ⟨g, cap, cur, hv, hg, rest⟩
  · exact Or.inl h
  · exact Or.inr ⟨g, cap, cur, hv, Nat.le_trans hb hg, rest⟩
theorem own5 {w : World} {C S t e k n : Nat} {v : Value} {xs : List Value} {cs : Array Value} (h : w.ownsRow C e k v n xs) (hb : Blk w S t cs) (hne : t ≠ e) : ∀ u0 u1 u2 u3 u4, (((((w.setCell ⟨S, 0, none⟩ u0).setCell ⟨S, 1, none⟩ u1).setCell ⟨S, 2, none⟩ u2).setCell ⟨S, 3, none⟩ u3).setCell ⟨S, 4, none⟩ u4).ownsRow C e k v n xs := by
  intro u0 u1 u2 u3 u4
  have b1 := hb.set 0 u0
  have b2 := b1.set 1 u1
  have b3 := b2.set 2 u2
  have b4 := b3.set 3 u3
  exact own_setT (own_setT (own_setT (own_setT (own_setT h hb hne) b1 hne) b2 hne) b3 hne) b4 hne

theorem run_append_none0 {P : Program} {w : World} (base : Nat) (t ty e : TypeId) (i : TypeInfo) (size cap : Nat) (ht : P.underlying t = some (.slice e)) (hi : P.info? e = some i)
    (v : Value) (n : Nat) (xs : List Value) (hown : w.ownsRow base e size v n xs) :
    (Builtin.append_ #[t, t] ty #[v, .slice none 0 cap]).run P w = .ok v w := by
  rcases hown.2 with ⟨rfl, rfl⟩ | ⟨g, cap', cur, rfl, _, _, hnc, _⟩
  · simp [Builtin.append_, run_underlying ht, sizeOf, typeInfo, hi, Builtin.lenOf, Builtin.firstCells]
  · simp [Builtin.append_, run_underlying ht, sizeOf, typeInfo, hi, Builtin.lenOf, Builtin.firstCells, hnc, storeCells]
theorem run_append_rowM (w : World) (B : Nat) (v x : Value) (k l : List Msg) (ty : TypeId) (hown : w.ownsRow B 47 6 v k.length (flatG msC k)) (hx : RowM w x l) (hkl : k.length + l.length ≤ 4194304) (hB : B ≤ w.heap.size) :
    ∃ v' w', (Builtin.append_ #[24, 24] ty #[v, x]).run Tryd.prog w = .ok v' w' ∧ w'.ownsRow B 47 6 v' (k ++ l).length (flatG msC (k ++ l)) ∧ Below B w w' ∧ w.grownBy w' v.ownBlock := by
  obtain ⟨i0, hi, hz0, hz1, hz2⟩ := info_parts msgInfo
  obtain ⟨a, cap, rfl, hl, hr, hc⟩ := hx
  cases a with
  | none =>
    have hl : l = [] := by
      rcases hc with hc | ⟨b, off, ha, _⟩
      · exact hc
      · cases ha
    subst hl
    exact ⟨v, w, run_append_none0 (P := Tryd.prog) (w := w) B 24 ty 47 i0 6 cap Tryd.underlying24 hi v _ _ hown, by simpa using hown, Below.refl _ _, ⟨rfl, rfl, rfl, Nat.le_refl _, fun _ _ _ => rfl⟩⟩
  | some ad =>
    have hnews : ∀ j u, (flatG msC l)[j]? = some u → w.cell? (ad.add j) = some u := by
      intro j u hj
      rcases hc with hc | ⟨b, off, ha, hlt, hc⟩
      · subst hc; simp [flatG] at hj
      · obtain rfl := Option.some.inj ha
        rw [addN]
        exact hc j u hj
    obtain ⟨v', w', hrun, h2, h3, h4⟩ := run_append_own (P := Tryd.prog) w B 24 ty 47 i0 _ 6 48 Tryd.underlying24 hi hz0 hz1 hz2 rfl (by decide) v k.length (flatG msC k) hown ad l.length cap (flatG msC l) (flatG_length msC_len l) hnews (fun u hu => flatM_one l u hu) (by unfold maxLen; omega) (by omega) hB
    exact ⟨v', w', hrun, by rw [List.length_append, flatG_append]; exact h2, below_own (Below.refl _ _) hown h3 hB, h3⟩

set_option maxHeartbeats 2000000 in
set_option maxRecDepth 100000 in
theorem refCopy_any (b : Bx) (v : Value) (w : World) (h : RowM w v b.ms) (hn : b.ms.length ≤ 4194304) :
    Calls Tryd.prog 5 #[bxV b v] w fun e w' => (∃ v', e = .returned (bxV b v') ∧ w'.ownsRow w.heap.size 47 6 v' b.ms.length (flatG msC b.ms)) ∧ Below w.heap.size w w' := by
  obtain ⟨va, nx, mr, la, ms⟩ := b
  simp only [bxV, bxC] at *
  have HFM := hide h.choose_spec.choose_spec.2.2.1
  obtain ⟨a, cap, hv, _⟩ := id h
  subst hv
  obtain ⟨n, hnn⟩ : ∃ n, ms.length = n := ⟨_, rfl⟩
  obtain ⟨W, hW⟩ : ∃ W, W = (w.alloc (.cells #[.int .u32 (va : Int), .int .u64 (nx : Int), .int .u32 (mr : Int), .int .u32 (la : Int), .slice a ms.length cap] 26)).alloc (.cells #[.int .u32 0, .int .u64 0, .int .u32 0, .int .u32 0, .slice none 0 0] 26) := ⟨_, rfl⟩
  have b1 := (Below.refl w.heap.size w).alloc (Nat.le_refl _) (Obj.cells #[.int .u32 (va : Int), .int .u64 (nx : Int), .int .u32 (mr : Int), .int .u32 (la : Int), .slice a ms.length cap] 26)
  have b2 := (Below.refl (w.alloc (Obj.cells #[.int .u32 (va : Int), .int .u64 (nx : Int), .int .u32 (mr : Int), .int .u32 (la : Int), .slice a ms.length cap] 26)).heap.size _).alloc (Nat.le_refl _) (Obj.cells #[.int .u32 0, .int .u64 0, .int .u32 0, .int .u32 0, .slice none 0 0] 26)
  have hBW : Below w.heap.size w W := by rw [hW]; exact b1.trans (b2.mono b1.size)
  have hz : W.heap.size = w.heap.size + 2 := by rw [hW]; simp
  have k0 : Blk W w.heap.size 26 #[.int .u32 (va : Int), .int .u64 (nx : Int), .int .u32 (mr : Int), .int .u32 (la : Int), .slice a ms.length cap] := by rw [hW]; exact (Blk.new w _ _).below b2
  have k1 : Blk W (w.heap.size + 1) 26 #[.int .u32 0, .int .u64 0, .int .u32 0, .int .u32 0, .slice none 0 0] := by
    rw [hW]
    have := Blk.new (w.alloc (Obj.cells #[.int .u32 (va : Int), .int .u64 (nx : Int), .int .u32 (mr : Int), .int .u32 (la : Int), .slice a ms.length cap] 26)) 26 #[.int .u32 0, .int .u64 0, .int .u32 0, .int .u32 0, .slice none 0 0]
    simp only [World.size_alloc] at this
    exact this
  have bE := (Below.refl W.heap.size W).alloc (Nat.le_refl _) (Obj.cells #[] 47)
  have hown : (W.alloc (.cells #[] 47)).ownsRow W.heap.size 47 6 (.slice (some ⟨W.heap.size, 0, none⟩) 0 0) ([] : List Msg).length (flatG msC []) := World.ownsRow_lit W #[] 0 (Nat.le_refl _) (by unfold maxLen; omega) rfl
  obtain ⟨v', w', hrun, h2, h3, h4⟩ := run_append_rowM _ W.heap.size (.slice (some ⟨W.heap.size, 0, none⟩) 0 0) (.slice a ms.length cap) [] ms 24 hown ((h.below hBW).below bE) (by simp; omega) (by simp)
  simp only [List.nil_append] at h2
  have j0 := (k0.below bE)
  have b3 : Below W.heap.size W w' := bE.trans h3
  have m0 := k0.below b3
  have m1 := k1.below b3
  have c0 := m0.cell 0
  have c1 := m0.cell 1
  have c2 := m0.cell 2
  have c3 := m0.cell 3
  have f0 := m0.frozen 4
  have e0 := m1.cell 0
  have e1 := m1.cell 1
  have e2 := m1.cell 2
  have e3 := m1.cell 3
  have e4 := m1.cell 4
  have g0 := m1.frozen 0
  have g1 := m1.frozen 1
  have g2 := m1.frozen 2
  have g3 := m1.frozen 3
  have g4 := m1.frozen 4
  have c4 := m0.cell 4
  have d4 := k0.cell 4
  have d4' := j0.cell 4
  simp only [List.getElem?_toArray, List.getElem?_cons_succ, List.getElem?_cons_zero] at c0 c1 c2 c3 c4 e0 e1 e2 e3 e4 d4 d4'
  have hOM : w'.ownsRow w.heap.size 47 6 v' ms.length (flatG msC ms) := own_monoR h2 (by omega)
  have HOW := hide (own5 (own_setT (i := 4) (u := v') hOM m0 (by decide)) (m1.other (a := ⟨w.heap.size, 4, none⟩) (by simp) v') (by decide))
  have HBF := hide (below5 (s := w.heap.size + 1) ((hBW.trans (b3.mono hBW.size)).setCell (p := ⟨w.heap.size, 4, none⟩) (Nat.le_refl _) v') (by omega))
  obtain ⟨ay, cy, hy, _⟩ := own_sliceG h2
  subst hy
  subst hW
  simp only [World.size_alloc] at hrun
  rw [hnn] at hrun c4 HOW HBF ⊢
  clear hown hOM h2 h3 h4 b1 b2 bE b3 k0 k1 j0 m0 m1 hBW HFM h d4 d4' hz
  go_enter Tryd.func5, Tryd.ntmps5
  go_wp2_with (at_builtin; refine wpList_append_runB (by rfl) _ _ 24 rfl rfl rfl rfl hrun ?_)
  (try simp only [Exit.inBlock, Exit.then])
  refine bodyPost_ret (v := .agg #[.int .u32 (va : Int), .int .u64 (nx : Int), .int .u32 (mr : Int), .int .u32 (la : Int), .slice ay n cy]) ?_ rfl ⟨⟨_, rfl, unhide HOW _ _ _ _ _⟩, unhide HBF _ _ _ _ _⟩
  rw [results_cell rfl]
  go_simp
end Go.Proofs.YthpjogfclklefaaDoor
