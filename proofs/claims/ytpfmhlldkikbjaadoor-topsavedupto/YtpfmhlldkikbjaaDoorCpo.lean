/-
  What disk.copyOf does, over this seat's program: the same file system, its files in new memory.
-/
import Derived.Test.YtpfmhlldkikbjaaDoorCpy
import Derived.Laws.ResultCell
set_option linter.unusedVariables false
namespace Go.Proofs.YtpfmhlldkikbjaaDoor
open Go.RowKit Go.Proofs.Dsk

/-- A row's slice. -/
theorem own_form {w : World} {B : Nat} {e : TypeId} {size : Nat} {v : Value} {n : Nat} {xs : List Value} (h : w.ownsRow B e size v n xs) : ∃ a cap, v = .slice a n cap := by
  rcases h.2 with ⟨rfl, rfl⟩ | ⟨g, cap, cur, rfl, _⟩
  · exact ⟨_, _, rfl⟩
  · exact ⟨_, _, rfl⟩

/-- A file of an own row, written over by itself. -/
theorem own_again {w : World} {B : Nat} {l : List File} {g n cap : Nat} (h : w.ownsRow B 69 3 (.slice (some ⟨g, 0, none⟩) n cap) n (flatF l)) {j : Nat} {u : Value} (hu : (flatF l)[j]? = some u) :
    (w.setCell ⟨g, j, none⟩ u).ownsRow B 69 3 (.slice (some ⟨g, 0, none⟩) n cap) n (flatF l) := by
  have := (h.stored j u).1
  have e : (flatF l).set j u = flatF l := by
    apply List.ext_getElem?
    intro i
    rw [List.getElem?_set]
    by_cases h1 : j = i
    · subst h1
      have hj : j < (flatF l).length := (List.getElem?_eq_some_iff.1 hu).1
      simp [hj, (List.getElem?_eq_some_iff.1 hu).2]
    · simp [h1]
  rwa [e] at this

theorem own_mono {w : World} {base base' : Nat} {e : TypeId} {size : Nat} {v : Value} {n : Nat} {xs : List Value} (h : w.ownsRow base e size v n xs) (hb : base' ≤ base) : w.ownsRow base' e size v n xs := by
  refine ⟨h.1, ?_⟩
  rcases h.2 with h | ⟨g, cap, cur, hv, hg, rest⟩
  · exact Or.inl h
  · exact Or.inr ⟨g, cap, cur, hv, by omega, rest⟩

/-- Two cells that may be written. -/
def Two (W : World) (g k : Nat) (nm dt : ByteArray) : Prop :=
  W.cell? ⟨g, k * 3, none⟩ = some (.string nm) ∧ W.cell? ⟨g, k * 3 + 1, none⟩ = some (.string dt) ∧ W.frozen? ⟨g, k * 3, none⟩ = false ∧ W.frozen? ⟨g, k * 3 + 1, none⟩ = false ∧ g < W.heap.size
theorem Two.below {W W' : World} {g k : Nat} {nm dt : ByteArray} (h : Two W g k nm dt) (hb : Below W.heap.size W W') : Two W' g k nm dt := by
  obtain ⟨h1, h2, h3, h4, h5⟩ := h
  have := hb.size
  exact ⟨(hb.cell (p := ⟨g, k * 3, none⟩) h5).trans h1, (hb.cell (p := ⟨g, k * 3 + 1, none⟩) h5).trans h2, (hb.frozen (p := ⟨g, k * 3, none⟩) h5).trans h3, (hb.frozen (p := ⟨g, k * 3 + 1, none⟩) h5).trans h4, by omega⟩

set_option maxHeartbeats 4000000 in
set_option maxRecDepth 100000 in
theorem copyOf_any (d : Fs) (v : Value) (w : World) (hn : d.files.length ≤ 1024) (hs : ∀ f ∈ d.files, f.name.size ≤ 281474976710656 ∧ f.data.size ≤ 281474976710656) (h : RowF w v d.files) :
    Calls Tryd.prog 35 #[fsV d v] w fun e w' => ∃ v', e = .returned (fsV d v') ∧ w'.ownsRow w.heap.size 69 3 v' d.files.length (flatF d.files) ∧ Below w.heap.size w w' := by
  obtain ⟨room, l, fuse, fault, down⟩ := d
  have hcl := fun (w : World) (h : RowF w v l) => cloneF_any v l w hn h
  have hb1 := (((Below.refl _ w).alloc (Nat.le_refl _) (Obj.cells #[.int .i64 room, v, .int .i64 fuse, .int .i64 fault, .bool down] 31)).alloc (by simp) (Obj.cells #[.int .i64 0, .slice none 0 0, .int .i64 0, .int .i64 0, .bool false] 31))
  have HR := hide (h.below hb1)
  have HCL := hide hcl
  have HS := hide hs
  obtain ⟨a, cap, rfl, h63, hff, hc⟩ := h
  clear hc hff hs hcl
  simp only [fsV] at *
  go_enter Tryd.func35, Tryd.ntmps35
  go_wp2_with fail
  refine (unhide HCL _ (unhide HR)).mono ?_
  rintro e w1 ⟨v', rfl, hown, b1⟩
  have k0 := ((Blk.new w 31 #[.int .i64 room, .slice a l.length cap, .int .i64 fuse, .int .i64 fault, .bool down]).below ((Below.refl _ _).alloc (Nat.le_refl _) (Obj.cells #[.int .i64 0, .slice none 0 0, .int .i64 0, .int .i64 0, .bool false] 31))).below b1
  have k1 := (Blk.new (w.alloc (Obj.cells #[.int .i64 room, .slice a l.length cap, .int .i64 fuse, .int .i64 fault, .bool down] 31)) 31 #[.int .i64 0, .slice none 0 0, .int .i64 0, .int .i64 0, .bool false]).below b1
  have hbw1 : Below w.heap.size w w1 := hb1.trans (b1.mono (by simp; omega))
  have hs1 := b1.size
  simp only [World.size_alloc] at hs1 k1 hown
  obtain ⟨a', cap', rfl⟩ := own_form hown
  have c1 := k0.cell 1
  have f1 := k0.frozen 1
  simp only [List.getElem?_toArray, List.getElem?_cons_succ, List.getElem?_cons_zero] at c1
  go_upto_region 3 with (fail)
  have k0' := k0.set 1 (.slice a' l.length cap')
  have k1' := k1.other (a := ⟨w.heap.size, 1, none⟩) (by simp) (.slice a' l.length cap')
  have hown' : (w1.setCell ⟨w.heap.size, 1, none⟩ (.slice a' l.length cap')).ownsRow (w.heap.size + 1 + 1) 69 3 (.slice a' l.length cap') l.length (flatF l) := by
    refine hown.kept (row := some w.heap.size) ⟨rfl, rfl, rfl, by simp, fun k hk hne => Below.heap_setCell _ _ _ _ (fun e => hne (by rw [e]))⟩ ?_
    cases a' with
    | none => exact Or.inl rfl
    | some a' =>
      right
      have := (hown.lt a'.block rfl).1
      simp only [Value.ownBlock]
      intro e
      simp at e
      omega
  have hbw2 : Below w.heap.size w (w1.setCell ⟨w.heap.size, 1, none⟩ (.slice a' l.length cap')) := hbw1.setCell (p := ⟨w.heap.size, 1, none⟩) (Nat.le_refl _) _
  simp only [List.setIfInBounds_toArray, List.set_cons_succ, List.set_cons_zero] at k0'
  generalize w1.setCell ⟨w.heap.size, 1, none⟩ (.slice a' l.length cap') = W2 at *
  clear k0 k1 hown hbw1 c1 f1 b1 hs1
  go_loopw [3, 4, 12] (fun x y z wr => ∃ k : Nat, z = .int .i64 k ∧ k ≤ l.length ∧ Hid (Blk wr w.heap.size 31 #[.int .i64 room, .slice a' l.length cap', .int .i64 fuse, .int .i64 fault, .bool down]) ∧ Hid (Blk wr (w.heap.size + 1) 31 #[.int .i64 0, .slice none 0 0, .int .i64 0, .int .i64 0, .bool false]) ∧ Hid (wr.ownsRow (w.heap.size + 1 + 1) 69 3 (.slice a' l.length cap') l.length (flatF l)) ∧ Hid (Below w.heap.size w wr)) (fun _ _ z _ => l.length - (intOf z).toNat)
  case atStart => exact ⟨0, rfl, Nat.zero_le _, k0', k1', hown', hbw2⟩
  case round =>
    obtain ⟨k, rfl, hk, K0, K1, OWN, BW⟩ := hrel
    clear k0' k1' hown' hbw2
    have c0 := (unhide K0).cell 0
    have c1 := (unhide K0).cell 1
    have c2 := (unhide K0).cell 2
    have c3 := (unhide K0).cell 3
    have c4 := (unhide K0).cell 4
    have e0 := (unhide K1).cell 0
    have e1 := (unhide K1).cell 1
    have e2 := (unhide K1).cell 2
    have e3 := (unhide K1).cell 3
    have e4 := (unhide K1).cell 4
    have f0 := (unhide K1).frozen 0
    have f1 := (unhide K1).frozen 1
    have f2 := (unhide K1).frozen 2
    have f3 := (unhide K1).frozen 3
    have f4 := (unhide K1).frozen 4
    simp only [List.getElem?_toArray, List.getElem?_cons_succ, List.getElem?_cons_zero] at c0 c1 c2 c3 c4 e0 e1 e2 e3 e4
    by_cases hlt : k < l.length
    · obtain ⟨g, rfl⟩ : ∃ g, a' = some ⟨g, 0, none⟩ := by
        rcases (unhide OWN).2 with ⟨_, h0⟩ | ⟨g, _, _, hv, _⟩
        · omega
        · simp only [Value.slice.injEq] at hv
          exact ⟨g, hv.1⟩
      have hg := (unhide OWN).lt g rfl
      obtain ⟨t0, t1, t2⟩ := flatF_get l k hlt
      have x0 := ((unhide OWN).cellAt (k * 3) (by omega)).trans t0
      have x1 := ((unhide OWN).cellAt (k * 3 + 1) (by omega)).trans t1
      have T : Two wr g k l[k].name l[k].data := ⟨x0, x1, (unhide OWN).frozenAt _, (unhide OWN).frozenAt _, hg.2⟩
      have HT := hide T
      obtain ⟨_, _, q0, q1, _⟩ := T
      have hsk := unhide HS _ (List.getElem_mem hlt)
      have hcn := fun w => clone_any l[k].name w hsk.1
      have hcd := fun w => clone_any l[k].data w hsk.2
      have HT0 := hide t0
      have HT1 := hide t1
      clear t0 t1 t2 hsk
      generalize l[k].name = nm at *
      generalize l[k].data = dt at *
      go_wp2
      go_region_with (first
        | (go_at_call_of 27 (Value.string nm); (refine (hcn _).mono ?_; rintro e w3 ⟨rfl, b3⟩; have T3 : Two w3 g k nm dt := (by first | exact Two.below T4 b3 | exact Two.below (W := wr.drew) (unhide HT) b3); have ⟨y0, y1, z0, z1, _⟩ := T3))
        | (go_at_call_of 27 (Value.string dt); refine (hcd _).mono ?_; rintro e w4 ⟨rfl, b4⟩; have T4 : Two w4 g k nm dt := (by first | exact Two.below T3 b4 | exact Two.below (W := wr.drew) (unhide HT) b4); have ⟨y0', y1', z0', z1', _⟩ := T4))
      all_goals (
        have b5 : Below wr.heap.size wr w4 := belows (show Below wr.heap.size wr w3 from ⟨b3.os, b3.tape, b3.output, b3.size, b3.block⟩) b4
        have hne0 : w.heap.size ≠ g := by omega
        have hne1 : w.heap.size + 1 ≠ g := by omega
        have hsw := (unhide BW).size
        have N0 := hide ((((unhide K0).below b5).other (a := ⟨g, k * 3, none⟩) hne0 (.string nm)).other (a := ⟨g, k * 3 + 1, none⟩) hne0 (.string dt))
        have N1 := hide ((((unhide K1).below b5).other (a := ⟨g, k * 3, none⟩) hne1 (.string nm)).other (a := ⟨g, k * 3 + 1, none⟩) hne1 (.string dt))
        have N2 := hide (own_again (own_again (own_below (unhide OWN) b5) (unhide HT0)) (unhide HT1))
        have N3 := hide ((((unhide BW).trans (b5.mono hsw)).setCell (p := ⟨g, k * 3, none⟩) (by simp; omega) (.string nm)).setCell (p := ⟨g, k * 3 + 1, none⟩) (by simp; omega) (.string dt))
        clear b3 b4 b5
        generalize (w4.setCell ⟨g, k * 3, none⟩ (Value.string nm)).setCell ⟨g, k * 3 + 1, none⟩ (Value.string dt) = W5 at *
        go_wp2
        exact ⟨⟨k + 1, by go_num, by omega, unhide N0, unhide N1, unhide N2, unhide N3⟩, by simp [intOf]; omega⟩)
    · have hke : k = l.length := by omega
      have hwr : ∀ u0 u1 u2 u3 u4, (Below w.heap.size w (((((wr.setCell ⟨w.heap.size + 1, 0, none⟩ u0).setCell ⟨w.heap.size + 1, 1, none⟩ u1).setCell ⟨w.heap.size + 1, 2, none⟩ u2).setCell ⟨w.heap.size + 1, 3, none⟩ u3).setCell ⟨w.heap.size + 1, 4, none⟩ u4)) ∧ (((((wr.setCell ⟨w.heap.size + 1, 0, none⟩ u0).setCell ⟨w.heap.size + 1, 1, none⟩ u1).setCell ⟨w.heap.size + 1, 2, none⟩ u2).setCell ⟨w.heap.size + 1, 3, none⟩ u3).setCell ⟨w.heap.size + 1, 4, none⟩ u4).ownsRow w.heap.size 69 3 (.slice a' l.length cap') l.length (flatF l) := by
        intro u0 u1 u2 u3 u4
        refine ⟨((((((unhide BW).setCell (p := ⟨w.heap.size + 1, 0, none⟩) (by simp) _).setCell (p := ⟨w.heap.size + 1, 1, none⟩) (by simp) _).setCell (p := ⟨w.heap.size + 1, 2, none⟩) (by simp) _).setCell (p := ⟨w.heap.size + 1, 3, none⟩) (by simp) _).setCell (p := ⟨w.heap.size + 1, 4, none⟩) (by simp) _), ?_⟩
        have st : ∀ (W : World) (i : Nat) (u : Value), W.ownsRow (w.heap.size + 1 + 1) 69 3 (.slice a' l.length cap') l.length (flatF l) → (W.setCell ⟨w.heap.size + 1, i, none⟩ u).ownsRow (w.heap.size + 1 + 1) 69 3 (.slice a' l.length cap') l.length (flatF l) := by
          intro W i u hW
          refine hW.kept (row := some (w.heap.size + 1)) ⟨rfl, rfl, rfl, by simp, fun k hk hne => Below.heap_setCell _ _ _ _ (fun e => hne (by rw [e]))⟩ ?_
          cases a' with
          | none => exact Or.inl rfl
          | some a' =>
            right
            have := (hW.lt a'.block rfl).1
            simp only [Value.ownBlock]
            intro e
            simp at e
            omega
        exact own_mono (st _ 4 u4 (st _ 3 u3 (st _ 2 u2 (st _ 1 u1 (st _ 0 u0 (unhide OWN)))))) (by omega)
      have HWR := hide hwr
      clear hwr
      go_wp2
      (try simp only [Exit.inBlock, Exit.then])
      refine bodyPost_ret (v := .agg #[.int .i64 room, .slice a' l.length cap', .int .i64 fuse, .int .i64 fault, .bool down]) ?_ rfl ⟨_, rfl, (unhide HWR _ _ _ _ _).2, (unhide HWR _ _ _ _ _).1⟩
      rw [results_cell rfl]
      go_simp

end Go.Proofs.YtpfmhlldkikbjaaDoor
