/-
  What word.pieces and word.Words do, over this seat's program.
-/
import Derived.Test.YtdallfakfhajdaaGreatDoorWpi
import Derived.Maps.AppendAt
set_option linter.unusedVariables false
namespace Go.Proofs.YtdallfakfhajdaaGreatDoor
open Go.RowKit Go.Shelf Go.Proofs.Enc Go.Proofs.Rns
attribute [local go_sem] Oper.semAt_some

set_option maxHeartbeats 1000000 in
theorem pieces_any (s : ByteArray) (w : World) :
    Calls Tryz.prog 35 #[.string s] w fun e w' => e = .returned (.func (.func 77) #[] #[.pointer (some ⟨w.heap.size, 0, none⟩)]) ∧ w' = w.alloc (.cells #[.string s] 9) := by
  go_enter Tryz.func35, Tryz.ntmps35
  go_wp2
  go_ret
  exact ⟨rfl, rfl⟩

theorem PcR.put {M : Nat → World → Prop} {n0 l : Nat} {A : World} {o : Obj} {x : Pc} (hM : ∀ k, M k (A.putObj l o) → M k A) (h : PcR n0 (fun k W => k = l ∨ M k W) x A) : PcR n0 M x (A.putObj l o) := by
  refine ⟨own_same h.1 (fun k hk => World.putObj_heap_other (fun e => (h.2 k hk).1 (.inl e))), fun k hk => ?_⟩
  have := h.2 k hk
  exact ⟨fun hm => this.1 (.inr (hM k hm)), by rw [World.putObj_size]; exact this.2⟩
theorem KeptBut.of_grown {M : Nat → World → Prop} {W W' : World} {row : Option Nat} (hg : W.grownBy W' row) (hr : ∀ r, row = some r → M r W) (hm : ∀ k, M k W' → M k W ∨ W.heap.size ≤ k) : KeptBut M W W' :=
  ⟨hg.os, hg.tape, hg.output, hg.size, fun k hk hn => hg.block k hk (fun e => hn (hr k e.symm)), hm⟩
theorem KeptBut.refl (M : Nat → World → Prop) (W : World) : KeptBut M W W := ⟨rfl, rfl, rfl, Nat.le_refl _, fun _ _ _ => rfl, fun _ h => .inl h⟩

/-- How many words have come, in a machine's number. -/
def wdC (pre : List Pc) : Int := pre.foldl (fun n x => if x.b then wrap64 (n + 1) else n) 0
theorem wdC_snoc (pre : List Pc) (x : Pc) : wdC (pre ++ [x]) = if x.b then wrap64 (wdC pre + 1) else wdC pre := by simp [wdC]
def wdN (l : List (List Nat × Bool)) : Nat := (l.filter fun p => p.2).length

set_option maxHeartbeats 4000000 in
set_option maxRecDepth 100000 in
theorem words_any (s : ByteArray) (w : World) (ht : RTabN w) (hes : ErrS w) (hml : MaxL w) (hs : s.size ≤ 16777216) :
    Calls Tryz.prog 15 #[.string s] w fun e w' => (∃ xs : List Pc, xs.map Pc.say = pcW s.data.toList ∧ e = .returned (.int .i64 (wdC xs))) ∧ Below w.heap.size w w' := by
  have HPC := hide (fun W => pieces_any s W)
  have HPG := hide (fun (W : World) n Bs h1 => pieces_gives s w W n Bs h1 hs ht hes hml)
  clear ht hes hml
  refine (callsIn_wide (n := 3)).1 ?_
  refine callsIn_of_wp_marks Tryz.func15 rfl trivial ?_ rfl
  simp only [Tryz.ntmps15, List.size_toArray, List.length_cons, List.length_nil, Nat.reduceAdd, Nat.reduceSub, Array.replicate_succ, Array.replicate_zero, List.push_toArray, List.append_toArray, List.nil_append, List.cons_append]
  gi_wp2_with fail
  refine ⟨trivial, (callsIn_wide.2 (unhide HPC _)).mono ?_⟩
  rintro e _ ⟨rfl, rfl⟩
  clear HPC
  gi_wp2
  have bO := Boxed.new w 3 (.int .i64 0)
  have bN := Boxed.new (w.alloc (.cells #[.int .i64 0] 3)) 9 (.string s)
  rw [World.size_alloc] at bN
  have hB0 : Below w.heap.size w ((w.alloc (.cells #[.int .i64 0] 3)).alloc (.cells #[.string s] 9)) := ((Below.refl _ w).alloc (Nat.le_refl _) _).alloc (by simp) _
  refine wpIn_range_rows rfl (by omega) (gf := 77) (lb := #[.pointer (some ⟨w.heap.size + 1, 0, none⟩)]) rfl trivial (enters_of Tryz.func77 (by kernel_rfl) rfl)
    (unhide HPG _ _ (w.heap.size + 1) (by omega) hB0 bN.cell (by simp)) (by simp; omega) (fun _ => rfl)
    (fun pre W => (W.cell? ⟨w.heap.size, 0, none⟩ = some (.int .i64 (wdC pre)) ∧ W.frozen? ⟨w.heap.size, 0, none⟩ = false) ∧ Below w.heap.size w W)
    (fun k _ => k = w.heap.size)
    (OwnFrom.and (Own.from (fun s A B row hs hg hr => ⟨cell_kept hs.1 hg hr, (frozen_kept hs.1 hg hr).trans hs.2⟩) _) (ownFrom_below (Nat.le_refl _) (by simp; omega)))
    (fun s A k hi hk => by subst hk; exact ⟨Nat.le_refl _, cells_of_cell hi.1.1⟩)
    (fun _ _ _ _ _ _ _ _ h => h)
    (fun s x A l r r' _ _ h => PcR.put (fun _ h => h) h)
    ⟨⟨(bO.alloc _).cell, (bO.alloc _).frozen⟩, hB0⟩
    (fun x => { tmps := #[.string s, undef, .int .i64 0, .pointer (some ⟨w.heap.size, 0, none⟩), undef, .bool x.b, .string s, .func (.func 77) #[] #[.pointer (some ⟨w.heap.size + 1, 0, none⟩)], x.v, .bool x.b, undef, undef, undef, undef], defers := [] }) ?assign ?body ?done
  case assign =>
    intro l x W K hK
    simp only [Pc.enc]
    gi_wp2
    exact hK
  case body =>
    rintro l pre x W ⟨⟨hc, hf⟩, hB⟩ _ _
    clear HPG
    cases hx : x.b with
    | true =>
      gi_wp2
      exact ⟨KeptBut.of_grown (row := some w.heap.size) (grownBy_setCell' _ _ _) (fun r e => by cases e; rfl) (fun _ h => .inl h), by rw [wdC_snoc, hx]; rfl, hB.setCell (p := ⟨w.heap.size, 0, none⟩) (Nat.le_refl _) _⟩
    | false =>
      gi_wp2
      exact ⟨KeptBut.refl _ _, by rw [wdC_snoc, hx]; rfl⟩
  case done =>
    rintro D ys W hD hS ⟨⟨hc, _⟩, hB⟩ hK
    clear HPG
    gi_wp2
    refine ⟨by simp, .inl ⟨_, _, rfl, run_takeDeferred hK, ?_⟩⟩
    exact ⟨_, results_tmp rfl _ _ _, ⟨ys, hS, rfl⟩, hB.trans (belowK_b (w := w) (Nat.le_refl _) W D _ _ (by simp at hD; omega) hK rfl rfl)⟩
end Go.Proofs.YtdallfakfhajdaaGreatDoor
