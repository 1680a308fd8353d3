/-
  A range over a function that has a block of its own, which it writes between the rounds, where each round lays a box for what comes, and may leave the function: a law.
-/
import Derived.Test.YtihgmpebpkjmkaaGreatDoorWgl
import Derived.ControlIn
set_option linter.unusedVariables false
namespace Go.Proofs.YtihgmpebpkjmkaaGreatDoor
open Go Go.RowKit
variable {F : Fence} {n : Nat} {P : Program}

/-- What an iterator gives that has a block of its own (Br), and whose rounds may say that no more is wanted. -/
def GivesL {α : Type} (F : Fence) (n : Nat) (P : Program) (g : Nat) (lb : Array Value) (encs : α → Array Value) (n0 Br : Nat) (K : Nat → Prop) (S Sp : List α → Prop) (w : World) : Prop :=
  ∀ (l : Nat) (J Jx : List α → World → Prop) (M : Nat → World → Prop) (W : World), Below w.heap.size w W →
    (∀ s A B, J s A → A.grownBy B (some Br) → J s B) → (∀ s A B, Jx s A → A.grownBy B (some Br) → Jx s B) → (∀ s A k, J s A → M k A → n0 ≤ k ∧ k < A.heap.size ∧ ¬ K k) →
    (∀ pre x W1, J pre W1 → Sp (pre ++ [x]) → YieldAt F (n - 1) P l (encs x) W1 fun e W' => (e = .returned (.bool true) ∧ J (pre ++ [x]) W' ∧ KeptBut M W1 W') ∨ (e = .returned (.bool false) ∧ Jx (pre ++ [x]) W')) →
    J [] W → CallsIn F n P g (#[.func (.yield l) #[] #[]] ++ lb) W fun e W' => (∃ v, e = .returned v) ∧ ((∃ xs, S xs ∧ J xs W') ∨ ∃ pre, Sp pre ∧ Jx pre W')

theorem wpIn_range_boxL {α : Type} {g : Operand} {ps : Array Tmp} {assign body : Code} {Q : Exit → Act → World → Prop} {a : Act} {w : World}
    (hro : F.round = none) (h1 : 1 ≤ n) {gf : Nat} {lb : Array Value} (hg : a.eval g = .func (.func gf) #[] lb) (hFg : F.fn gf) (eg : ∀ args w, (callFunc gf args).run P w = .ok (.enter gf args) w)
    {encs : α → Array Value} {n0 Br : Nat} {K : Nat → Prop} {S Sp : List α → Prop} (hseq : GivesL F (n - 1) P gf lb encs n0 Br K S Sp w) (hBr : Br < w.heap.size) (hK : ∀ k, K k → k < w.heap.size) (hn0 : n0 ≤ w.heap.size) (hps : ∀ x, (encs x).size = ps.size)
    (I Ix : List α → World → Prop) (M : Nat → World → Prop) (hI : OwnFrom w.heap.size I) (hIx : OwnFrom w.heap.size Ix) (hIxB : ∀ s A B, Ix s A → A.grownBy B (some Br) → Ix s B)
    (hM : ∀ s A k, I s A → M k A → n0 ≤ k ∧ ¬ K k ∧ ∃ o : Obj, A.heap[k]? = some o ∧ o.isCells = true)
    (hIB : ∀ s A B, I s A → A.grownBy B (some Br) → I s B) (hMB : ∀ s A B k, I s A → A.grownBy B (some Br) → M k B → M k A)
    (hMo : ∀ s A B row k, I s A → A.grownBy B row → (∀ r, row = some r → w.heap.size ≤ r ∧ ∃ o : Obj, A.heap[r]? = some o ∧ o.isCells = false) → M k B → M k A)
    (h0 : I [] w) (ob : α → Obj) (a₁ : Nat → α → Act)
    (hassign : ∀ (l : Nat) (x : α) (W : World) (K : Act → World → Prop), K (a₁ W.heap.size x) (W.alloc (ob x)) →
      assign.wpIn (F.inRound l) (n - 1 - 1) P (Exit.then K (fun _ _ _ => False)) { tmps := (ps.zip (encs x)).foldl (fun t (p, v) => t.setIfInBounds p v) a.tmps, defers := [] } W)
    (hbody : ∀ (l C : Nat) (pre : List α) (x : α) (W : World), I pre W → Sp (pre ++ [x]) → W.heap[C]? = some (ob x) → ¬ M C W → w.heap.size ≤ C → body.wpIn (F.inRound l) (n - 1 - 1) P (fun e _ W' => KeptBut M W W' ∧ ((e = .normal ∧ I (pre ++ [x]) W') ∨ (e = .ret ∧ Ix (pre ++ [x]) W'))) (a₁ C x) W)
    (hdone : ∀ (D : Nat) (xs : List α) (W : World), w.heap.size ≤ D → S xs → I xs W → W.heap[D]? = some (.deferred (some [])) → Q .normal { a with defers := { target := .collected D, args := #[] } :: a.defers } W)
    (hleft : ∀ (D : Nat) (xs : List α) (W : World), w.heap.size ≤ D → Sp xs → Ix xs W → W.heap[D]? = some (.deferred (some [])) → Q .ret { a with defers := { target := .collected D, args := #[] } :: a.defers } W) :
    (Code.rangeFunc g ps assign body).wpIn F n P Q a w := by
  refine wpIn_rangeFunc fun fn hfn => ?_
  rw [hro]
  -- the record in its states
  let rc : LoopState → Loop := fun st => { state := st, pending := none, fn, tmps := a.tmps, params := ps, assign, body, defers := w.heap.size }
  have hent := run_enterLoop_outer (P := P) (w := w) fn a.tmps ps assign body
  obtain ⟨W1, hW1⟩ : ∃ W1, W1 = (w.alloc (.deferred (some []))).alloc (.loop (rc .ready)) := ⟨_, rfl⟩
  have hD1 : W1.heap[w.heap.size]? = some (.deferred (some [])) := by
    rw [hW1]; exact (Below.heap_alloc _ _ _ (by simp)).trans (World.alloc_heap_new w _)
  have hL1 : W1.heap[w.heap.size + 1]? = some (.loop (rc .ready)) := by
    rw [hW1]; have := World.alloc_heap_new (w.alloc (.deferred (some []))) (.loop (rc .ready)); rwa [World.size_alloc] at this
  have hI1 : I [] W1 := by rw [hW1]; exact hI.alloc _ (hI.alloc _ h0)
  have hb1 : Below w.heap.size w W1 := by rw [hW1]; exact ((Below.refl _ w).alloc (Nat.le_refl _) _).alloc (by simp) _
  refine ⟨w.heap.size + 1, [{ target := .collected w.heap.size, args := #[] }], W1, { target := .fn (.func gf) lb, args := #[.func (.yield (w.heap.size + 1)) #[] #[]] }, W1, gf, #[.func (.yield (w.heap.size + 1)) #[] #[]] ++ lb, W1, ?_, ?_, ?_, ?_, fun _ => h1, ?_⟩
  · rw [hW1]; exact hent
  · simp only [resolve, hg]
    simp [go_sem]
  · intro f' hf'; simp [Target.leads] at hf'; subst hf'; exact hFg
  · simp [invoke, go_sem, eg]
  have hkeep : ∀ {A B : World} {k : Nat} {o : Obj}, A.grownBy B (some Br) → k ≠ Br → A.heap[k]? = some o → B.heap[k]? = some o := fun {A B k o} hgr hn hk => by
    have hlt := (Array.getElem?_eq_some_iff.1 hk).1
    rw [← hk]
    exact hgr.block k hlt (fun e => hn (Option.some.inj e))
  refine (hseq (w.heap.size + 1)
    (fun pre W => I pre W ∧ W.heap[w.heap.size + 1]? = some (.loop (rc .ready)) ∧ W.heap[w.heap.size]? = some (.deferred (some [])))
    (fun pre W => Ix pre W ∧ W.heap[w.heap.size + 1]? = some (.loop { rc .ready with state := .done, pending := some .ret }) ∧ W.heap[w.heap.size]? = some (.deferred (some [])))
    (fun k W => k = w.heap.size + 1 ∨ M k W) W1 hb1 ?abide ?abidex ?mine ?rounds ⟨hI1, hL1, hD1⟩).mono ?behind
  case abide => exact fun s A B h hgr => ⟨hIB s A B h.1 hgr, hkeep hgr (by omega) h.2.1, hkeep hgr (by omega) h.2.2⟩
  case mine =>
    rintro s A k ⟨hi, hl, _⟩ (rfl | hk)
    · exact ⟨by omega, (Array.getElem?_eq_some_iff.1 hl).1, fun h => by have := hK _ h; omega⟩
    · obtain ⟨h1, h3, o, h2, _⟩ := hM s A k hi hk
      exact ⟨h1, (Array.getElem?_eq_some_iff.1 h2).1, h3⟩
  case abidex => exact fun s A B h hgr => ⟨hIxB s A B h.1 hgr, hkeep hgr (by omega) h.2.1, hkeep hgr (by omega) h.2.2⟩
  case rounds =>
    rintro pre x W ⟨hi, hl, hd⟩ hsp
    have hlt : w.heap.size + 1 < W.heap.size := (Array.getElem?_eq_some_iff.1 hl).1
    have hy := run_yield (P := P) (args := encs x) hl (hps x)
    have hla : (W.alloc (ob x)).heap[w.heap.size + 1]? = some (.loop (rc .ready)) := (Below.heap_alloc _ _ _ hlt).trans hl
    have hda : (W.alloc (ob x)).heap[w.heap.size]? = some (.deferred (some [])) := (Below.heap_alloc _ _ _ (by omega)).trans hd
    have hoa : (W.alloc (ob x)).heap[W.heap.size]? = some (ob x) := World.alloc_heap_new _ _
    have hia : I pre (W.alloc (ob x)) := hI.alloc _ hi
    have hga : W.grownBy (W.alloc (ob x)) (some Br) := World.grownBy_alloc _ _ _
    have hlta : w.heap.size + 1 < (W.alloc (ob x)).heap.size := by rw [World.size_alloc]; omega
    refine ⟨fn, _, assign, body, hy, roundIn_of_wpIn hfn (hassign _ x W _ ⟨_, run_beginRound hla rfl, ?_⟩)⟩
    have hi2 := hI.putObj (.loop { rc .ready with state := .busy }) hia (by omega) hla rfl
    have hback : ∀ {k : Nat} {A : World} {s : List α} {o : Obj} (o' : Obj), I s A → A.heap[w.heap.size + 1]? = some o → o.isCells = false → M k (A.putObj (w.heap.size + 1) o') → M k A := fun {k A s o} o' hs ho hc hm =>
      hMo s A _ (some (w.heap.size + 1)) k hs (grownBy_putObj' _ _ _) (fun r e => by cases e; exact ⟨by omega, o, ho, hc⟩) hm
    have hnC : ¬ M W.heap.size ((W.alloc (ob x)).putObj (w.heap.size + 1) (.loop { rc .ready with state := .busy })) := fun hm => by
      obtain ⟨_, _, o', h2, _⟩ := hM _ _ _ hi (hMB _ _ _ _ hi hga (hback _ hia hla rfl hm))
      have := (Array.getElem?_eq_some_iff.1 h2).1
      omega
    refine wpIn_mono (hbody (w.heap.size + 1) W.heap.size pre x _ hi2 hsp ((World.putObj_heap_other (by omega)).trans hoa) hnC (by omega)) ?_
    rintro e a3 W3 ⟨hk, hcase⟩
    have hl2 : ((W.alloc (ob x)).putObj (w.heap.size + 1) (.loop { rc .ready with state := .busy })).heap[w.heap.size + 1]? = some (.loop { rc .ready with state := .busy }) := World.putObj_heap_same hlta
    have hd2 : ((W.alloc (ob x)).putObj (w.heap.size + 1) (.loop { rc .ready with state := .busy })).heap[w.heap.size]? = some (.deferred (some [])) := (World.putObj_heap_other (by omega)).trans hda
    have notM : ∀ {k : Nat} {o : Obj}, ((W.alloc (ob x)).putObj (w.heap.size + 1) (.loop { rc .ready with state := .busy })).heap[k]? = some o → o.isCells = false → ¬ M k ((W.alloc (ob x)).putObj (w.heap.size + 1) (.loop { rc .ready with state := .busy })) := fun {k o} hk ho hm => by
      obtain ⟨_, _, o', h2, h3⟩ := hM _ _ _ hi2 hm
      rw [hk] at h2
      cases h2
      rw [ho] at h3
      cases h3
    have hl3 := (hk.block _ (by simpa using hlta) (notM hl2 rfl)).trans hl2
    have hd3 := (hk.block _ (by simp; omega) (notM hd2 rfl)).trans hd2
    rcases hcase with ⟨rfl, hi3⟩ | ⟨rfl, hx3⟩
    · refine ⟨_, _, run_endRound none hl3, .inl ⟨rfl, ⟨hI.putObj _ hi3 (by omega) hl3 rfl, World.putObj_heap_same (Array.getElem?_eq_some_iff.1 hl3).1, (World.putObj_heap_other (by omega)).trans hd3⟩, ?_⟩⟩
      refine ⟨hk.os, hk.tape, hk.output, by have := hk.size; simp at this ⊢; omega, ?_, ?_⟩
      · intro k hlt' hnm
        rw [World.putObj_heap_other (fun e => hnm (.inl e)), hk.block k (by simp; omega) (fun hm => hnm (.inr (hMB _ _ _ _ hi hga (hback _ hia hla rfl hm)))), World.putObj_heap_other (fun e => hnm (.inl e)), Below.heap_alloc _ _ _ hlt']
      · rintro k (rfl | hm)
        · exact .inl (.inl rfl)
        · rcases hk.grows k (hback _ hi3 hl3 rfl hm) with h | h
          · exact .inl (.inr (hMB _ _ _ _ hi hga (hback _ hia hla rfl h)))
          · exact .inr (by simp at h; omega)
    · exact ⟨_, _, run_endRound (some .ret) hl3, .inr ⟨rfl, hIx.putObj _ hx3 (by omega) hl3 rfl, World.putObj_heap_same (Array.getElem?_eq_some_iff.1 hl3).1, (World.putObj_heap_other (by omega)).trans hd3⟩⟩
  case behind =>
    rintro e W2 ⟨⟨v, rfl⟩, ⟨xs, hS, hi, hl, hd⟩ | ⟨xs, hSp, hi, hl, hd⟩⟩
    · exact ⟨none, _, run_endLoop hl (by simp [rc]), hdone _ xs _ (Nat.le_refl _) hS (hI.putObj _ hi (by omega) hl rfl) ((World.putObj_heap_other (by omega)).trans hd)⟩
    · exact ⟨some .ret, _, run_endLoop hl (by simp), wpIn_ret (hleft _ xs _ (Nat.le_refl _) hSp (hIx.putObj _ hi (by omega) hl rfl) ((World.putObj_heap_other (by omega)).trans hd))⟩
end Go.Proofs.YtihgmpebpkjmkaaGreatDoor
