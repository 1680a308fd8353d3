/-
  A range over a function that hands over rows which it has made itself: a law for bodies that go on to the end.
-/
import Derived.RangeFuncNested
import Derived.RangeFuncBox
set_option linter.unusedVariables false
namespace Go.Proofs.YtihgmpebpkjmkaaGreatDoor
open Go Go.RowKit
variable {F : Fence} {n : Nat} {P : Program}

/-- All blocks but some lie as they lay; those that count among the some are as before, or new. -/
structure KeptBut (M : Nat → World → Prop) (W W' : World) : Prop where
  os : W'.os = W.os
  tape : W'.tape = W.tape
  output : W'.output = W.output
  size : W.heap.size ≤ W'.heap.size
  block : ∀ k, k < W.heap.size → ¬ M k W → W'.heap[k]? = W.heap[k]?
  grows : ∀ k, M k W' → M k W ∨ W.heap.size ≤ k

/-- What an iterator gives: R says of each thing how it lies where the round begins; M: which blocks a round may write; Sp: what is known of those that have come so far. -/
def GivesR {α : Type} (F : Fence) (n : Nat) (P : Program) (g : Nat) (lb : Array Value) (encs : α → Array Value) (R : (Nat → World → Prop) → α → World → Prop) (n0 : Nat) (S Sp : List α → Prop) (w : World) : Prop :=
  ∀ (l : Nat) (J : List α → World → Prop) (M : Nat → World → Prop) (W : World), Below w.heap.size w W →
    (∀ s A B, J s A → A.grownBy B none → J s B) → (∀ s A k, J s A → M k A → n0 ≤ k ∧ k < A.heap.size) → (∀ s A B k, J s A → A.grownBy B none → M k B → M k A) →
    (∀ pre x W1, J pre W1 → R M x W1 → Sp (pre ++ [x]) → YieldAt F (n - 1) P l (encs x) W1 fun e W' => e = .returned (.bool true) ∧ J (pre ++ [x]) W' ∧ KeptBut M W1 W') →
    J [] W → CallsIn F n P g (#[.func (.yield l) #[] #[]] ++ lb) W fun e W' => (∃ v, e = .returned v) ∧ ∃ xs, S xs ∧ J xs W'

theorem wpIn_range_rows {α : Type} {g : Operand} {ps : Array Tmp} {assign body : Code} {Q : Exit → Act → World → Prop} {a : Act} {w : World}
    (hro : F.round = none) (h1 : 1 ≤ n) {gf : Nat} {lb : Array Value} (hg : a.eval g = .func (.func gf) #[] lb) (hFg : F.fn gf) (eg : ∀ args w, (callFunc gf args).run P w = .ok (.enter gf args) w)
    {encs : α → Array Value} {R : (Nat → World → Prop) → α → World → Prop} {n0 : Nat} {S Sp : List α → Prop} (hseq : GivesR F (n - 1) P gf lb encs R n0 S Sp w) (hn0 : n0 ≤ w.heap.size) (hps : ∀ x, (encs x).size = ps.size)
    (I : List α → World → Prop) (M : Nat → World → Prop) (hI : OwnFrom w.heap.size I)
    (hM : ∀ s A k, I s A → M k A → n0 ≤ k ∧ ∃ o : Obj, A.heap[k]? = some o ∧ o.isCells = true)
    (hMo : ∀ s A B row k, I s A → A.grownBy B row → (∀ r, row = some r → w.heap.size ≤ r ∧ ∃ o : Obj, A.heap[r]? = some o ∧ o.isCells = false) → M k B → M k A)
    (hR : ∀ s x A l r r', I s A → A.heap[l]? = some (.loop r) → R (fun k W => k = l ∨ M k W) x A → R M x (A.putObj l (.loop r')))
    (h0 : I [] w) (a₁ : α → Act)
    (hassign : ∀ (l : Nat) (x : α) (W : World) (K : Act → World → Prop), K (a₁ x) W →
      assign.wpIn (F.inRound l) (n - 1 - 1) P (Exit.then K (fun _ _ _ => False)) { tmps := (ps.zip (encs x)).foldl (fun t (p, v) => t.setIfInBounds p v) a.tmps, defers := [] } W)
    (hbody : ∀ (l : Nat) (pre : List α) (x : α) (W : World), I pre W → R M x W → Sp (pre ++ [x]) → body.wpIn (F.inRound l) (n - 1 - 1) P (fun e _ W' => e = .normal ∧ KeptBut M W W' ∧ I (pre ++ [x]) W') (a₁ x) W)
    (hdone : ∀ (D : Nat) (xs : List α) (W : World), w.heap.size ≤ D → S xs → I xs W → W.heap[D]? = some (.deferred (some [])) → Q .normal { a with defers := { target := .collected D, args := #[] } :: a.defers } W) :
    (Code.rangeFunc g ps assign body).wpIn F n P Q a w := by
  refine wpIn_rangeFunc fun fn hfn => ?_
  rw [hro]
  -- the record in its states
  let rc : LoopState → Loop := fun st => { state := st, pending := none, fn, tmps := a.tmps, params := ps, assign, body, defers := w.heap.size }
  have hent := run_enterLoop_outer (P := P) (w := w) fn a.tmps ps assign body
  obtain ⟨W1, hW1⟩ : ∃ W1, W1 = (w.alloc (.deferred (some []))).alloc (.loop (rc .ready)) := ⟨_, rfl⟩
  have hD1 : W1.heap[w.heap.size]? = some (.deferred (some [])) := by
    rw [hW1]; exact (Below.heap_alloc _ _ _ (by simp)).trans (World.alloc_heap_new w _)
  have hL1 : W1.heap[w.heap.size + 1]? = some (.loop (rc .ready)) := by
    rw [hW1]; have := World.alloc_heap_new (w.alloc (.deferred (some []))) (.loop (rc .ready)); rwa [World.size_alloc] at this
  have hI1 : I [] W1 := by rw [hW1]; exact hI.alloc _ (hI.alloc _ h0)
  have hb1 : Below w.heap.size w W1 := by rw [hW1]; exact ((Below.refl _ w).alloc (Nat.le_refl _) _).alloc (by simp) _
  refine ⟨w.heap.size + 1, [{ target := .collected w.heap.size, args := #[] }], W1, { target := .fn (.func gf) lb, args := #[.func (.yield (w.heap.size + 1)) #[] #[]] }, W1, gf, #[.func (.yield (w.heap.size + 1)) #[] #[]] ++ lb, W1, ?_, ?_, ?_, ?_, fun _ => h1, ?_⟩
  · rw [hW1]; exact hent
  · simp only [resolve, hg]
    simp [go_sem]
  · intro f' hf'; simp [Target.leads] at hf'; subst hf'; exact hFg
  · simp [invoke, go_sem, eg]
  have hkeep : ∀ {A B : World} {k : Nat} {o : Obj}, A.grownBy B none → A.heap[k]? = some o → B.heap[k]? = some o := fun {A B k o} hgr hk => by
    have hlt := (Array.getElem?_eq_some_iff.1 hk).1
    rw [← hk]
    exact hgr.block k hlt (by simp)
  refine (hseq (w.heap.size + 1)
    (fun pre W => I pre W ∧ W.heap[w.heap.size + 1]? = some (.loop (rc .ready)) ∧ W.heap[w.heap.size]? = some (.deferred (some [])))
    (fun k W => k = w.heap.size + 1 ∨ M k W) W1 hb1 ?abide ?mine ?older ?rounds ⟨hI1, hL1, hD1⟩).mono ?behind
  case abide => exact fun s A B h hgr => ⟨hI s A B none h.1 hgr (fun r e => by cases e), hkeep hgr h.2.1, hkeep hgr h.2.2⟩
  case mine =>
    rintro s A k ⟨hi, hl, _⟩ (rfl | hk)
    · exact ⟨by omega, (Array.getElem?_eq_some_iff.1 hl).1⟩
    · obtain ⟨h1, o, h2, _⟩ := hM s A k hi hk
      exact ⟨h1, (Array.getElem?_eq_some_iff.1 h2).1⟩
  case older =>
    rintro s A B k ⟨hi, _, _⟩ hgr (rfl | hk)
    · exact .inl rfl
    · exact .inr (hMo s A B none k hi hgr (fun r e => by cases e) hk)
  case rounds =>
    rintro pre x W ⟨hi, hl, hd⟩ hr hsp
    have hlt : w.heap.size + 1 < W.heap.size := (Array.getElem?_eq_some_iff.1 hl).1
    have hy := run_yield (P := P) (args := encs x) hl (hps x)
    refine ⟨fn, _, assign, body, hy, roundIn_of_wpIn hfn (hassign _ x W _ ⟨_, run_beginRound hl rfl, ?_⟩)⟩
    have hi2 := hI.putObj (.loop { rc .ready with state := .busy }) hi (by omega) hl rfl
    have hr2 := hR pre x W _ _ { rc .ready with state := .busy } hi hl hr
    refine wpIn_mono (hbody (w.heap.size + 1) pre x _ hi2 hr2 hsp) ?_
    rintro e a3 W3 ⟨rfl, hk, hi3⟩
    have hl2 : (W.putObj (w.heap.size + 1) (.loop { rc .ready with state := .busy })).heap[w.heap.size + 1]? = some (.loop { rc .ready with state := .busy }) := World.putObj_heap_same hlt
    have hd2 : (W.putObj (w.heap.size + 1) (.loop { rc .ready with state := .busy })).heap[w.heap.size]? = some (.deferred (some [])) := (World.putObj_heap_other (by omega)).trans hd
    have notM : ∀ {k : Nat} {o : Obj}, (W.putObj (w.heap.size + 1) (.loop { rc .ready with state := .busy })).heap[k]? = some o → o.isCells = false → ¬ M k (W.putObj (w.heap.size + 1) (.loop { rc .ready with state := .busy })) := fun {k o} hk ho hm => by
      obtain ⟨_, o', h2, h3⟩ := hM _ _ _ hi2 hm
      rw [hk] at h2
      cases h2
      rw [ho] at h3
      cases h3
    have hl3 := (hk.block _ (by simpa using hlt) (notM hl2 rfl)).trans hl2
    have hd3 := (hk.block _ (by simp; omega) (notM hd2 rfl)).trans hd2
    have hback : ∀ {k : Nat} {A : World} {s : List α} {o : Obj} (o' : Obj), I s A → A.heap[w.heap.size + 1]? = some o → o.isCells = false → M k (A.putObj (w.heap.size + 1) o') → M k A := fun {k A s o} o' hs ho hc hm =>
      hMo s A _ (some (w.heap.size + 1)) k hs (grownBy_putObj' _ _ _) (fun r e => by cases e; exact ⟨by omega, o, ho, hc⟩) hm
    refine ⟨_, _, run_endRound none hl3, rfl, ⟨hI.putObj _ hi3 (by omega) hl3 rfl, World.putObj_heap_same (Array.getElem?_eq_some_iff.1 hl3).1, (World.putObj_heap_other (by omega)).trans hd3⟩, ?_⟩
    refine ⟨hk.os, hk.tape, hk.output, by have := hk.size; simpa using this, ?_, ?_⟩
    · intro k hlt' hnm
      rw [World.putObj_heap_other (fun e => hnm (.inl e)), hk.block k (by simpa using hlt') (fun hm => hnm (.inr (hback _ hi hl rfl hm))), World.putObj_heap_other (fun e => hnm (.inl e))]
    · rintro k (rfl | hm)
      · exact .inl (.inl rfl)
      · rcases hk.grows k (hback _ hi3 hl3 rfl hm) with h | h
        · exact .inl (.inr (hback _ hi hl rfl h))
        · exact .inr (by simpa using h)
  case behind =>
    rintro e W2 ⟨⟨v, rfl⟩, xs, hS, hi, hl, hd⟩
    exact ⟨none, _, run_endLoop hl (by simp [rc]), hdone _ xs _ (Nat.le_refl _) hS (hI.putObj _ hi (by omega) hl rfl) ((World.putObj_heap_other (by omega)).trans hd)⟩
end Go.Proofs.YtihgmpebpkjmkaaGreatDoor
