/-
  What word.pieces hands over: plain reading, and how the rows that it makes live on.
-/
import Derived.Test.YtdallfakfhajdaaGreatDoorBnd3
import Derived.Test.YtdallfakfhajdaaGreatDoorWtr
import Derived.Test.YtdallfakfhajdaaGreatDoorWgl
set_option linter.unusedVariables false
namespace Go.Proofs.YtdallfakfhajdaaGreatDoor
open Go.RowKit Go.Proofs.Enc Go.Proofs.Rns

/-- The bytes ahead of the first word are handed over. -/
def runB (bw : Bool) (l : List UInt8) : Bool := !(l.take (fdW l 0).1).isEmpty && !(bw && decide (0 < (fdW l 0).2.2) && blL (l.take (fdW l 0).1))
/-- A value's pieces: the letters of each, and whether it is a word. -/
def pcF : Nat → Bool → List UInt8 → List (List Nat × Bool)
  | 0, _, _ => []
  | f + 1, bw, l => if l = [] then [] else
    (if runB bw l then [(lettersL (l.take (fdW l 0).1), false)] else []) ++ (if 0 < (fdW l 0).2.2 then [((fdW l 0).2.1, true)] else []) ++ pcF f true (l.drop ((fdW l 0).1 + (fdW l 0).2.2))
def pcW (l : List UInt8) : List (List Nat × Bool) := pcF (l.length + 1) false l

theorem fdW_le : ∀ (l : List UInt8) (k : Nat), k ≤ (fdW l k).1 ∧ (fdW l k).1 + (fdW l k).2.2 ≤ k + l.length
  | [], k => by simp [fdW]
  | a :: r, k => by
    unfold fdW
    split
    · have := rdN_le (a :: r)
      exact ⟨Nat.le_refl _, by simp only; omega⟩
    · have := fdW_le r (k + 1)
      refine ⟨by omega, ?_⟩
      simp only [List.length_cons]
      omega
theorem fdW_end : ∀ (l : List UInt8) (k : Nat), (fdW l k).2.2 = 0 → (fdW l k).1 = k + l.length
  | [], k, _ => by simp [fdW]
  | a :: r, k, h => by
    unfold fdW at h ⊢
    split
    · rename_i h0
      rw [if_pos h0] at h
      simp only at h
      omega
    · rename_i h0
      rw [if_neg h0] at h
      rw [fdW_end r (k + 1) h]
      simp only [List.length_cons]
      omega

/-- A piece: the slice of its letters, the letters, whether it is a word. -/
structure Pc where
  v : Value
  l : List Nat
  b : Bool
def Pc.enc (x : Pc) : Array Value := #[x.v, .bool x.b]
def Pc.say (x : Pc) : List Nat × Bool := (x.l, x.b)
/-- How a piece lies where its round begins. -/
def PcR (n0 : Nat) (M : Nat → World → Prop) (x : Pc) (W : World) : Prop :=
  W.ownsRow n0 21 1 x.v x.l.length (runeC x.l) ∧ ∀ k, x.v.ownBlock = some k → ¬ M k W ∧ k < W.heap.size

theorem KeptBut.below {M : Nat → World → Prop} {n0 : Nat} {W W' : World} (h : KeptBut M W W') (hn : n0 ≤ W.heap.size) (hM : ∀ k, M k W → n0 ≤ k) : Below n0 W W' :=
  ⟨h.os, h.tape, h.output, h.size, fun k hk => h.block k (by omega) (fun hm => by have := hM k hm; omega)⟩
theorem grown_of_below {A B : World} (h : Below A.heap.size A B) : A.grownBy B none := ⟨h.os, h.tape, h.output, h.size, fun k hk _ => h.block k hk⟩
theorem own_block {w : World} {B : Nat} {e : TypeId} {v : Value} {n : Nat} {xs : List Value} (h : w.ownsRow B e 1 v n xs) {k : Nat} (hk : v.ownBlock = some k) : B ≤ k ∧ k < w.heap.size := by
  rcases h.2 with ⟨rfl, _⟩ | ⟨g, cap, cur, rfl, hg, hc, _⟩
  · cases hk
  · cases hk
    exact ⟨hg, (Array.getElem?_eq_some_iff.1 hc).1⟩
theorem own_same {A B : World} {n0 : Nat} {e : TypeId} {v : Value} {n : Nat} {xs : List Value} (h : A.ownsRow n0 e 1 v n xs) (hs : ∀ k, v.ownBlock = some k → B.heap[k]? = A.heap[k]?) : B.ownsRow n0 e 1 v n xs := by
  refine ⟨h.1, ?_⟩
  rcases h.2 with h2 | ⟨g, cap, cur, rfl, hg, hc, hr⟩
  · exact .inl h2
  · exact .inr ⟨g, cap, cur, rfl, hg, (hs g rfl).trans hc, hr⟩
section
variable {J : List Pc → World → Prop} {M : Nat → World → Prop} {n0 : Nat}
theorem PcR.new (hm : ∀ s A k, J s A → M k A → n0 ≤ k ∧ k < A.heap.size) (ho : ∀ s A B k, J s A → A.grownBy B none → M k B → M k A) {s : List Pc} {A B : World} {x : Pc} (hj : J s A) (hb : Below A.heap.size A B) (hn : n0 ≤ A.heap.size)
    (h : B.ownsRow A.heap.size 21 1 x.v x.l.length (runeC x.l)) : PcR n0 M x B := by
  refine ⟨h.mono hn, fun k hk => ?_⟩
  have hbk := own_block h hk
  refine ⟨fun hmk => ?_, hbk.2⟩
  have := hm s A k hj (ho s A B k hj (grown_of_below hb) hmk)
  omega
theorem PcR.grow (ho : ∀ s A B k, J s A → A.grownBy B none → M k B → M k A) {s : List Pc} {A B : World} {x : Pc} (hj : J s A) (hb : Below A.heap.size A B) (h : PcR n0 M x A) : PcR n0 M x B := by
  refine ⟨own_same h.1 (fun k hk => hb.block k (h.2 k hk).2), fun k hk => ?_⟩
  have := h.2 k hk
  have hs := hb.size
  exact ⟨fun hm => this.1 (ho s A B k hj (grown_of_below hb) hm), by omega⟩
theorem PcR.round {A B : World} {x : Pc} (hk : KeptBut M A B) (h : PcR n0 M x A) : PcR n0 M x B := by
  refine ⟨own_same h.1 (fun k hb => hk.block k (h.2 k hb).2 (h.2 k hb).1), fun k hb => ?_⟩
  have := h.2 k hb
  have hs := hk.size
  refine ⟨fun hm => ?_, by omega⟩
  rcases hk.grows k hm with h | h
  · exact this.1 h
  · omega
end
end Go.Proofs.YtdallfakfhajdaaGreatDoor
