/-
  What post.writeBlock does, over this seat's program.
-/
import Derived.Test.YtfjjigcghhohkaaPnp
import Derived.Test.YtfjjigcghhohkaaPch
import Derived.Test.YtfjjigcghhohkaaPu2
import Derived.Test.YtfjjigcghhohkaaPne
set_option linter.unusedVariables false
namespace Go.Proofs.Ytfjjigcghhohkaa
open Go.RowKit Go.Proofs.Num Go.Proofs.Dct

/-- What lies between the first numbers of a list, and between all of them; a block's text. -/
def gapsN (l : List Nat) (k : Nat) : List UInt8 := (List.range k).flatMap (fun j => putL (l.getD (j + 1) 0 - l.getD j 0 - 1))
theorem gapsN_succ (l : List Nat) (k : Nat) : gapsN l (k + 1) = gapsN l k ++ putL (l.getD (k + 1) 0 - l.getD k 0 - 1) := by simp [gapsN, List.range_succ]
def blockL (ahead : Nat) (l : List Nat) : List UInt8 := putL (l.getD 0 0 - ahead) ++ (putL l.length ++ (putL (gapsN l (l.length - 1)).length ++ gapsN l (l.length - 1)))

theorem Bdr.kept {W W' : World} {B R b : Nat} {gr g : Option Nat} {l : List UInt8} (h : Bdr W B R gr l) (hk : Kp b g W W') (h1 : R ≠ b) (h2 : some R ≠ g) (h3 : ∀ k, gr = some k → k ≠ b ∧ some k ≠ g) : Bdr W' B R gr l := by
  obtain ⟨p, v, h4, h5⟩ := h.row
  have hR : W'.heap[R]? = W.heap[R]? := hk.block R (Array.getElem?_eq_some_iff.1 h4).1 h1 h2
  refine ⟨?_, p, v, hR.trans h4, h5⟩
  have key : ∀ q, Lib.BuilderAtF 54 5 B R q (Lib.byteCells l) W → Lib.BuilderAtF 54 5 B R q (Lib.byteCells l) W' := by
    rintro q ⟨hB, v1, hb1, ⟨ho1, ho2⟩, hn1⟩
    have hv : v1 = v := by
      have hb4 := hb1.symm.trans h4
      injection hb4 with e1
      injection e1 with e2
      have := congrArg (fun a => a[1]?) e2
      simpa using this
    subst hv
    refine ⟨hB, v1, hR.trans hb1, ⟨ho1, ?_⟩, hn1⟩
    rcases ho2 with ho2 | ⟨j, cap, cur, fz, rfl, hj, hh, r⟩
    · exact .inl ho2
    · have h6 := h3 j h5.symm
      exact .inr ⟨j, cap, cur, fz, rfl, hj, (hk.block j (Array.getElem?_eq_some_iff.1 hh).1 h6.1 h6.2).trans hh, r⟩
  rcases h.isb with h | h
  · exact .inl (key _ h)
  · exact .inr (key _ h)
theorem Bdr.base {W : World} {B b : Nat} {g : Option Nat} {l : List UInt8} (h : Bdr W B b g l) : B ≤ b := by
  rcases h.isb with h | h
  · exact h.1
  · exact h.1
theorem Bdr.rowlt {W : World} {B b : Nat} {g : Option Nat} {l : List UInt8} (h : Bdr W B b g l) : ∀ k, g = some k → B ≤ k ∧ k < W.heap.size := by
  obtain ⟨p, v, h4, h5⟩ := h.row
  intro k hk
  rcases h.isb with ⟨hB, v1, hb1, ⟨ho1, ho2⟩, hn1⟩ | ⟨hB, v1, hb1, ⟨ho1, ho2⟩, hn1⟩
  all_goals
    have hv : v1 = v := by
      have hb4 := hb1.symm.trans h4
      injection hb4 with e1
      injection e1 with e2
      have := congrArg (fun a => a[1]?) e2
      simpa using this
    subst hv
    rcases ho2 with ⟨rfl, _⟩ | ⟨j, cap, cur, fz, rfl, hj, hh, r⟩
    · rw [← h5] at hk; cases hk
    · rw [← h5] at hk
      cases hk
      exact ⟨hj, (Array.getElem?_eq_some_iff.1 hh).1⟩
theorem Bdr.of_wr {u W : World} {l : List UInt8} (h : Wr u W l) : ∃ gr, Bdr W u.heap.size u.heap.size gr l := by
  rcases h.isb with h1 | h1
  · obtain ⟨hB, v, hb, r⟩ := h1
    exact ⟨v.ownBlock, h.isb, _, v, hb, rfl⟩
  · obtain ⟨hB, v, hb, r⟩ := h1
    exact ⟨v.ownBlock, h.isb, _, v, hb, rfl⟩

/-- Two builders at work: the one that came in, and the call's own. -/
structure Two2 (w W : World) (B b Z : Nat) (g : Option Nat) (acc rest : List UInt8) : Prop where
  main : ∃ gi, Bdr W B b gi acc ∧ Fr w g gi ∧ (∀ k, gi = some k → k < w.heap.size ∨ Z ≤ k)
  side : ∃ gr, Bdr W w.heap.size w.heap.size gr rest ∧ (∀ k, gr = some k → w.heap.size ≤ k ∧ k < Z) ∧ (rest = [] → gr = none)
  kp : Kp b g w W
  z1 : w.heap.size < Z
  z2 : Z ≤ W.heap.size
  b1 : b < w.heap.size
theorem Two2.below {w W W' : World} {B b Z : Nat} {g : Option Nat} {acc rest : List UInt8} (h : Two2 w W B b Z g acc rest) (hb : Below W.heap.size W W') : Two2 w W' B b Z g acc rest := by
  obtain ⟨gi, h1, h2, h3⟩ := h.main
  obtain ⟨gr, h4, h5, h6⟩ := h.side
  refine ⟨⟨gi, h1.below hb, h2, h3⟩, ⟨gr, h4.below hb, h5, h6⟩, ?_, h.z1, Nat.le_trans h.z2 hb.size, h.b1⟩
  have hs := h.kp.size
  exact ⟨hb.os.trans h.kp.os, hb.tape.trans h.kp.tape, hb.output.trans h.kp.output, Nat.le_trans hs hb.size, fun k hk hb' hg => (hb.block k (by omega)).trans (h.kp.block k hk hb' hg)⟩
theorem Two2.write {w W : World} {B b Z : Nat} {g : Option Nat} {acc rest : List UInt8} (h : Two2 w W B b Z g acc rest) (s : ByteArray) (hlen : acc.length + s.size ≤ 140737488355328) :
    Calls Try.prog 20 #[.pointer (some ⟨b, 0, none⟩), .string s] W fun e w' => e = .returned (.tuple #[.int .i64 s.size, .nilIface]) ∧ Two2 w w' B b Z g (acc ++ s.data.toList) rest := by
  obtain ⟨gi, h1, h2, h3⟩ := h.main
  obtain ⟨gr, h4, h5, h6⟩ := h.side
  have hb1 := h.b1
  have hz1 := h.z1
  have hz2 := h.z2
  refine (writeString_r h1 s hlen (by have := h1.base; have := h1.lt; omega)).mono ?_
  rintro e w' ⟨rfl, gi', k1, k2, k3⟩
  refine ⟨rfl, ⟨gi', k1, h2.trans k2 h.kp.size, ?_⟩, ⟨gr, h4.kept k3 (by omega) ?_ ?_, h5, h6⟩, h.kp.trans k3 h2, hz1, Nat.le_trans hz2 k3.size, hb1⟩
  · intro k hk
    rcases k2 with rfl | rfl | ⟨j, rfl, hj⟩
    · exact h3 k hk
    · cases hk
    · cases hk; omega
  · intro e
    have := h3 _ e.symm
    omega
  · intro k hk
    have h7 := h5 k hk
    refine ⟨by omega, fun e => ?_⟩
    have := h3 _ e.symm
    omega
theorem Two2.string {w W : World} {B b Z : Nat} {g : Option Nat} {acc rest : List UInt8} (h : Two2 w W B b Z g acc rest) :
    Calls Try.prog 24 #[.pointer (some ⟨w.heap.size, 0, none⟩)] W fun e w' => e = .returned (.string ⟨rest.toArray⟩) ∧ ∃ gi, Bdr w' B b gi acc ∧ Fr w g gi ∧ Kp b g w w' := by
  obtain ⟨gi, h1, h2, h3⟩ := h.main
  obtain ⟨gr, h4, h5, h6⟩ := h.side
  have hb1 := h.b1
  have hz1 := h.z1
  have hz2 := h.z2
  refine (string_r h4 h6).mono ?_
  rintro e w' ⟨rfl, k3⟩
  refine ⟨rfl, gi, h1.kept k3 (by omega) ?_ ?_, h2, ?_⟩
  · intro e
    have := h5 _ e.symm
    omega
  · intro k hk
    have h7 := h3 k hk
    refine ⟨by omega, fun e => ?_⟩
    have := h5 _ e.symm
    omega
  · have hs := h.kp.size
    refine ⟨k3.os.trans h.kp.os, k3.tape.trans h.kp.tape, k3.output.trans h.kp.output, Nat.le_trans hs k3.size, fun k hk hb' hg => (k3.block k (by omega) (by omega) (fun e => ?_)).trans (h.kp.block k hk hb' hg)⟩
    have := h5 _ e.symm
    omega
end Go.Proofs.Ytfjjigcghhohkaa
