/-
  What is kept where a box at work is changed: blocks, rows of one's own, and worlds that differ at one block alone.
-/
import Derived.Test.YtnhcpkcpgpobdaaDoorBma
set_option linter.unusedVariables false
set_option linter.unusedSimpArgs false
namespace Go.Proofs.YtnhcpkcpgpobdaaDoor
open Go.RowKit

theorem own_drewB {w : World} {B : Nat} {e : TypeId} {size : Nat} {v : Value} {n : Nat} {xs : List Value} (h : w.ownsRow B e size v n xs) : w.drew.ownsRow B e size v n xs := ⟨h.1, h.2⟩
theorem blk_drewB {w : World} {P t : Nat} {cs : Array Value} (h : Blk w P t cs) : Blk w.drew P t cs := h
theorem own_two {w : World} {C C' e e' k k' n n' : Nat} {v v' : Value} {xs xs' : List Value} (h : w.ownsRow C e k v n xs) (h' : w.ownsRow C' e' k' v' n' xs') (hne : e ≠ e') : v.ownBlock = none ∨ v.ownBlock ≠ v'.ownBlock := by
  rcases h.2 with ⟨rfl, _⟩ | ⟨g, cap, cur, rfl, _, hg, _⟩
  · exact Or.inl rfl
  · right
    have hb : Blk w g e cur := hg
    exact fun he => own_neT h' hb hne he.symm
theorem own_grownT {w w' : World} {C C' e e' k k' n n' : Nat} {v v' : Value} {xs xs' : List Value} (h : w.ownsRow C e k v n xs) (h' : w.ownsRow C' e' k' v' n' xs') (hne : e ≠ e') (hg : w.grownBy w' v'.ownBlock) : w'.ownsRow C e k v n xs :=
  h.kept hg (own_two h h' hne)

/-- All blocks that there were are as they were, but one. -/
def Exc (W : World) (P : Nat) (V : World) : Prop := W.grownBy V (some P)
theorem Exc.refl (W : World) (P : Nat) : Exc W P W := ⟨rfl, rfl, rfl, Nat.le_refl _, fun _ _ _ => rfl⟩
theorem Exc.below {W V X : World} {P : Nat} (h : Exc W P V) (hb : Below V.heap.size V X) : Exc W P X :=
  ⟨hb.os.trans h.os, hb.tape.trans h.tape, hb.output.trans h.output, Nat.le_trans h.size hb.size, fun k hk hne => (hb.block k (Nat.lt_of_lt_of_le hk h.size)).trans (h.block k hk hne)⟩
theorem Exc.grown {W V X : World} {P : Nat} {o : Option Nat} (h : Exc W P V) (hg : V.grownBy X o) (ho : ∀ k, o = some k → W.heap.size ≤ k) : Exc W P X :=
  ⟨hg.os.trans h.os, hg.tape.trans h.tape, hg.output.trans h.output, Nat.le_trans h.size hg.size, fun k hk hne => (hg.block k (Nat.lt_of_lt_of_le hk h.size) (fun e => by have := ho k e.symm; omega)).trans (h.block k hk hne)⟩
theorem Exc.set {W V : World} {P : Nat} (h : Exc W P V) (i : Nat) (u : Value) : Exc W P (V.setCell ⟨P, i, none⟩ u) :=
  ⟨h.os, h.tape, h.output, by have := h.size; simpa using this, fun k hk hne => (Below.heap_setCell _ _ _ _ (fun e => hne (by rw [e]))).trans (h.block k hk hne)⟩
theorem Exc.drewB {W V : World} {P : Nat} (h : Exc W P V) : Exc W P V.drew := ⟨h.os, h.tape, h.output, h.size, h.block⟩
theorem Exc.to {W V : World} {P B : Nat} (h : Exc W P V) (hP : B ≤ P) (hB : B ≤ W.heap.size) : Below B W V :=
  ⟨h.os, h.tape, h.output, h.size, fun k hk => h.block k (by omega) (fun e => by injection e with e; omega)⟩
theorem own_lt' {w : World} {C e k n : Nat} {v : Value} {xs : List Value} (h : w.ownsRow C e k v n xs) : ∀ g, v.ownBlock = some g → C ≤ g := fun g hg => (h.lt g hg).1

/-- A box at work. -/
def wkC (b : Bx) (vm vt : Value) : Array Value := #[.int .u32 (b.va : Int), .int .u64 (b.nx : Int), .int .u32 (b.mr : Int), .int .u32 (b.la : Int), vm, vt]
theorem told_app {W V : World} {P C : Nat} {b : Bx} {vm vt y : Value} {tl : List Nat} {sl : List Msg} (u : Nat) (ty : TypeId)
    (KP : Blk V P 61 (wkC b vm vt)) (OT : V.ownsRow C 22 1 vt tl.length (flatG cells32 tl)) (OS : V.ownsRow C 47 6 y sl.length (flatG msC sl)) (G : Exc W P V) (hC : C = W.heap.size) (hl : tl.length ≤ 4194304) :
    ∃ v' Y2, (Builtin.append_ #[28, 28] ty #[vt, .slice (some ⟨V.heap.size, 0, none⟩) 1 1]).run Tryd.prog (V.alloc (.cells #[.int .u32 (u : Int)] 22)) = .ok v' Y2 ∧ Y2.cell? ⟨P, 5, none⟩ = some vt ∧ Y2.frozen? ⟨P, 5, none⟩ = false ∧
      Blk (Y2.setCell ⟨P, 5, none⟩ v') P 61 (wkC b vm v') ∧ (Y2.setCell ⟨P, 5, none⟩ v').ownsRow C 22 1 v' (tl ++ [u]).length (flatG cells32 (tl ++ [u])) ∧ (Y2.setCell ⟨P, 5, none⟩ v').ownsRow C 47 6 y sl.length (flatG msC sl) ∧ Exc W P (Y2.setCell ⟨P, 5, none⟩ v') ∧ (∀ Q t cs, Blk V Q t cs → t ≠ 22 → Blk Y2 Q t cs) := by
  have hA : Below V.heap.size V (V.alloc (.cells #[.int .u32 (u : Int)] 22)) := (Below.refl _ V).alloc (Nat.le_refl _) _
  have KP1 := KP.below hA
  have OT1 := own_below OT hA
  have OS1 := own_below OS hA
  have hs := G.size
  obtain ⟨v', Y2, hr, own2, bb2, gr2⟩ := run_app32g (V.alloc (.cells #[.int .u32 (u : Int)] 22)) C V.heap.size vt tl u ty OT1 hl (by rw [World.size_alloc]; omega) (Blk.new V 22 #[.int .u32 (u : Int)])
  have KP2 := blk_grownT KP1 gr2 (own_neT OT1 KP1 (by decide))
  have OS2 := own_grownT OS1 OT1 (by decide) gr2
  refine ⟨v', Y2, hr, ?_, KP2.frozen 5, ?_, own_setT own2 KP2 (by decide), own_setT OS2 KP2 (by decide), ((G.below hA).grown gr2 (fun k hk => by have := own_lt' OT1 k hk; omega)).set 5 v', fun Q t cs hq hne => blk_grownT (hq.below hA) gr2 (own_neT OT1 (hq.below hA) hne)⟩
  · rw [KP2.cell 5]; rfl
  · exact KP2.set 5 v'
theorem stay_app {W V : World} {P C : Nat} {b : Bx} {vm vt y : Value} {tl : List Nat} {sl : List Msg} (p : Msg) (ty : TypeId)
    (KP : Blk V P 61 (wkC b vm vt)) (OT : V.ownsRow C 22 1 vt tl.length (flatG cells32 tl)) (OS : V.ownsRow C 47 6 y sl.length (flatG msC sl)) (G : Exc W P V) (hC : C = W.heap.size) (hl : sl.length ≤ 4194304) :
    ∃ v' Y2, (Builtin.append_ #[24, 24] ty #[y, .slice (some ⟨V.heap.size, 0, none⟩) 1 1]).run Tryd.prog (V.alloc (.cells #[.int .u32 (p.uid : Int), .int .u8 (p.fl : Int), .int .i64 p.dy, .int .i64 p.sc, .int .i64 p.zn, .string p.raw] 47)) = .ok v' Y2 ∧
      Blk Y2 P 61 (wkC b vm vt) ∧ Y2.ownsRow C 22 1 vt tl.length (flatG cells32 tl) ∧ Y2.ownsRow C 47 6 v' (sl ++ [p]).length (flatG msC (sl ++ [p])) ∧ Exc W P Y2 := by
  have hA : Below V.heap.size V (V.alloc (.cells #[.int .u32 (p.uid : Int), .int .u8 (p.fl : Int), .int .i64 p.dy, .int .i64 p.sc, .int .i64 p.zn, .string p.raw] 47)) := (Below.refl _ V).alloc (Nat.le_refl _) _
  have KP1 := KP.below hA
  have OT1 := own_below OT hA
  have OS1 := own_below OS hA
  have hs := G.size
  obtain ⟨v', Y2, hr, own2, bb2, gr2⟩ := run_appMg (V.alloc (.cells #[.int .u32 (p.uid : Int), .int .u8 (p.fl : Int), .int .i64 p.dy, .int .i64 p.sc, .int .i64 p.zn, .string p.raw] 47)) C V.heap.size y sl p ty OS1 hl (by rw [World.size_alloc]; omega) (Blk.new V 47 _)
  exact ⟨v', Y2, hr, blk_grownT KP1 gr2 (own_neT OS1 KP1 (by decide)), own_grownT OT1 OS1 (by decide) gr2, own2, (G.below hA).grown gr2 (fun k hk => by have := own_lt' OS1 k hk; omega)⟩

theorem OutM.set {w : World} {v u : Value} {l : List Msg} {P t i : Nat} {cs : Array Value} (h : OutM w v l) (hb : Blk w P t cs) (hne : t ≠ 47) : OutM (w.setCell ⟨P, i, none⟩ u) v l := ⟨own_setT h.1 hb hne, h.2⟩
theorem OutT.set {w : World} {v u : Value} {l : List Nat} {P t i : Nat} {cs : Array Value} (h : OutT w v l) (hb : Blk w P t cs) (hne : t ≠ 22) : OutT (w.setCell ⟨P, i, none⟩ u) v l := ⟨own_setT h.1 hb hne, h.2⟩
end Go.Proofs.YtnhcpkcpgpobdaaDoor
