/-
  What (*strings.Builder).WriteString and Grow do at a builder that the call itself holds, over this seat's program; and a scope with one label that the run comes back to.
-/
import Derived.Test.YtidbnkkgilgjoaaDoorBld
import Derived.Test.YtidbnkkgilgjoaaDoorShelf
import Derived.Lib.AppendStr
import Derived.ScopeJumps
import Derived.WalkMore
set_option linter.unusedVariables false
namespace Go.Proofs.YtidbnkkgilgjoaaDoor
open Go.RowKit

theorem belows' {w a b : World} (h1 : Below w.heap.size w a) (h2 : Below a.heap.size a b) : Below w.heap.size w b := h1.trans (h2.mono h1.size)

theorem byteCells_snoc (l : List UInt8) (c : UInt8) (x : Int) (h : x = c.toNat) : Lib.byteCells l ++ [Value.int .u8 x] = Lib.byteCells (l ++ [c]) := by
  subst h
  simp [Lib.byteCells]

theorem isB_below {T e : TypeId} {B b : Nat} {bs : List Value} {w w' : World} (h : Lib.IsBuilderF T e B b bs w) (hb : Below w.heap.size w w') : Lib.IsBuilderF T e B b bs w' := by
  have key : ∀ p, Lib.BuilderAtF T e B b p bs w → Lib.BuilderAtF T e B b p bs w' := by
    rintro p ⟨hB, v, hbk, hown, hne⟩
    refine ⟨hB, v, ?_, ?_, hne⟩
    · rw [hb.block b (Array.getElem?_eq_some_iff.1 hbk).1]; exact hbk
    · obtain ⟨h1, h2⟩ := hown
      refine ⟨h1, ?_⟩
      rcases h2 with h2 | ⟨g, cap, cur, fz, hv, hg, hh, r⟩
      · exact Or.inl h2
      · exact Or.inr ⟨g, cap, cur, fz, hv, hg, by rw [hb.block g (Array.getElem?_eq_some_iff.1 hh).1]; exact hh, r⟩
  rcases h with h | h
  · exact Or.inl (key _ h)
  · exact Or.inr (key _ h)

theorem strCells_eq (s : ByteArray) : Lib.strCells s = Lib.byteCells s.data.toList := by
  simp [Lib.strCells, Lib.byteCells]

/-- Grow at a builder that was just made. -/
theorem grow_new (n : Nat) (w : World) (hn : n ≤ 281474976710656) :
    Calls Tryd.prog 22 #[.pointer (some ⟨w.heap.size, 0, none⟩), .int .i64 n] (w.alloc (.cells #[.pointer none, .slice none 0 0] 51)) fun e w' => e = .returned (.tuple #[]) ∧ Lib.IsBuilderF 51 5 w.heap.size w.heap.size (Lib.byteCells []) w' ∧ Below w.heap.size w w' ∧ w.heap.size + 1 ≤ w'.heap.size := by
  refine (Tryd.Builder_Grow_fresh w.heap.size w.heap.size n _ (Nat.le_refl _) (heap_alloc_new w _) (by simp) hn).mono ?_
  rintro e w' ⟨rfl, h, hb⟩
  have := hb.size
  simp at this
  exact ⟨rfl, Or.inr (Lib.BuilderAtF.of h), ((Below.refl _ w).alloc (Nat.le_refl _) _).trans hb, this⟩

section
variable {P : Program} {a : Act} {w : World} {Q : Exit → Act → World → Prop}

/-- A scope with one label: the run comes back to it, each time with less to do. -/
theorem wp_scope_one {c rest : Code} (l : Nat) (J : Act → World → Prop) (μ : Act → World → Nat) (hf : findLabel c l = some (Code.skip.seq rest))
    (first : (∀ a w, J a w → rest.wp P (Exit.jump l J Q) a w) → c.wp P (Exit.jump l J Q) a w)
    (pass : ∀ a w, J a w → rest.wp P (Exit.jump l (fun a' w' => J a' w' ∧ μ a' w' < μ a w) Q) a w) : (Code.scope c).wp P Q a w := by
  refine wp_scope_jumps l J μ hf (first ?_) (fun a w h => wp_seq (wp_skip (pass a w h)))
  intro a w h
  refine wp_mono (pass a w h) fun e a' w' hq => ?_
  cases e with
  | goto l' => exact ⟨hq.1, hq.2.1⟩
  | _ => exact hq
end
end Go.Proofs.YtidbnkkgilgjoaaDoor
