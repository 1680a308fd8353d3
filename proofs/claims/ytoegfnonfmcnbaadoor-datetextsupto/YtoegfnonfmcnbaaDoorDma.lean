/-
  What date.Mail does with whatever text, over this seat's program.
-/
import Derived.Test.YtoegfnonfmcnbaaDoorDmm
import Derived.Test.YtoegfnonfmcnbaaDoorIxa
set_option linter.unusedVariables false
namespace Go.Proofs.YtoegfnonfmcnbaaDoor
open Go.RowKit

theorem indexAnyD_any (s C : ByteArray) (w : World) (h2 : C.size = 2) (ha : ∀ (j : Nat) (h : j < C.size), (C[j]'h).toNat < 128) (hs : s.size < 4294967281) :
    Calls Tryd.prog 52 #[.string s, .string C] w fun e w' => e = .returned (.int .i64 (Lib.indexAny s.data.toList C.data.toList)) ∧ Below w.heap.size w w' := by
  by_cases h8 : s.size ≤ 8
  · exact indexAny_short s C w h2 ha h8
  · refine (Any.strings_IndexAny_long Tryd.lays153 (zero_of_info (show (Tryd.prog.info? _).map (fun i => (i.zero, i.size)) = some (some (.agg (Array.replicate 256 (.bool false))), 256) by kernel_rfl)).1 (by kernel_rfl) s C w (by omega) (by omega) hs (by omega) (fun j b hb => by
      obtain ⟨hj, rfl⟩ := List.getElem?_eq_some_iff.1 hb
      exact ha j (by rwa [sizeL] at hj))).mono ?_
    rintro e w' ⟨rfl, rfl⟩
    exact ⟨rfl, ((Below.refl _ w).alloc (Nat.le_refl _) _).alloc (by simp) _⟩
theorem ixAny_all (l : List UInt8) (hl : l.length ≤ 4294967280) : IxAny l := by
  intro W
  have h := indexAnyD_any (bts l) ⟨#[32, 9]⟩ W rfl (by
    intro j h
    have h3 : j < 2 := h
    match j, h3 with
    | 0, _ => exact (show (32 : UInt8).toNat < 128 by decide)
    | 1, _ => exact (show (9 : UInt8).toNat < 128 by decide)) (by rw [size_bts]; omega)
  rw [toList_bts] at h
  exact h
/-- date.Mail, of whatever text. -/
theorem mail_gen (L : List UInt8) (w : World) (ht : LTab w) (hs : L.length ≤ 4294967280) :
    Calls Tryd.prog 9 #[.string (bts L)] w fun e w' => e = .returned (numV (mailR L) 7) ∧ Below w.heap.size w w' := mail_any L w ht (by omega) (fun t h => ixAny_all t (by have := h.length_le; omega))
end Go.Proofs.YtoegfnonfmcnbaaDoor
