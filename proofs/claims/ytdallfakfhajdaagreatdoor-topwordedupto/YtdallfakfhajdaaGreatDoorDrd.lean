/-
  What the moment's readDay does, over this seat's program.
-/
import Derived.Test.YtdallfakfhajdaaGreatDoorDmo
set_option linter.unusedVariables false
namespace Go.Proofs.YtdallfakfhajdaaGreatDoor
open Go.RowKit Go.Proofs.Dcl

section
variable {P : Program} {a : Act} {w : World} {Q : Exit → Act → World → Prop}
/-- A scope with one label that is gone to from ahead of it. -/
theorem wp_scope_out {c rest : Code} (l : Nat) (J : Act → World → Prop) (hf : findLabel c l = some (Code.skip.seq rest))
    (first : c.wp P (Exit.jump l J Q) a w)
    (pass : ∀ a w, J a w → rest.wp P (Exit.jump l (fun a' w' => J a' w' ∧ 0 < 0) Q) a w) : (Code.scope c).wp P Q a w :=
  wp_scope_jumps l J (fun _ _ => 0) hf first (fun a w h => wp_seq (wp_skip (pass a w h)))
end

/-- A day's text: so many digits, a name, four digits. -/
def readDayR (k : Nat) (l : List UInt8) : Option (Int × List UInt8) :=
  match numR (l.take k) k k with
  | none => none
  | some d =>
    if (l.drop k).head? = some 45 then
      if monR (((l.drop k).drop 1).take 3) = 0 then none
      else if (((l.drop k).drop 1).drop 3).head? = some 45 then
        match numR (((((l.drop k).drop 1).drop 3).drop 1).take 4) 4 4 with
        | none => none
        | some y =>
          if vldB y (monR (((l.drop k).drop 1).take 3)) d then some (num y (monR (((l.drop k).drop 1).take 3)) d, ((((l.drop k).drop 1).drop 3).drop 1).drop 4) else none
      else none
    else none

theorem behind_yes {c : UInt8} {l : ByteArray} (h : l.data.toList.head? = some c) : behindB c l = bts (l.data.toList.drop 1) := by
  unfold behindB; rw [if_pos h]; exact ext_list (by rw [toList_from, toList_bts])
theorem behind_no {c : UInt8} {l : ByteArray} (h : ¬ l.data.toList.head? = some c) : behindB c l = l := by
  unfold behindB; rw [if_neg h]

theorem LTab.belowB {w w' : World} {b : Nat} (h : LTab w) (hb : Below b w w') (hg : 1 < b) : LTab w' := by
  have hz := hb.size
  have h5 := h.size
  refine ⟨by omega, fun j hj => ?_⟩
  rw [hb.cell (p := ⟨1, j, none⟩) hg]; exact h.cells j hj

/-- What is so where no day is read. -/
def NoDay (b : Nat) (s z : Int) (w w' : World) : Prop := ∃ d' l', Mom w' b d' s z l' ∧ Below b w w'
def JDay (b : Nat) (s z : Int) (w : World) (k : Nat) (l : List UInt8) (a' : Act) (w' : World) : Prop :=
  ∃ u : Nat → Value, a' = { tmps := #[u 0, u 1, u 2, u 3, u 4, u 5, u 6, u 7, u 8, u 9, u 10, u 11, u 12, u 13, u 14, u 15, u 16, u 17, u 18, u 19, u 20, u 21, u 22, u 23, u 24, u 25, u 26, u 27, u 28, u 29, u 30, u 31, u 32, u 33, u 34, u 35, u 36, u 37, u 38, u 39, u 40, u 41, u 42, u 43, u 44, u 45, u 46, u 47, u 48, u 49, u 50, u 51, u 52, u 53, u 54, u 55, u 56, u 57, u 58, u 59], defers := [] } ∧ Hid (readDayR k l = none ∧ NoDay b s z w w')
theorem JDay.mk {b : Nat} {s z : Int} {w : World} {k : Nat} {l : List UInt8} {a' : Act} {w' : World}
    (ha : a' = { tmps := #[a'.tmps.getD 0 undef, a'.tmps.getD 1 undef, a'.tmps.getD 2 undef, a'.tmps.getD 3 undef, a'.tmps.getD 4 undef, a'.tmps.getD 5 undef, a'.tmps.getD 6 undef, a'.tmps.getD 7 undef, a'.tmps.getD 8 undef, a'.tmps.getD 9 undef, a'.tmps.getD 10 undef, a'.tmps.getD 11 undef, a'.tmps.getD 12 undef, a'.tmps.getD 13 undef, a'.tmps.getD 14 undef, a'.tmps.getD 15 undef, a'.tmps.getD 16 undef, a'.tmps.getD 17 undef, a'.tmps.getD 18 undef, a'.tmps.getD 19 undef, a'.tmps.getD 20 undef, a'.tmps.getD 21 undef, a'.tmps.getD 22 undef, a'.tmps.getD 23 undef, a'.tmps.getD 24 undef, a'.tmps.getD 25 undef, a'.tmps.getD 26 undef, a'.tmps.getD 27 undef, a'.tmps.getD 28 undef, a'.tmps.getD 29 undef, a'.tmps.getD 30 undef, a'.tmps.getD 31 undef, a'.tmps.getD 32 undef, a'.tmps.getD 33 undef, a'.tmps.getD 34 undef, a'.tmps.getD 35 undef, a'.tmps.getD 36 undef, a'.tmps.getD 37 undef, a'.tmps.getD 38 undef, a'.tmps.getD 39 undef, a'.tmps.getD 40 undef, a'.tmps.getD 41 undef, a'.tmps.getD 42 undef, a'.tmps.getD 43 undef, a'.tmps.getD 44 undef, a'.tmps.getD 45 undef, a'.tmps.getD 46 undef, a'.tmps.getD 47 undef, a'.tmps.getD 48 undef, a'.tmps.getD 49 undef, a'.tmps.getD 50 undef, a'.tmps.getD 51 undef, a'.tmps.getD 52 undef, a'.tmps.getD 53 undef, a'.tmps.getD 54 undef, a'.tmps.getD 55 undef, a'.tmps.getD 56 undef, a'.tmps.getD 57 undef, a'.tmps.getD 58 undef, a'.tmps.getD 59 undef], defers := [] }) (h : readDayR k l = none) (d' : Int) (l' : ByteArray) (hm : Mom w' b d' s z l') (hb : Below b w w') : JDay b s z w k l a' w' :=
  ⟨fun i => a'.tmps.getD i undef, ha, h, d', l', hm, hb⟩

theorem setB {b : Nat} {w w1 : World} (h : Below b w w1) (i : Nat) (v : Value) : Below b w (w1.setCell ⟨b, i, none⟩ v) := h.setCell (p := ⟨b, i, none⟩) (Nat.le_refl _) v

theorem size_drop (l : List UInt8) (k n : Nat) (h : l.length ≤ n) : (bts (l.drop k)).size ≤ n := by
  rw [size_bts, List.length_drop]; omega

end Go.Proofs.YtdallfakfhajdaaGreatDoor
