/-
  What missivelaw09.lives does, over this seat's program: it answers true.
-/
import Derived.Test.YtdallfakfhajdaaGreatDoorRsm
import Derived.Test.YtdallfakfhajdaaGreatDoorWen
import Derived.Test.YtdallfakfhajdaaGreatDoorWpm
set_option linter.unusedVariables false
namespace Go.Proofs.YtdallfakfhajdaaGreatDoor
open Go.RowKit Go.Proofs.Enc Go.Proofs.Rns

/-- The variables that the layer reads lie as the program's text lays them. -/
structure TabW (w : World) : Prop where
  tab : RTabN w
  err : ErrS w
  max : MaxL w
theorem TabW.below {w w' : World} (h : TabW w) (hb : Below w.heap.size w w') : TabW w' := ⟨h.tab.below hb, h.err.below hb, h.max.below hb⟩

def lvS : ByteArray := ⟨#[61, 63, 117, 116, 102, 45, 56, 63, 113, 63, 97, 95, 98, 63, 61, 32, 32, 61, 63, 108, 97, 116, 105, 110, 49, 42, 101, 110, 63, 66, 63, 54, 81, 61, 61, 63, 61, 32, 120]⟩
def lvR : ByteArray := ⟨#[32, 32, 61, 63, 108, 97, 116, 105, 110, 49, 42, 101, 110, 63, 66, 63, 54, 81, 61, 61, 63, 61, 32, 120]⟩
theorem lv_dec (w : World) (ht : TabW w) : Calls Tryz.prog 13 #[.string lvS] w fun e w' => ∃ v, e = .returned v ∧ RowI w' v [97, 32, 98, 233, 32, 120] ∧ Below w.heap.size w w' := by
  have h := decode_word lvS w ht.tab ht.err ht.max (by decide)
  rw [show (pcW lvS.data.toList).flatMap (·.1) = [97, 32, 98, 233, 32, 120] by decide +kernel] at h
  refine h.mono ?_
  rintro e w' ⟨v, rfl, ho, hb⟩
  exact ⟨v, rfl, own_rowI ho (by decide), hb⟩
theorem lv_words (w : World) (ht : TabW w) : Calls Tryz.prog 15 #[.string lvS] w fun e w' => e = .returned (.int .i64 2) ∧ Below w.heap.size w w' := by
  have h := words_word lvS w ht.tab ht.err ht.max (by decide)
  rw [show wdN (pcW lvS.data.toList) = 2 by decide +kernel] at h
  exact h
theorem lv_one (w : World) (ht : TabW w) : Calls Tryz.prog 9 #[.string lvS] w fun e w' => ∃ v, e = .returned (.tuple #[v, .string lvR, .int .i64 0]) ∧ RowI w' v [97, 32, 98] ∧ Below w.heap.size w w' := by
  have h := one_word lvS w ht.tab ht.err (by decide)
  rw [show oneW lvS.data.toList = ([97, 32, 98], lvR.data.toList, 0) by decide +kernel] at h
  refine h.mono ?_
  rintro e w' ⟨v, rfl, ho, hb⟩
  exact ⟨v, by rw [bts_toList]; rfl, own_rowI ho (by decide), hb⟩
theorem lv_koi (w : World) (ht : TabW w) : Calls Tryz.prog 9 #[.string ⟨#[61, 63, 107, 111, 105, 56, 63, 113, 63, 97, 63, 61]⟩] w fun e w' => ∃ v t, e = .returned (.tuple #[v, .string t, .int .i64 7]) ∧ Below w.heap.size w w' := by
  have h := one_word ⟨#[61, 63, 107, 111, 105, 56, 63, 113, 63, 97, 63, 61]⟩ w ht.tab ht.err (by decide)
  rw [show oneW (ByteArray.mk #[61, 63, 107, 111, 105, 56, 63, 113, 63, 97, 63, 61]).data.toList = ([], [], 7) by decide +kernel] at h
  refine h.mono ?_
  rintro e w' ⟨v, rfl, ho, hb⟩
  exact ⟨v, _, rfl, hb⟩
theorem lv_enc (w : World) (ht : TabW w) (a : Option Addr) (hv : RowI w (.slice a 3 3) [97, 32, 233]) : Calls Tryz.prog 17 #[.slice a 3 3, .bool false] w fun e w' => e = .returned (.tuple #[.string ⟨#[61, 63, 85, 84, 70, 45, 56, 63, 81, 63, 97, 95, 61, 67, 51, 61, 65, 57, 63, 61]⟩, .int .i64 0]) ∧ Below w.heap.size w w' := by
  have h := encodeW_any a 3 [97, 32, 233] false w ht.tab.toRTab hv (by decide) (by decide)
  rw [show encW false [97, 32, 233] = ([61, 63, 85, 84, 70, 45, 56, 63, 81, 63, 97, 95, 61, 67, 51, 61, 65, 57, 63, 61], 0) by decide +kernel] at h
  exact h
theorem lv_enc1 (w : World) (ht : TabW w) (a : Option Addr) (hv : RowI w (.slice a 1 1) [97]) : Calls Tryz.prog 17 #[.slice a 1 1, .bool true] w fun e w' => e = .returned (.tuple #[.string ⟨#[61, 63, 85, 84, 70, 45, 56, 63, 66, 63, 89, 81, 61, 61, 63, 61]⟩, .int .i64 0]) ∧ Below w.heap.size w w' := by
  have h := encodeW_any a 1 [97] true w ht.tab.toRTab hv (by decide) (by decide)
  rw [show encW true [97] = ([61, 63, 85, 84, 70, 45, 56, 63, 66, 63, 89, 81, 61, 61, 63, 61], 0) by decide +kernel] at h
  exact h
theorem alloc_below {w w' : World} (o : Obj) (h : Below (w.alloc o).heap.size (w.alloc o) w') : Below w.heap.size w w' :=
  belows' ((Below.refl _ w).alloc (Nat.le_refl _) o) h
end Go.Proofs.YtdallfakfhajdaaGreatDoor
