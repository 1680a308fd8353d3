/-
  What Bytes of mime does, over this seat's program.
-/
import Derived.Test.YtedpimhhbajljaaGreatDoorMmg
import Derived.Test.YtedpimhhbajljaaGreatDoorBnd5
import Derived.Test.YtedpimhhbajljaaGreatDoorBnd4
import Derived.Deep.Cut
set_option linter.unusedVariables false
set_option linter.unusedSimpArgs false
namespace Go.Proofs.YtedpimhhbajljaaGreatDoor
open Go.RowKit Go.Proofs.Enc

/-- What Bytes tells of a part with the coding d and the body b. -/
def byP (d b : ByteArray) : ByteArray × Int :=
  if d = ⟨#[98, 97, 115, 101, 54, 52]⟩ then (bts (from64 0 0 b.data.toList).1, (from64 0 0 b.data.toList).2)
  else if d = ⟨#[113, 117, 111, 116, 101, 100, 45, 112, 114, 105, 110, 116, 97, 98, 108, 101]⟩ then (bts (fq b.data.toList).1, (fq b.data.toList).2)
  else (b, 0)

theorem byP_size (d b : ByteArray) : (byP d b).1.size ≤ b.size := by
  have h0 := sizeL b
  unfold byP
  split
  · have h := from_len b.data.toList 0 0 rfl
    simp only [size_bts]; omega
  · split
    · have h := fq_len b.data.toList
      simp only [size_bts]; omega
    · simp

theorem below_allocB {w w' : World} {o : Obj} (h : Below (w.alloc o).heap.size (w.alloc o) w') : Below w.heap.size w w' := ((Below.refl _ w).alloc (Nat.le_refl _) o).trans (h.mono (by simp))
set_option maxHeartbeats 4000000 in
set_option maxRecDepth 100000 in
theorem bytesM_any (lv : Int) (t c d b : ByteArray) (w : World) (hs : b.size ≤ 1099511627776) :
    Calls Tryz.prog 23 #[.agg #[.int .i64 lv, .string t, .string c, .string d, .string b]] w fun e w' => e = .returned (.tuple #[.string (byP d b).1, .int .i64 (byP d b).2]) ∧ Below w.heap.size w w' := by
  have HF := hide (fun W => from64_any b W hs)
  have HQ := hide (fun W => fromQuoted_any b W hs)
  have HC := hide (fun W => cloneS_any b W (by omega))
  unfold byP
  by_cases h1 : d = ⟨#[98, 97, 115, 101, 54, 52]⟩
  · have d1 : (d.toList == [98, 97, 115, 101, 54, 52]) = true := by rw [h1, ByteArray.toList_eq]; rfl
    rw [if_pos h1]
    clear h1
    go_enter Tryz.func23, Tryz.ntmps23
    go_wp2_with fail
    refine (unhide HF _).mono ?_
    rintro e w1 ⟨rfl, b1⟩
    have B1 := hide (below_allocB b1)
    clear b1 HF HQ HC
    go_wp2
    go_ret2
    exact ⟨rfl, unhide B1⟩
  · have d1 : (d.toList == [98, 97, 115, 101, 54, 52]) = false := by
      rw [show ([98, 97, 115, 101, 54, 52] : List UInt8) = (ByteArray.mk #[98, 97, 115, 101, 54, 52]).toList by rw [ByteArray.toList_eq], beqS]; exact decide_eq_false h1
    rw [if_neg h1]
    clear h1
    by_cases h2 : d = ⟨#[113, 117, 111, 116, 101, 100, 45, 112, 114, 105, 110, 116, 97, 98, 108, 101]⟩
    · have d2 : (d.toList == [113, 117, 111, 116, 101, 100, 45, 112, 114, 105, 110, 116, 97, 98, 108, 101]) = true := by rw [h2, ByteArray.toList_eq]; rfl
      rw [if_pos h2]
      clear h2
      go_enter Tryz.func23, Tryz.ntmps23
      go_wp2_with fail
      refine (unhide HQ _).mono ?_
      rintro e w1 ⟨rfl, b1⟩
      have B1 := hide (below_allocB b1)
      clear b1 HF HQ HC
      go_wp2
      go_ret2
      exact ⟨rfl, unhide B1⟩
    · have d2 : (d.toList == [113, 117, 111, 116, 101, 100, 45, 112, 114, 105, 110, 116, 97, 98, 108, 101]) = false := by
        rw [show ([113, 117, 111, 116, 101, 100, 45, 112, 114, 105, 110, 116, 97, 98, 108, 101] : List UInt8) = (ByteArray.mk #[113, 117, 111, 116, 101, 100, 45, 112, 114, 105, 110, 116, 97, 98, 108, 101]).toList by rw [ByteArray.toList_eq], beqS]; exact decide_eq_false h2
      rw [if_neg h2]
      clear h2
      go_enter Tryz.func23, Tryz.ntmps23
      go_wp2_with fail
      refine (unhide HC _).mono ?_
      rintro e w1 ⟨rfl, b1⟩
      have B1 := hide (below_allocB b1)
      clear b1 HF HQ HC
      go_wp2
      go_ret2
      exact ⟨rfl, unhide B1⟩

end Go.Proofs.YtedpimhhbajljaaGreatDoor
