/-
  What strings.IndexRune tells of a letter that is not of ASCII in a text of two letters of ASCII, over this seat's program: there is none.
-/
import Derived.Test.YtdallfakfhajdaaGreatDoorBlc
import Derived.Scope
import Derived.Laws.RangeAny
import Derived.Laws.Runes
import Derived.Deep.QuietTactic
import Derived.BigQuiet
import Derived.WalkMore
set_option linter.unusedVariables false
namespace Go.Proofs.YtdallfakfhajdaaGreatDoor
open Go.RowKit

theorem iterB (w : World) (s : ByteArray) (k : Nat) : Below w.heap.size w (w.iter s k) := (Below.refl _ w).alloc (Nat.le_refl _) _

set_option maxHeartbeats 2000000 in
set_option maxRecDepth 100000 in
theorem indexRune_err (C : ByteArray) (w : World) (h2 : C.size = 2) (ha : ∀ (j : Nat) (h : j < C.size), (C[j]'h).toNat < 128) :
    Calls Tryz.prog 138 #[.string C, .int .i32 65533] w fun e w' => e = .returned (.int .i64 (-1)) ∧ Below w.heap.size w w' := by
  have HA := hide ha
  clear ha h2
  go_enter Tryz.func138, Tryz.ntmps138
  go_wp2
  go_loopg [5, 6] C.size (fun g _ _ wx => ∃ i : Nat, i + g = C.size ∧ wx = w.iter C i)
  case atStart => exact ⟨0, by omega, rfl⟩
  case round =>
    obtain ⟨i, hig, rfl⟩ := hrel
    cases gk with
    | zero =>
      obtain rfl : i = C.size := by omega
      have hnx := fun ty => run_next_end (P := Tryz.prog) w C C.size ty (by omega)
      go_wp2
      go_ret
      exact ⟨rfl, iterB _ _ _⟩
    | succ g =>
      have hi : i < C.size := by omega
      have hx := unhide HA i hi
      have hnx := fun ty => run_next_ascii (P := Tryz.prog) w C i ty hi hx
      obtain ⟨x, hxx⟩ : ∃ x : UInt8, C[i]'hi = x := ⟨_, rfl⟩
      rw [hxx] at hnx hx
      clear hxx
      have hne : ((x.toNat : Int) == 65533) = false := by rw [beq_eq_false_iff_ne]; omega
      go_wp2
      go_roundg g
      case measure => omega
      case rel => exact ⟨i + 1, by omega, rfl⟩

set_option maxHeartbeats 2000000 in
set_option maxRecDepth 100000 in
theorem indexRune_no (C : ByteArray) (r : Int) (w : World) (h128 : 128 ≤ r) (hne : r ≠ 65533) (hv : Lib.validRune r = false) :
    Calls Tryz.prog 138 #[.string C, .int .i32 r] w fun e w' => e = .returned (.int .i64 (-1)) ∧ Below w.heap.size w w' := by
  have HV := hide (fun W => Tryz.utf8_ValidRune r W)
  rw [hv] at HV
  have hne' : (r == 65533) = false := by rw [beq_eq_false_iff_ne]; exact hne
  have h0 : 0 ≤ r := by omega
  have h1 : ¬ r < 128 := by omega
  clear hne hv
  go_enter Tryz.func138, Tryz.ntmps138
  go_wp2_with fail
  refine (unhide HV _).mono ?_
  rintro e _ ⟨rfl, rfl⟩
  go_wp2
  go_ret
  exact ⟨rfl, Below.refl _ _⟩

set_option maxHeartbeats 2000000 in
set_option maxRecDepth 100000 in
theorem indexRune_yes (C : ByteArray) (r : Int) (w : World) (h128 : 128 ≤ r) (hne : r ≠ 65533) (hv : Lib.validRune r = true) (h2 : C.size = 2) (ha : ∀ (j : Nat) (h : j < C.size), (C[j]'h).toNat < 128) :
    Calls Tryz.prog 138 #[.string C, .int .i32 r] w fun e w' => e = .returned (.int .i64 (-1)) ∧ Below w.heap.size w w' := by
  have HV := hide (fun W => Tryz.utf8_ValidRune r W)
  rw [hv] at HV
  have hne' : (r == 65533) = false := by rw [beq_eq_false_iff_ne]; exact hne
  have h0 : 0 ≤ r := by omega
  have h1 : ¬ r < 128 := by omega
  obtain ⟨e1, e2, e3⟩ := encode_facts r (by rw [validRune_eq]; exact hv) h128
  clear hne hv
  obtain ⟨rs, hrs⟩ : ∃ rs, Utf8.encode r = rs := ⟨_, rfl⟩
  rw [hrs] at e1 e2
  by_cases h3 : rs.size = 2
  · have hl1 : 1 < rs.size := by omega
    have hr1 : 128 ≤ (rs[1]'hl1).toNat := by
      subst hrs
      have := e3 (by omega)
      simpa [h3] using this
    have c1 := ha 1 (by omega)
    obtain ⟨x, hx⟩ : ∃ x : UInt8, C[1]'(by omega) = x := ⟨_, rfl⟩
    obtain ⟨y, hy⟩ : ∃ y : UInt8, rs[1]'hl1 = y := ⟨_, rfl⟩
    rw [hx] at c1
    rw [hy] at hr1
    have hne2 : ((x.toNat : Int) == (y.toNat : Int)) = false := by rw [beq_eq_false_iff_ne]; omega
    have HIB := hide (fun W => Tryz.strings_IndexByte (C.extract 2 C.size) (y.toNat : Int) W)
    have hxt : C.extract 2 C.size = ⟨#[]⟩ := by
      apply ext_list
      rw [toList_from, List.drop_of_length_le (by rw [sizeL]; omega)]
    rw [hxt] at HIB
    have S1 := fun W => slice_from C 2 2 rfl (by omega) W
    rw [hxt] at S1
    rw [show Lib.indexByte (⟨#[]⟩ : ByteArray).data.toList ((y.toNat : Int)).toNat.toUInt8 = -1 from rfl] at HIB
    clear e1 e2 e3 ha hxt
    go_enter Tryz.func138, Tryz.ntmps138
    go_wp2_with fail
    refine (unhide HV _).mono ?_
    rintro e w ⟨rfl, rfl⟩
    go_wp2_with fail
    refine wp_scope_straight ?_
    go_wp2
    go_loopw [9] (fun i wr => i = .int .i64 1 ∧ wr = w) (fun _ _ => 0)
    case atStart => exact ⟨rfl, rfl⟩
    case round =>
      obtain ⟨rfl, rfl⟩ := hrel
      go_wp2
      refine wp_scope_straight ?_
      go_wp2
      go_quiet (fail)
      have HB : Hid (Below wr.heap.size wr (wr.drewN nq)) := hide ⟨rfl, rfl, rfl, Nat.le_refl _, fun _ _ => rfl⟩
      generalize wr.drewN nq = wz at HB ⊢
      have hw2 : IntKind.i64.wrap 2 = 2 := by decide
      go_wp2
      go_quiet ((go_at_call 97; exact Calls.quiet_of_same (unhide HIB _)))
      go_wp2
      simp +zetaDelta only [Exit.noGoto, Exit.inBlock, Exit.then]
      go_ret
      exact ⟨rfl, (unhide HB).trans ⟨rfl, rfl, rfl, Nat.le_refl _, fun _ _ => rfl⟩⟩
  · have hs3 : (2 : Int) < (rs.size : Int) := by omega
    have hs4 : (rs.size : Int) ≤ 4 := by omega
    clear e1 e2 e3 ha
    go_enter Tryz.func138, Tryz.ntmps138
    go_wp2_with fail
    refine (unhide HV _).mono ?_
    rintro e w ⟨rfl, rfl⟩
    go_wp2_with fail
    refine wp_scope_straight ?_
    go_wp2
    go_loopw [9] (fun i wr => i = .int .i64 ((rs.size : Int) - 1) ∧ wr = w) (fun _ _ => 0)
    case atStart => exact ⟨rfl, rfl⟩
    case round =>
      obtain ⟨rfl, rfl⟩ := hrel
      have hs5 : ¬ (rs.size : Int) - 1 < 2 := by omega
      go_wp2
      (try simp only [Exit.noGoto])
      go_ret
      exact ⟨rfl, Below.refl _ _⟩

end Go.Proofs.YtdallfakfhajdaaGreatDoor
