/-
  Proved: missivelaw01.VariFew answers true for every two uint64 and every int, and leaves its arguments as they were; no condition.
-/
import Derived.Test.YtekcbkaanlngdaaRows
import Derived.Test.YtekcbkaanlngdaaSiz
import Derived.ProofKit
import Derived.OpenShut
import Derived.ShutString
import Derived.ChangeOld
import Derived.Below
import Derived.SizedLaws
set_option linter.unusedVariables false
namespace Go.Proofs.Ytekcbkaanlngdaa.variFew
open Go.ChangeShapes Go.WideShapes Go.ChangeAt Go.RowKit Go.Proofs.Num
open Go.ChangeMaps (open_string shut_string)

theorem len_mono {a b : Nat} (h : a ≤ b) : (putL a).length ≤ (putL b).length := by
  obtain ⟨m, hm⟩ : ∃ m, (putL b).length = m + 1 := ⟨(putL b).length - 1, by have := putL_pos b; omega⟩
  have hb := (putL_len m b).1 (by omega)
  have := (putL_len m a).2 (by omega)
  omega

theorem len_shift (a k : Nat) (h1 : 1 ≤ k) : (a / 2 ^ (7 * k) = 0) ↔ (putL a).length ≤ k := by
  obtain ⟨m, rfl⟩ : ∃ m, k = m + 1 := ⟨k - 1, by omega⟩
  rw [putL_len m a, Nat.div_eq_zero_iff]
  have := Nat.two_pow_pos (7 * (m + 1))
  omega

set_option maxHeartbeats 1000000 in
theorem walk (a0 : Int) (a1 : Int) (a2 : Int) (w : World) (w0 : (Lit.int .u64 a0).wf = true) (w1 : (Lit.int .u64 a1).wf = true) (w2 : (Lit.int .i64 a2).wf = true) :
    Calls Try.prog 7 #[.int .u64 a0, .int .u64 a1, .int .i64 a2] w fun e w' => e = .returned (.bool true) ∧ Below w.heap.size w w' := by
  have b0 := bounds_u64 w0
  have b1 := bounds_u64 w1
  have b2 := bounds_i64 w2
  clear w0 w1 w2
  obtain ⟨a, rfl⟩ := Int.eq_ofNat_of_zero_le b0.1
  obtain ⟨b, rfl⟩ := Int.eq_ofNat_of_zero_le b1.1
  have p1 := putL_pos a
  have p2 := putL_pos b
  have p3 := putL_len10 (n := a) (by omega)
  have p4 := putL_len10 (n := b) (by omega)
  by_cases hk1 : a2 < 1
  · rcases Nat.lt_trichotomy a b with h | h | h
    · have hb : ((a : Int) == (b : Int)) = false := by simp; omega
      go_enter Try.func7, Try.ntmps7
      go_wp2_with fail
      refine (numbers_any _).mono ?_
      rintro e w1 ⟨rfl, c1⟩
      go_wp2_with fail
      refine (size_any _ _ (by omega)).mono ?_
      rintro e w2 ⟨rfl, rfl⟩
      go_wp2_with fail
      refine (size_any _ _ (by omega)).mono ?_
      rintro e w2 ⟨rfl, rfl⟩
      go_wp2
      go_ret
      exact ⟨ret_bool (by simp; omega), c1⟩
    · subst h
      go_enter Try.func7, Try.ntmps7
      go_wp2_with fail
      refine (numbers_any _).mono ?_
      rintro e w1 ⟨rfl, c1⟩
      go_wp2_with fail
      refine (size_any _ _ (by omega)).mono ?_
      rintro e w2 ⟨rfl, rfl⟩
      go_wp2_with fail
      refine (size_any _ _ (by omega)).mono ?_
      rintro e w2 ⟨rfl, rfl⟩
      go_wp2
      go_ret
      exact ⟨ret_bool (by simp; omega), c1⟩
    · have hb : ((a : Int) == (b : Int)) = false := by simp; omega
      go_enter Try.func7, Try.ntmps7
      go_wp2_with fail
      refine (numbers_any _).mono ?_
      rintro e w1 ⟨rfl, c1⟩
      go_wp2_with fail
      refine (size_any _ _ (by omega)).mono ?_
      rintro e w2 ⟨rfl, rfl⟩
      go_wp2_with fail
      refine (size_any _ _ (by omega)).mono ?_
      rintro e w2 ⟨rfl, rfl⟩
      go_wp2
      go_ret
      exact ⟨ret_bool (by simp; omega), c1⟩
  · by_cases hk2 : 9 < a2
    · rcases Nat.lt_trichotomy a b with h | h | h
      · have hb : ((a : Int) == (b : Int)) = false := by simp; omega
        go_enter Try.func7, Try.ntmps7
        go_wp2_with fail
        refine (numbers_any _).mono ?_
        rintro e w1 ⟨rfl, c1⟩
        go_wp2_with fail
        refine (size_any _ _ (by omega)).mono ?_
        rintro e w2 ⟨rfl, rfl⟩
        go_wp2_with fail
        refine (size_any _ _ (by omega)).mono ?_
        rintro e w2 ⟨rfl, rfl⟩
        go_wp2
        go_ret
        exact ⟨ret_bool (by simp; omega), c1⟩
      · subst h
        go_enter Try.func7, Try.ntmps7
        go_wp2_with fail
        refine (numbers_any _).mono ?_
        rintro e w1 ⟨rfl, c1⟩
        go_wp2_with fail
        refine (size_any _ _ (by omega)).mono ?_
        rintro e w2 ⟨rfl, rfl⟩
        go_wp2_with fail
        refine (size_any _ _ (by omega)).mono ?_
        rintro e w2 ⟨rfl, rfl⟩
        go_wp2
        go_ret
        exact ⟨ret_bool (by simp; omega), c1⟩
      · have hb : ((a : Int) == (b : Int)) = false := by simp; omega
        go_enter Try.func7, Try.ntmps7
        go_wp2_with fail
        refine (numbers_any _).mono ?_
        rintro e w1 ⟨rfl, c1⟩
        go_wp2_with fail
        refine (size_any _ _ (by omega)).mono ?_
        rintro e w2 ⟨rfl, rfl⟩
        go_wp2_with fail
        refine (size_any _ _ (by omega)).mono ?_
        rintro e w2 ⟨rfl, rfl⟩
        go_wp2
        go_ret
        exact ⟨ret_bool (by simp; omega), c1⟩
    · obtain ⟨k, rfl⟩ := Int.eq_ofNat_of_zero_le (show 0 ≤ a2 by omega)
      have hs := len_shift a k (by omega)
      by_cases hl : (putL a).length ≤ k
      · have hd : ((a : Int) / 2 ^ (7 * k) == 0) = true := by rw [beq_iff_eq]; exact_mod_cast hs.2 hl
        clear hs
        rcases Nat.lt_trichotomy a b with h | h | h
        · have hm := len_mono (show a ≤ b by omega)
          go_enter Try.func7, Try.ntmps7
          go_wp2_with fail
          refine (numbers_any _).mono ?_
          rintro e w1 ⟨rfl, c1⟩
          go_wp2_with fail
          refine (size_any _ _ (by omega)).mono ?_
          rintro e w2 ⟨rfl, rfl⟩
          go_wp2_with fail
          refine (size_any _ _ (by omega)).mono ?_
          rintro e w2 ⟨rfl, rfl⟩
          go_wp2
          go_ret
          exact ⟨rfl, c1⟩
        · subst h
          go_enter Try.func7, Try.ntmps7
          go_wp2_with fail
          refine (numbers_any _).mono ?_
          rintro e w1 ⟨rfl, c1⟩
          go_wp2_with fail
          refine (size_any _ _ (by omega)).mono ?_
          rintro e w2 ⟨rfl, rfl⟩
          go_wp2_with fail
          refine (size_any _ _ (by omega)).mono ?_
          rintro e w2 ⟨rfl, rfl⟩
          go_wp2
          go_ret
          exact ⟨rfl, c1⟩
        · have hm := len_mono (show b ≤ a by omega)
          go_enter Try.func7, Try.ntmps7
          go_wp2_with fail
          refine (numbers_any _).mono ?_
          rintro e w1 ⟨rfl, c1⟩
          go_wp2_with fail
          refine (size_any _ _ (by omega)).mono ?_
          rintro e w2 ⟨rfl, rfl⟩
          go_wp2_with fail
          refine (size_any _ _ (by omega)).mono ?_
          rintro e w2 ⟨rfl, rfl⟩
          go_wp2
          go_ret
          exact ⟨rfl, c1⟩
      · have hd : ((a : Int) / 2 ^ (7 * k) == 0) = false := by
          rw [beq_eq_false_iff_ne]
          intro hh
          exact hl (hs.1 (by exact_mod_cast hh))
        clear hs
        rcases Nat.lt_trichotomy a b with h | h | h
        · have hm := len_mono (show a ≤ b by omega)
          go_enter Try.func7, Try.ntmps7
          go_wp2_with fail
          refine (numbers_any _).mono ?_
          rintro e w1 ⟨rfl, c1⟩
          go_wp2_with fail
          refine (size_any _ _ (by omega)).mono ?_
          rintro e w2 ⟨rfl, rfl⟩
          go_wp2_with fail
          refine (size_any _ _ (by omega)).mono ?_
          rintro e w2 ⟨rfl, rfl⟩
          go_wp2
          go_ret
          exact ⟨rfl, c1⟩
        · subst h
          go_enter Try.func7, Try.ntmps7
          go_wp2_with fail
          refine (numbers_any _).mono ?_
          rintro e w1 ⟨rfl, c1⟩
          go_wp2_with fail
          refine (size_any _ _ (by omega)).mono ?_
          rintro e w2 ⟨rfl, rfl⟩
          go_wp2_with fail
          refine (size_any _ _ (by omega)).mono ?_
          rintro e w2 ⟨rfl, rfl⟩
          go_wp2
          go_ret
          exact ⟨rfl, c1⟩
        · have hm := len_mono (show b ≤ a by omega)
          go_enter Try.func7, Try.ntmps7
          go_wp2_with fail
          refine (numbers_any _).mono ?_
          rintro e w1 ⟨rfl, c1⟩
          go_wp2_with fail
          refine (size_any _ _ (by omega)).mono ?_
          rintro e w2 ⟨rfl, rfl⟩
          go_wp2_with fail
          refine (size_any _ _ (by omega)).mono ?_
          rintro e w2 ⟨rfl, rfl⟩
          go_wp2
          go_ret
          exact ⟨rfl, c1⟩

theorem own : ownKnob Try.prog.godebug = none := by kernel_rfl
theorem laidOut : laidOutB Try.prog = true := by kernel_rfl

set_option maxRecDepth 100000 in
theorem lifted (os : Os) (started : os.Started) (H : Type) (enc : TypeId × Value → H) :
    ReturnsInHanded {} Try.checked os 7 .any (Rows.variFewSpec.pre6 enc Try.prog Try.f7 Rows.variFewRow.domain false) (Rows.variFewSpec.post enc Try.prog Try.f7 false true false false) := by
  refine returnsInHanded_of_change_sized (C := Try.checked) own started (by kernel_rfl) Try.func7
    (ChangeSpec.witness6 (enc := enc) (C := Try.checked) false ⟨#[], #[.int .u64 0, .int .u64 0, .int .i64 0], []⟩ 8 (by kernel_rfl) (by kernel_rfl) (by kernel_rfl) (by kernel_rfl)) ?_
  intro W base args ds gs before hval0 hW hcnd hsz0 _
  have hval : ∀ (j : Nat) t v, Try.f7.params[j]? = some t → args[j]? = some v → Value.okWide Try.prog W .any base t v := hval0
  have hsz : (DataW.weightsEach Try.prog (Try.f7.params.toList ++ Rows.variFewSpec.plain.varTypes Try.prog) (ds ++ gs)).all (· ≤ reachBytes) = true := hsz0
  have hW' := hW
  obtain ⟨p, q, hA0, hV, rfl, hfz, hnd⟩ := hW
  have hA : DataW.TrodAll enc Try.prog W 0 (fun _ => true) true Try.f7.params.toList args.toList ds p := hA0
  rw [Try.params7] at hA hval hsz
  obtain ⟨v0, vs0, d0, ds0, p0, q0, hargs, rfl, rfl, h0, r0⟩ := trodAll_cons hA
  obtain ⟨v1, vs1, d1, ds1, p1, q1, rfl, rfl, rfl, h1, r1⟩ := trodAll_cons r0
  obtain ⟨v2, vs2, d2, ds2, p2, q2, rfl, rfl, rfl, h2, r2⟩ := trodAll_cons r1
  obtain ⟨rfl, rfl, rfl⟩ := trodAll_nil r2
  obtain rfl : args = #[v0, v1, v2] := by cases args; simp_all
  obtain ⟨rfl, rfl⟩ := trodVars_none hV
  obtain ⟨a0, rfl, rfl, rfl, w0⟩ := open_int Try.underlying22 (hval 0 22 v0 rfl rfl) h0
  obtain ⟨a1, rfl, rfl, rfl, w1⟩ := open_int Try.underlying22 (hval 1 22 v1 rfl rfl) h1
  obtain ⟨a2, rfl, rfl, rfl, w2⟩ := open_int Try.underlying3 (hval 2 3 v2 rfl rfl) h2
  clear hA0 hval0
  refine (walk a0 a1 a2 W w0 w1 w2).mono fun e W' ⟨he, bel⟩ => ?_
  subst he
  exact ⟨_, rfl, _, _, _, [], _, [], hW', trodAll_mk1 (shut_bool Try.underlying4 _), (trodAll_cons_mk (shut_int Try.underlying22 w0) (trodAll_cons_mk (shut_int Try.underlying22 w1) (trodAll_cons_mk (shut_int Try.underlying3 w2) trodAll_mk0))), rfl, bel.frame _, fun h => by cases h⟩

theorem over : Rows.variFewRow.holds Try.pinned (OpenSpec.ofChange Rows.variFewSpec) :=
  OpenClaim.holds_of_wide 7 Try.f7 rfl rfl rfl rfl rfl rfl rfl ⟨rfl, rfl, rfl, rfl, rfl⟩ rfl rfl rfl rfl rfl (by kernel_rfl) Try.func7 (by kernel_rfl)
    (of_decide_eq_true (by kernel_rfl)) (by unfold Func.isWrapper; first | (rw [if_pos (by decide +kernel)]; kernel_rfl) | (rw [if_neg (by decide +kernel)]; exact ⟨rfl, rfl⟩))
    (fun os started H enc _ => lifted os started H enc)

end Go.Proofs.Ytekcbkaanlngdaa.variFew
namespace Go.Proofs.Ytekcbkaanlngdaa
/-- The statement. -/
theorem variFew_holds : Rows.VariFewSaid := variFew.over
#print axioms variFew_holds
end Go.Proofs.Ytekcbkaanlngdaa
