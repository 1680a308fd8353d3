/-
  Proved: missivelaw05.EncParts answers true for every string and every int, and leaves its arguments as they were, where what they hold together is of bulk at most 1048576; no other condition.
-/
import Derived.Test.YtoofggofpdlccaaRows
import Derived.Test.YtoofggofpdlccaaLvs
import Derived.Deep.RegionWith
import Derived.ProofKit
import Derived.OpenShut
import Derived.ShutString
import Derived.ChangeOld
import Derived.Below
import Derived.JoinedCond
set_option linter.unusedVariables false
namespace Go.Proofs.Ytoofggofpdlccaa.encParts
open Go.ChangeShapes Go.WideShapes Go.ChangeAt Go.RowKit Go.Proofs.Enc
open Go.ChangeMaps (open_string shut_string)

set_option maxHeartbeats 1000000 in
set_option maxRecDepth 100000 in
theorem walk (a0 : ByteArray) (a1 : Int) (w : World) (w1 : (Lit.int .i64 a1).wf = true) (hsum : a0.size ≤ 1048576) :
    Calls Try.prog 7 #[.string a0, .int .i64 a1] w fun e w' => e = .returned (.bool true) ∧ Below w.heap.size w w' := by
  have b1 := bounds_i64 w1
  go_enter Try.func7, Try.ntmps7
  go_wp2_with fail
  refine (lives_any _).mono ?_
  rintro e w2 ⟨rfl, b2⟩
  by_cases hneg : a1 < 0
  · go_wp2
    go_ret
    exact ⟨rfl, b2⟩
  · by_cases hgt : (a0.size : Int) < a1
    · go_wp2
      go_ret
      exact ⟨rfl, b2⟩
    · obtain ⟨k, rfl⟩ : ∃ k : Nat, a1 = (k : Int) := ⟨a1.toNat, by omega⟩
      by_cases hm : k % 3 = 0
      · have hb : (((k : Int) % 3) != 0) = false := by simp; omega
        have hb2 : (((k : Int).tmod 3) != 0) = false := by rw [Int.tmod_eq_emod_of_nonneg (by omega)]; exact hb
        have hk : k ≤ a0.size := by omega
        have hs1 := slice_upto a0 k k rfl hk
        have hs2 := slice_from a0 k k rfl hk
        have C0 := fun W => base64_any a0 W (by omega)
        have C1 := fun W => base64_any (a0.extract 0 k) W (by rw [size_part _ _ _ hk]; omega)
        have C2 := fun W => base64_any (a0.extract k a0.size) W (by rw [size_part _ _ _ (Nat.le_refl _)]; omega)
        rw [toList_upto] at C1
        rw [toList_from] at C2
        have hfin : bts (b64 a0.data.toList) = bts (b64 (a0.data.toList.take k)) ++ bts (b64 (a0.data.toList.drop k)) := by
          apply ext_list
          rw [ByteArray.data_append, Array.toList_append, toList_bts, toList_bts, toList_bts, ← b64_parts _ _ (by rw [List.length_take, sizeL]; omega), List.take_append_drop]
        have hq : (bts (b64 (a0.data.toList.take k))).size + (bts (b64 (a0.data.toList.drop k))).size ≤ 9223372036854775807 := by
          rw [size_bts, size_bts, b64_length, b64_length, List.length_take, List.length_drop, sizeL]
          omega
        have HC0 := hide C0
        have HC1 := hide C1
        have HC2 := hide C2
        have HF := hide hfin
        clear C0 C1 C2 hfin
        generalize a0.extract 0 k = t1 at hs1 HC1
        generalize a0.extract k a0.size = t2 at hs2 HC2
        generalize bts (b64 a0.data.toList) = x0 at HC0 HF
        generalize bts (b64 (a0.data.toList.take k)) = x1 at HC1 HF hq
        generalize bts (b64 (a0.data.toList.drop k)) = x2 at HC2 HF hq
        clear hsum
        go_wp2
        go_region_with (first | (go_at_call_of 13 (Value.string a0); refine (unhide HC0 _).mono ?_; rintro e w3 ⟨rfl, b3⟩) | (go_at_call_of 13 (Value.string t1); refine (unhide HC1 _).mono ?_; rintro e w4 ⟨rfl, b4⟩) | (go_at_call_of 13 (Value.string t2); refine (unhide HC2 _).mono ?_; rintro e w5 ⟨rfl, b5⟩))
        have hbq : (x0.toList == (x1 ++ x2).toList) = true := by rw [unhide HF]; simp
        go_simp
        go_wp2
        go_ret
        exact ⟨rfl, belows' (belows' (belows' b2 (below_drew0 b3)) b4) b5⟩
      · have hb : (((k : Int) % 3) != 0) = true := by simp; omega
        have hb2 : (((k : Int).tmod 3) != 0) = true := by rw [Int.tmod_eq_emod_of_nonneg (by omega)]; exact hb
        go_wp2
        go_ret
        exact ⟨rfl, b2⟩

theorem own : ownKnob Try.prog.godebug = none := by kernel_rfl

set_option maxRecDepth 100000 in
theorem contract (H : Type) (enc : TypeId × Value → H) (W : World) (base : Nat) (args : Array Value) (ds gs : List (DataW H)) (before : List MemPlace)
    (hval : ∀ (j : Nat) t v, Try.f7.params[j]? = some t → args[j]? = some v → Value.okWide Try.prog W .any base t v)
    (hW : DataW.Whole enc Try.prog Try.f7.params.toList Rows.encPartsSpec.vars false W args.toList ds gs before) (hk : Rows.uptoSmall H (ds ++ gs) = true) :
    Calls Try.prog 7 args W fun e W' => ∃ v, e = .returned v ∧ Rows.encPartsSpec.post enc Try.prog Try.f7 false true false false W args v W' := by
  have hW' := hW
  obtain ⟨p, q, hA0, hV, rfl, hfz, hnd⟩ := hW
  have hA : DataW.TrodAll enc Try.prog W 0 (fun _ => true) true Try.f7.params.toList args.toList ds p := hA0
  rw [Try.params7] at hA hval
  obtain ⟨v0, vs0, d0, ds0, p0, q0, hargs, rfl, rfl, h0, r0⟩ := trodAll_cons hA
  obtain ⟨v1, vs1, d1, ds1, p1, q1, rfl, rfl, rfl, h1, r1⟩ := trodAll_cons r0
  obtain ⟨rfl, rfl, rfl⟩ := trodAll_nil r1
  obtain rfl : args = #[v0, v1] := by cases args; simp_all
  obtain ⟨rfl, rfl⟩ := trodVars_none hV
  obtain ⟨a0, rfl, rfl, rfl, w0⟩ := open_string Try.underlying9 (hval 0 9 v0 rfl rfl) h0
  obtain ⟨a1, rfl, rfl, rfl, w1⟩ := open_int Try.underlying3 (hval 1 3 v1 rfl rfl) h1
  have hsum : a0.size ≤ 1048576 := by
    have h := of_decide_eq_true hk
    simp only [List.append_nil, Rows.uptoBulkAll, Rows.uptoBulk] at h
    have e0 := sizeL a0
    omega
  clear hA0
  refine (walk a0 a1 W w1 hsum).mono fun e W' ⟨he, bel⟩ => ?_
  subst he
  exact ⟨_, rfl, _, _, _, [], _, [], hW', trodAll_mk1 (shut_bool Try.underlying4 _), (trodAll_cons_mk (shut_string Try.underlying9 w0) (trodAll_cons_mk (shut_int Try.underlying3 w1) trodAll_mk0)), rfl, bel.frame _, fun h => by cases h⟩

set_option maxRecDepth 100000 in
theorem lifted (os : Os) (started : os.Started) (H : Type) (enc : TypeId × Value → H) (F : Stop.Interp) :
    ReturnsInHanded {} Try.checked os 7 .any ((Rows.OpenSpec.upto Rows.encPartsSpec).pre6 enc Try.prog Try.f7 Rows.encPartsUptoRow.domain false) (((Rows.OpenSpec.upto Rows.encPartsSpec).at F).post enc Try.prog Try.f7 false true false false) := by
  refine returnsInHanded_of_cond (C := Try.checked) (s := Rows.OpenSpec.upto Rows.encPartsSpec) (k := Rows.uptoSmall) rfl own started (by kernel_rfl) Try.func7
    (OpenSpec.witness (enc := enc) (C := Try.checked) (s := Rows.OpenSpec.upto Rows.encPartsSpec) (k := Rows.uptoSmall) rfl false ⟨#[], #[.string ByteArray.empty, .int .i64 0], []⟩ 8 (by kernel_rfl) (by kernel_rfl) (by kernel_rfl)
      (x := ([.lit (.string []), .lit (.int .i64 0)], [], [])) (by kernel_rfl) rfl (by kernel_rfl)) ?_
  intro W base args ds gs before hval hW _ hk _
  exact contract H enc W base args ds gs before hval hW hk

theorem over : Rows.encPartsUptoRow.holds Try.pinned (Rows.OpenSpec.upto Rows.encPartsSpec) :=
  OpenClaim.holds_of_cond 7 Try.f7 rfl rfl rfl rfl rfl rfl rfl ⟨rfl, rfl, rfl, rfl, rfl⟩ rfl rfl rfl rfl rfl (by kernel_rfl) Try.func7 (by kernel_rfl)
    (of_decide_eq_true (by kernel_rfl)) (by unfold Func.isWrapper; first | (rw [if_pos (by decide +kernel)]; kernel_rfl) | (rw [if_neg (by decide +kernel)]; exact ⟨rfl, rfl⟩))
    (fun os started H enc _ F => lifted os started H enc F)

end Go.Proofs.Ytoofggofpdlccaa.encParts
namespace Go.Proofs.Ytoofggofpdlccaa
/-- The statement, in its second form. -/
theorem encParts_holds : Rows.EncPartsUptoSaid := encParts.over
#print axioms encParts_holds
end Go.Proofs.Ytoofggofpdlccaa
