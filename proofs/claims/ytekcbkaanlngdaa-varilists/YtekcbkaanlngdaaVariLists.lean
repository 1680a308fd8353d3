/-
  Proved: missivelaw01.VariLists answers true for every list of uint32 and every string, and leaves its arguments as they were; no condition.
-/
import Derived.Test.YtekcbkaanlngdaaRows
import Derived.Test.YtekcbkaanlngdaaLsq
import Derived.ProofKit
import Derived.OpenShut
import Derived.ShutString
import Derived.ChangeOld
import Derived.Below
import Derived.SizedLaws
set_option linter.unusedVariables false
namespace Go.Proofs.Ytekcbkaanlngdaa.variLists
open Go.ChangeShapes Go.WideShapes Go.ChangeAt Go.RowKit Go.Proofs.Num
open Go.ChangeMaps (open_string shut_string)

theorem two_ways (s : ByteArray) {w1 w2 : World} {v1 v2 : Value} {x1 x2 : ByteArray} {c1 c2 : Nat} (h1 : ReadIs s w1 v1 x1 c1) (h2 : ReadIs s w2 v2 x2 c2) :
    ∃ l x, ∃ c : Nat, Row w1 v1 l ∧ Row w2 v2 l ∧ x1 = x ∧ x2 = x ∧ c1 = c ∧ c2 = c := by
  unfold ReadIs at h1 h2
  cases hr : readR s.data.toList with
  | error e =>
    rw [hr] at h1 h2
    obtain ⟨rfl, rfl, rfl⟩ := h1
    obtain ⟨rfl, rfl, rfl⟩ := h2
    exact ⟨[], _, _, ⟨none, 0, rfl, by simp, by simp, Or.inl rfl⟩, ⟨none, 0, rfl, by simp, by simp, Or.inl rfl⟩, rfl, rfl, rfl, rfl⟩
  | ok p =>
    obtain ⟨l, k⟩ := p
    rw [hr] at h1 h2
    obtain ⟨r1, rfl, rfl⟩ := h1
    obtain ⟨r2, rfl, rfl⟩ := h2
    exact ⟨l, _, _, r1, r2, rfl, rfl, rfl, rfl⟩

set_option maxHeartbeats 1000000 in
set_option maxRecDepth 100000 in
theorem walk (a0 : Option Addr) (len0 cap0 : Nat) (z0 : List Int) (a1 : ByteArray) (w : World) (w0 : IsRow .u32 w a0 len0 cap0 z0) (g1 : a1.size ≤ 140737488351232) :
    Calls Try.prog 5 #[.slice a0 len0 cap0, .string a1] w fun e w' => e = .returned (.bool true) ∧ Below w.heap.size w w' := by
  obtain ⟨l, hrow⟩ := row_of_isRow w0
  have HL := hide hrow
  clear hrow w0
  go_enter Try.func5, Try.ntmps5
  go_wp2_with fail
  refine (list_any _ l _ (unhide HL)).mono ?_
  rintro e w1 ⟨rfl, b1⟩
  go_wp2_with fail
  refine (refList_any _ l _ ((unhide HL).below b1)).mono ?_
  rintro e w2 ⟨rfl, b2⟩
  go_wp2_with fail
  refine (read_any a1 _ (by omega)).mono ?_
  rintro e w3 ⟨v, x, c, rfl, hr, b3⟩
  go_wp2_with fail
  refine (refRead_any a1 _ (by omega)).mono ?_
  rintro e w4 ⟨v', x', c', rfl, hr', b4⟩
  obtain ⟨r, y, d, hv, hv', rfl, rfl, rfl, rfl⟩ := two_ways a1 hr hr'
  have HV := hide (hv.below b4)
  have HV' := hide hv'
  clear hr hr' hv hv'
  go_wp2_with fail
  refine (lists_any _).mono ?_
  rintro e w5 ⟨rfl, b5⟩
  go_wp2_with fail
  refine (same_any v v' r r _ ((unhide HV).below b5) ((unhide HV').below b5)).mono ?_
  rintro e w6 ⟨rfl, b6⟩
  rw [show decide (r = r) = true by simp]
  go_wp2
  go_ret
  exact ⟨rfl, belows (belows (belows (belows (belows b1 b2) b3) b4) b5) b6⟩

theorem own : ownKnob Try.prog.godebug = none := by kernel_rfl
theorem laidOut : laidOutB Try.prog = true := by kernel_rfl

set_option maxRecDepth 100000 in
theorem lifted (os : Os) (started : os.Started) (H : Type) (enc : TypeId × Value → H) :
    ReturnsInHanded {} Try.checked os 5 .any (Rows.variListsSpec.pre6 enc Try.prog Try.f5 Rows.variListsRow.domain false) (Rows.variListsSpec.post enc Try.prog Try.f5 false true false false) := by
  refine returnsInHanded_of_change_sized (C := Try.checked) own started (by kernel_rfl) Try.func5
    (ChangeSpec.witness6 (enc := enc) (C := Try.checked) false ⟨#[], #[.slice none 0 0, .string ByteArray.empty], []⟩ 8 (by kernel_rfl) (by kernel_rfl) (by kernel_rfl) (by kernel_rfl)) ?_
  intro W base args ds gs before hval0 hW hcnd hsz0 _
  have hval : ∀ (j : Nat) t v, Try.f5.params[j]? = some t → args[j]? = some v → Value.okWide Try.prog W .any base t v := hval0
  have hsz : (DataW.weightsEach Try.prog (Try.f5.params.toList ++ Rows.variListsSpec.plain.varTypes Try.prog) (ds ++ gs)).all (· ≤ reachBytes) = true := hsz0
  have hW' := hW
  obtain ⟨p, q, hA0, hV, rfl, hfz, hnd⟩ := hW
  have hA : DataW.TrodAll enc Try.prog W 0 (fun _ => true) true Try.f5.params.toList args.toList ds p := hA0
  rw [Try.params5] at hA hval hsz
  obtain ⟨v0, vs0, d0, ds0, p0, q0, hargs, rfl, rfl, h0, r0⟩ := trodAll_cons hA
  obtain ⟨v1, vs1, d1, ds1, p1, q1, rfl, rfl, rfl, h1, r1⟩ := trodAll_cons r0
  obtain ⟨rfl, rfl, rfl⟩ := trodAll_nil r1
  obtain rfl : args = #[v0, v1] := by cases args; simp_all
  obtain ⟨rfl, rfl⟩ := trodVars_none hV
  obtain ⟨a0, len0, cap0, rfl⟩ := okWide_slice Try.underlying33 (hval 0 33 v0 rfl rfl)
  have k0 := h0
  have lt0 : ∀ x ∈ p0, x.block < W.heap.size := by obtain ⟨m, hm⟩ := k0; exact DataW.trod_lt m _ _ _ hm
  obtain ⟨z0, w0⟩ : ∃ zs, IsRow .u32 W a0 len0 cap0 zs := by
    obtain ⟨fuel, hf⟩ := h0
    rcases open_ints Try.underlying33 Try.underlying42 (by kernel_rfl) hf with ⟨hcs, _⟩ | ⟨x, l, c, zs, hcs, _, hl, hm, hz, _, hcell, hwz⟩
    · simp [Value.cells] at hcs
      obtain ⟨rfl, rfl, rfl⟩ := hcs
      exact ⟨[], .inl ⟨rfl, rfl, rfl, rfl⟩⟩
    · simp [Value.cells] at hcs
      obtain ⟨rfl, rfl, rfl⟩ := hcs
      exact ⟨zs, .inr ⟨_, rfl, hl, hm, by simpa using hz, hcell, hwz⟩⟩
  obtain ⟨a1, rfl, rfl, rfl, w1⟩ := open_string Try.underlying9 (hval 1 9 v1 rfl rfl) h1
  have g1 : a1.size ≤ 140737488351232 := by
    have := sized_string hsz (j := 1) (t := 9) rfl rfl
    simpa [reachBytes] using this
  clear hA0 hval0
  refine (walk a0 len0 cap0 z0 a1 W w0 g1).mono fun e W' ⟨he, bel⟩ => ?_
  subst he
  exact ⟨_, rfl, _, _, _, [], _, [], hW', trodAll_mk1 (shut_bool Try.underlying4 _), (trodAll_cons_mk (Below.trod laidOut (by kernel_rfl) (of_decide_eq_true (by kernel_rfl)) k0 bel lt0) (trodAll_cons_mk (shut_string Try.underlying9 w1) trodAll_mk0)), rfl, bel.frame _, fun h => by cases h⟩

theorem over : Rows.variListsRow.holds Try.pinned (OpenSpec.ofChange Rows.variListsSpec) :=
  OpenClaim.holds_of_wide 5 Try.f5 rfl rfl rfl rfl rfl rfl rfl ⟨rfl, rfl, rfl, rfl, rfl⟩ rfl rfl rfl rfl rfl (by kernel_rfl) Try.func5 (by kernel_rfl)
    (of_decide_eq_true (by kernel_rfl)) (by unfold Func.isWrapper; first | (rw [if_pos (by decide +kernel)]; kernel_rfl) | (rw [if_neg (by decide +kernel)]; exact ⟨rfl, rfl⟩))
    (fun os started H enc _ => lifted os started H enc)

end Go.Proofs.Ytekcbkaanlngdaa.variLists
namespace Go.Proofs.Ytekcbkaanlngdaa
/-- The statement. -/
theorem variLists_holds : Rows.VariListsSaid := variLists.over
#print axioms variLists_holds
end Go.Proofs.Ytekcbkaanlngdaa
