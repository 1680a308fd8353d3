/-
  Proved: missivelaw04.DiskBytes answers true for every file system, every name, every slice of texts, every number and every slice of numbers, and leaves its arguments as they were, where what they hold together is of bulk at most 1048576 (the second form).
-/
import Derived.Test.YtmfkhbofmaonkaaRows
import Derived.Test.YtmfkhbofmaonkaaBnd1
import Derived.ProofKit
import Derived.OpenShut
import Derived.ShutString
import Derived.ChangeOld
import Derived.Below
import Derived.SizedLaws
import Derived.JoinedCond
set_option linter.unusedVariables false
namespace Go.Proofs.Ytmfkhbofmaonkaa.diskBytes
open Go.ChangeShapes Go.WideShapes Go.ChangeAt Go.RowKit
open Go.ChangeMaps (open_string shut_string)

theorem len_sumF : ∀ l : List Go.Proofs.Dsk.File, l.length ≤ sumF l
  | [] => by simp [sumF]
  | f :: l => by have := len_sumF l; simp only [sumF, List.map_cons, List.sum_cons, List.length_cons] at this ⊢; omega
theorem walk (d : Go.Proofs.Dsk.Fs) (v : Value) (a1 : ByteArray) (v2 : Value) (l2 : List ByteArray) (a3 : Int) (v4 : Value) (l4 : List Int) (w : World) (y0 : FitAll d) (w0 : RowF w v d.files) (t0 : NeatF v) (w2 : RowS w v2 l2) (w3 : (Lit.int .i64 a3).wf = true) (w4 : RowI w v4 l4) (hsum : sumF d.files + a1.size + sumS l2 + List.length l4 ≤ 1048576) :
    Calls Try.prog 4 #[fsV d v, .string a1, v2, .int .i64 a3, v4] w fun e w' => e = .returned (.bool true) ∧ Below w.heap.size w w' := by
  obtain ⟨sa, sc, rfl, _⟩ := id w2
  exact diskBytes_walk d v a1 sa l2.length sc l2 a3 v4 l4 w y0 w0 t0 (by have := len_sumF d.files; omega) w2 w4 (wf64 w3).1 (wf64 w3).2

theorem own : ownKnob Try.prog.godebug = none := by kernel_rfl
theorem laidOut : laidOutB Try.prog = true := by kernel_rfl

set_option maxRecDepth 100000 in
theorem contract (H : Type) (enc : TypeId × Value → H) (W : World) (base : Nat) (args : Array Value) (ds gs : List (DataW H)) (before : List MemPlace)
    (hval : ∀ (j : Nat) t v, Try.f4.params[j]? = some t → args[j]? = some v → Value.okWide Try.prog W .any base t v)
    (hW : DataW.Whole enc Try.prog Try.f4.params.toList Rows.diskBytesSpec.vars false W args.toList ds gs before) (hk : Rows.uptoSmall H (ds ++ gs) = true) :
    Calls Try.prog 4 args W fun e W' => ∃ v, e = .returned v ∧ Rows.diskBytesSpec.post enc Try.prog Try.f4 false true false false W args v W' := by
  have hW' := hW
  obtain ⟨p, q, hA0, hV, rfl, hfz, hnd⟩ := hW
  have hA : DataW.TrodAll enc Try.prog W 0 (fun _ => true) true Try.f4.params.toList args.toList ds p := hA0
  rw [Try.params4] at hA hval
  obtain ⟨v0, vs0, d0, ds0, p0, q0, hargs, rfl, rfl, h0, r0⟩ := trodAll_cons hA
  obtain ⟨v1, vs1, d1, ds1, p1, q1, rfl, rfl, rfl, h1, r1⟩ := trodAll_cons r0
  obtain ⟨v2, vs2, d2, ds2, p2, q2, rfl, rfl, rfl, h2, r2⟩ := trodAll_cons r1
  obtain ⟨v3, vs3, d3, ds3, p3, q3, rfl, rfl, rfl, h3, r3⟩ := trodAll_cons r2
  obtain ⟨v4, vs4, d4, ds4, p4, q4, rfl, rfl, rfl, h4, r4⟩ := trodAll_cons r3
  obtain ⟨rfl, rfl, rfl⟩ := trodAll_nil r4
  obtain rfl : args = #[v0, v1, v2, v3, v4] := by cases args; simp_all
  obtain ⟨rfl, rfl⟩ := trodVars_none hV
  have hbulk := of_decide_eq_true hk
  simp only [List.append_nil, Rows.uptoBulkAll] at hbulk
  have k0 := h0
  have lt0 : ∀ x ∈ p0, x.block < W.heap.size := by obtain ⟨m, hm⟩ := k0; exact DataW.trod_lt m _ _ _ hm
  obtain ⟨D0, a0, len0, cap0, rfl, w0, y0, t0, u0⟩ : ∃ (D : Go.Proofs.Dsk.Fs) (a : Option Addr) (n cap : Nat), v0 = fsV D (.slice a n cap) ∧ RowF W (.slice a n cap) D.files ∧ FitAll D ∧ NeatF (.slice a n cap) ∧ sumF D.files + 1 ≤ Rows.uptoBulk d0 := by
    obtain ⟨m, hm⟩ := h0
    exact open_fs (hval 0 24 v0 rfl rfl) hm
  obtain ⟨a1, rfl, rfl, rfl, w1⟩ := open_string Try.underlying9 (hval 1 9 v1 rfl rfl) h1
  obtain ⟨a2, len2, cap2, rfl⟩ := okWide_slice Try.underlying30 (hval 2 30 v2 rfl rfl)
  have k2 := h2
  have lt2 : ∀ x ∈ p2, x.block < W.heap.size := by obtain ⟨m, hm⟩ := k2; exact DataW.trod_lt m _ _ _ hm
  obtain ⟨z2, w2, y2⟩ := (by obtain ⟨m, hm⟩ := k2; exact open_rowSb ⟨_, _, _, rfl⟩ hm (by simp only; omega) : ∃ l, RowS W (.slice a2 len2 cap2) l ∧ sumS l + 1 ≤ Rows.uptoBulk d2)
  obtain ⟨a3, rfl, rfl, rfl, w3⟩ := open_int Try.underlying3 (hval 3 3 v3 rfl rfl) h3
  obtain ⟨a4, len4, cap4, rfl⟩ := okWide_slice Try.underlying39 (hval 4 39 v4 rfl rfl)
  have k4 := h4
  have lt4 : ∀ x ∈ p4, x.block < W.heap.size := by obtain ⟨m, hm⟩ := k4; exact DataW.trod_lt m _ _ _ hm
  obtain ⟨z4, w4, y4⟩ := (by obtain ⟨m, hm⟩ := k4; exact open_rowIb ⟨_, _, _, rfl⟩ hm (by simp only; omega) : ∃ l, RowI W (.slice a4 len4 cap4) l ∧ List.length l + 1 ≤ Rows.uptoBulk d4)
  have hsum : sumF D0.files + a1.size + sumS z2 + List.length z4 ≤ 1048576 := by
    have h := of_decide_eq_true hk
    simp only [List.append_nil, Rows.uptoBulkAll] at h
    have e1 : Rows.uptoBulk (DataW.lit (H := H) (.string a1.data.toList)) = a1.size + 1 := by simp [Rows.uptoBulk]
    omega
  clear hA0
  refine (walk D0 (.slice a0 len0 cap0) a1 (.slice a2 len2 cap2) z2 a3 (.slice a4 len4 cap4) z4 W y0 w0 t0 w2 w3 w4 hsum).mono fun e W' ⟨he, bel⟩ => ?_
  subst he
  exact ⟨_, rfl, _, _, _, [], _, [], hW', trodAll_mk1 (shut_bool Try.underlying4 _), (trodAll_cons_mk (Below.trod laidOut (by kernel_rfl) (of_decide_eq_true (by kernel_rfl)) k0 bel lt0) (trodAll_cons_mk (shut_string Try.underlying9 w1) (trodAll_cons_mk (Below.trod laidOut (by kernel_rfl) (of_decide_eq_true (by kernel_rfl)) k2 bel lt2) (trodAll_cons_mk (shut_int Try.underlying3 w3) (trodAll_cons_mk (Below.trod laidOut (by kernel_rfl) (of_decide_eq_true (by kernel_rfl)) k4 bel lt4) trodAll_mk0))))), rfl, bel.frame _, fun h => by cases h⟩

set_option maxRecDepth 100000 in
theorem lifted (os : Os) (started : os.Started) (H : Type) (enc : TypeId × Value → H) (F : Stop.Interp) :
    ReturnsInHanded {} Try.checked os 4 .any ((Rows.OpenSpec.upto Rows.diskBytesSpec).pre6 enc Try.prog Try.f4 Rows.diskBytesUptoRow.domain false) (((Rows.OpenSpec.upto Rows.diskBytesSpec).at F).post enc Try.prog Try.f4 false true false false) := by
  refine returnsInHanded_of_cond (C := Try.checked) (s := Rows.OpenSpec.upto Rows.diskBytesSpec) (k := Rows.uptoSmall) rfl own started (by kernel_rfl) Try.func4
    (OpenSpec.witness (enc := enc) (C := Try.checked) (s := Rows.OpenSpec.upto Rows.diskBytesSpec) (k := Rows.uptoSmall) rfl false ⟨#[], #[.agg #[.int .i64 0, .slice none 0 0, .int .i64 0, .int .i64 0, .bool false], .string ByteArray.empty, .slice none 0 0, .int .i64 0, .slice none 0 0], []⟩ 8 (by kernel_rfl) (by kernel_rfl) (by kernel_rfl)
      (x := ([.agg [.lit (.int .i64 0), .nil, .lit (.int .i64 0), .lit (.int .i64 0), .lit (.bool false)], .lit (.string []), .nil, .lit (.int .i64 0), .nil], [], [])) (by kernel_rfl) rfl (by kernel_rfl)) ?_
  intro W base args ds gs before hval hW _ hk _
  exact contract H enc W base args ds gs before hval hW hk

theorem over : Rows.diskBytesUptoRow.holds Try.pinned (Rows.OpenSpec.upto Rows.diskBytesSpec) :=
  OpenClaim.holds_of_cond 4 Try.f4 rfl rfl rfl rfl rfl rfl rfl ⟨rfl, rfl, rfl, rfl, rfl⟩ rfl rfl rfl rfl rfl (by kernel_rfl) Try.func4 (by kernel_rfl)
    (of_decide_eq_true (by kernel_rfl)) (by unfold Func.isWrapper; first | (rw [if_pos (by decide +kernel)]; kernel_rfl) | (rw [if_neg (by decide +kernel)]; exact ⟨rfl, rfl⟩))
    (fun os started H enc _ F => lifted os started H enc F)

end Go.Proofs.Ytmfkhbofmaonkaa.diskBytes
namespace Go.Proofs.Ytmfkhbofmaonkaa
/-- The statement, in its second form. -/
theorem diskBytes_holds : Rows.DiskBytesUptoSaid := diskBytes.over
#print axioms diskBytes_holds
end Go.Proofs.Ytmfkhbofmaonkaa
