/-
  Proved: missivelaw05.EncFewer answers true for every string, and leaves it as it was, where it is of bulk at most 1048576; no other condition.
-/
import Derived.Test.YtoofggofpdlccaaRows
import Derived.Test.YtoofggofpdlccaaLvs
import Derived.ProofKit
import Derived.OpenShut
import Derived.ShutString
import Derived.ChangeOld
import Derived.Below
import Derived.JoinedCond
set_option linter.unusedVariables false
namespace Go.Proofs.Ytoofggofpdlccaa.encFewer
open Go.ChangeShapes Go.WideShapes Go.ChangeAt Go.RowKit Go.Proofs.Enc
open Go.ChangeMaps (open_string shut_string)

set_option maxHeartbeats 1000000 in
set_option maxRecDepth 100000 in
theorem walk (a0 : ByteArray) (w : World) (hsum : a0.size ≤ 1048576) :
    Calls Try.prog 6 #[.string a0] w fun e w' => e = .returned (.bool true) ∧ Below w.heap.size w w' := by
  have e0 := sizeL a0
  have f1 : 4 * (bts (from64 0 0 a0.data.toList).1).size ≤ 3 * a0.size := by rw [size_bts]; have := from_len a0.data.toList 0 0 rfl; omega
  have f2 : (bts (fq a0.data.toList).1).size ≤ a0.size := by rw [size_bts]; have := fq_len a0.data.toList; omega
  have f3 : (from64 0 0 a0.data.toList).2 ≤ a0.size := by have := from_cnt a0.data.toList 0 0; omega
  have f4 : (fq a0.data.toList).2 ≤ a0.size := by have := fq_len a0.data.toList; omega
  have f5 : (bts (b64 a0.data.toList)).size = (a0.size + 2) / 3 * 4 := by rw [size_bts, b64_length, sizeL]
  have f6 : a0.size ≤ (bts (quo a0.data.toList)).size := by rw [size_bts]; have := quo_len a0.data.toList; omega
  have f7 : (bts (quo a0.data.toList)).size ≤ 3 * a0.size := by rw [size_bts]; have := quo_len a0.data.toList; omega
  have f8 : ∀ k (h : k < (bts (quo a0.data.toList)).size), plain (bts (quo a0.data.toList))[k] := by
    intro k h
    apply quo_plain a0.data.toList
    have hd := drop_byte (bts (quo a0.data.toList)) k h
    rw [toList_bts] at hd
    have : (bts (quo a0.data.toList))[k] ∈ (quo a0.data.toList).drop k := by rw [hd]; exact List.mem_cons_self
    exact List.mem_of_mem_drop this
  have B := fun W => base64_any a0 W (by omega)
  have Q := fun W => quoted_any a0 W (by omega)
  have F := fun W => from64_any a0 W (by omega)
  have G := fun W => fromQuoted_any a0 W (by omega)
  have HB := hide B
  have HQ := hide Q
  have HF := hide F
  have HG := hide G
  have H8 := hide f8
  clear B Q F G e0 f8
  generalize bts (b64 a0.data.toList) = t at HB f5
  generalize bts (quo a0.data.toList) = q at HQ f6 f7 H8
  generalize bts (from64 0 0 a0.data.toList).1 = a at HF f1
  generalize (from64 0 0 a0.data.toList).2 = n at HF f3
  generalize bts (fq a0.data.toList).1 = b at HG f2
  generalize (fq a0.data.toList).2 = m at HG f4
  have g5 : ((t.size : Int) != ((a0.size : Int) + 2) / 3 * 4) = false := by simp; omega
  have h5 : t.size ≤ 8000000 := by omega
  have g1 : ¬ (3 * (a0.size : Int) < 4 * (a.size : Int)) := by omega
  have g2 : ¬ ((a0.size : Int) < (b.size : Int)) := by omega
  have g3 : ¬ ((a0.size : Int) < (n : Int)) := by omega
  have g4 : ¬ ((a0.size : Int) < (m : Int)) := by omega
  have g6 : ¬ ((q.size : Int) < (a0.size : Int)) := by omega
  have g7 : ¬ (3 * (a0.size : Int) < (q.size : Int)) := by omega
  clear f5
  go_enter Try.func6, Try.ntmps6
  go_wp2_with fail
  refine (lives_any _).mono ?_
  rintro e w1 ⟨rfl, b1⟩
  go_wp2_with fail
  refine (unhide HF _).mono ?_
  rintro e w2 ⟨rfl, b2⟩
  go_wp2_with fail
  refine (unhide HG _).mono ?_
  rintro e w3 ⟨rfl, b3⟩
  go_wp2_with fail
  refine (unhide HB _).mono ?_
  rintro e w4 ⟨rfl, b4⟩
  go_wp2_with fail
  refine (unhide HQ _).mono ?_
  rintro e w5 ⟨rfl, b5⟩
  have hbb := belows' (belows' (belows' (belows' b1 b2) b3) b4) b5
  clear b1 b2 b3 b4 b5 HB HQ HF HG
  go_wp2
  go_loop [9] (fun z => ∃ k : Nat, z = .int .i64 k ∧ k ≤ q.size) (fun z => q.size - (intOf z).toNat)
  case atStart => exact ⟨0, rfl, Nat.zero_le _⟩
  case round =>
    obtain ⟨k, rfl, hk⟩ := hrel
    by_cases hlt : k < q.size
    · have hp := unhide H8 k hlt
      have hc := q[k].toNat_lt
      unfold plain at hp
      by_cases h10 : q[k].toNat = 10
      · have hb : ((q[k].toNat : Int) != 10) = false := by simp [h10]
        have hl : (q[k].toNat : Int) < 32 := by omega
        clear hp h10
        go_wp2
        exact ⟨⟨k + 1, by go_num, by omega⟩, by simp [intOf]; omega⟩
      · have hl : ¬ (q[k].toNat : Int) < 32 := by omega
        have hh : ¬ (126 : Int) < (q[k].toNat : Int) := by omega
        clear hp h10
        go_wp2
        exact ⟨⟨k + 1, by go_num, by omega⟩, by simp [intOf]; omega⟩
    · go_wp2
      go_ret
      exact ⟨rfl, hbb⟩

theorem own : ownKnob Try.prog.godebug = none := by kernel_rfl

set_option maxRecDepth 100000 in
theorem contract (H : Type) (enc : TypeId × Value → H) (W : World) (base : Nat) (args : Array Value) (ds gs : List (DataW H)) (before : List MemPlace)
    (hval : ∀ (j : Nat) t v, Try.f6.params[j]? = some t → args[j]? = some v → Value.okWide Try.prog W .any base t v)
    (hW : DataW.Whole enc Try.prog Try.f6.params.toList Rows.encFewerSpec.vars false W args.toList ds gs before) (hk : Rows.uptoSmall H (ds ++ gs) = true) :
    Calls Try.prog 6 args W fun e W' => ∃ v, e = .returned v ∧ Rows.encFewerSpec.post enc Try.prog Try.f6 false true false false W args v W' := by
  have hW' := hW
  obtain ⟨p, q, hA0, hV, rfl, hfz, hnd⟩ := hW
  have hA : DataW.TrodAll enc Try.prog W 0 (fun _ => true) true Try.f6.params.toList args.toList ds p := hA0
  rw [Try.params6] at hA hval
  obtain ⟨v0, vs0, d0, ds0, p0, q0, hargs, rfl, rfl, h0, r0⟩ := trodAll_cons hA
  obtain ⟨rfl, rfl, rfl⟩ := trodAll_nil r0
  obtain rfl : args = #[v0] := by cases args; simp_all
  obtain ⟨rfl, rfl⟩ := trodVars_none hV
  obtain ⟨a0, rfl, rfl, rfl, w0⟩ := open_string Try.underlying9 (hval 0 9 v0 rfl rfl) h0
  have hsum : a0.size ≤ 1048576 := by
    have h := of_decide_eq_true hk
    simp only [List.append_nil, Rows.uptoBulkAll, Rows.uptoBulk] at h
    have e0 := sizeL a0
    omega
  clear hA0
  refine (walk a0 W  hsum).mono fun e W' ⟨he, bel⟩ => ?_
  subst he
  exact ⟨_, rfl, _, _, _, [], _, [], hW', trodAll_mk1 (shut_bool Try.underlying4 _), (trodAll_cons_mk (shut_string Try.underlying9 w0) trodAll_mk0), rfl, bel.frame _, fun h => by cases h⟩

set_option maxRecDepth 100000 in
theorem lifted (os : Os) (started : os.Started) (H : Type) (enc : TypeId × Value → H) (F : Stop.Interp) :
    ReturnsInHanded {} Try.checked os 6 .any ((Rows.OpenSpec.upto Rows.encFewerSpec).pre6 enc Try.prog Try.f6 Rows.encFewerUptoRow.domain false) (((Rows.OpenSpec.upto Rows.encFewerSpec).at F).post enc Try.prog Try.f6 false true false false) := by
  refine returnsInHanded_of_cond (C := Try.checked) (s := Rows.OpenSpec.upto Rows.encFewerSpec) (k := Rows.uptoSmall) rfl own started (by kernel_rfl) Try.func6
    (OpenSpec.witness (enc := enc) (C := Try.checked) (s := Rows.OpenSpec.upto Rows.encFewerSpec) (k := Rows.uptoSmall) rfl false ⟨#[], #[.string ByteArray.empty], []⟩ 8 (by kernel_rfl) (by kernel_rfl) (by kernel_rfl)
      (x := ([.lit (.string [])], [], [])) (by kernel_rfl) rfl (by kernel_rfl)) ?_
  intro W base args ds gs before hval hW _ hk _
  exact contract H enc W base args ds gs before hval hW hk

theorem over : Rows.encFewerUptoRow.holds Try.pinned (Rows.OpenSpec.upto Rows.encFewerSpec) :=
  OpenClaim.holds_of_cond 6 Try.f6 rfl rfl rfl rfl rfl rfl rfl ⟨rfl, rfl, rfl, rfl, rfl⟩ rfl rfl rfl rfl rfl (by kernel_rfl) Try.func6 (by kernel_rfl)
    (of_decide_eq_true (by kernel_rfl)) (by unfold Func.isWrapper; first | (rw [if_pos (by decide +kernel)]; kernel_rfl) | (rw [if_neg (by decide +kernel)]; exact ⟨rfl, rfl⟩))
    (fun os started H enc _ F => lifted os started H enc F)

end Go.Proofs.Ytoofggofpdlccaa.encFewer
namespace Go.Proofs.Ytoofggofpdlccaa
/-- The statement, in its second form. -/
theorem encFewer_holds : Rows.EncFewerUptoSaid := encFewer.over
#print axioms encFewer_holds
end Go.Proofs.Ytoofggofpdlccaa
