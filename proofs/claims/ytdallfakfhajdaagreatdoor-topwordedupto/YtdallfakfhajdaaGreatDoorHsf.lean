/-
  What missiveref08.Same does, and append of fields, over this seat's program.
-/
import Derived.Test.YtdallfakfhajdaaGreatDoorHpa
import Derived.Test.YtdallfakfhajdaaGreatDoorHwz
import Derived.Laws.AppendOwnNone
set_option linter.unusedVariables false
namespace Go.Proofs.YtdallfakfhajdaaGreatDoor
open Go.RowKit Go.Proofs.Hed

theorem takeF_next {l r : List Fld} {k : Nat} (hl : k < l.length) (hr : k < r.length) : l.take (k + 1) = r.take (k + 1) ↔ l.take k = r.take k ∧ l[k] = r[k] := by
  rw [List.take_succ_eq_append_getElem hl, List.take_succ_eq_append_getElem hr]
  constructor
  · intro h
    have := List.append_inj' h rfl
    exact ⟨this.1, by simpa using this.2⟩
  · rintro ⟨h1, h2⟩
    rw [h1, h2]

theorem add_offF (b off j : Nat) : Addr.add ⟨b, off, none⟩ j = ⟨b, off + j, none⟩ := by
  unfold Addr.add
  by_cases h0 : j = 0
  · simp [h0]
  · simp [h0]

/-- The run of an append of fields. -/
theorem run_append_rowF (w : World) (B : Nat) (v : Value) (ad : Addr) (cap : Nat) (k l : List Fld) (ty : TypeId) (hown : w.ownsRow B 39 2 v k.length (flatF k)) (hx : RowF w (.slice (some ad) l.length cap) l) (hkl : k.length + l.length ≤ 4194304) (hB : B ≤ w.heap.size) :
    ∃ v' w', (Builtin.append_ #[40, 40] ty #[v, .slice (some ad) l.length cap]).run Tryz.prog w = .ok v' w' ∧ w'.ownsRow B 39 2 v' (k ++ l).length (flatF (k ++ l)) ∧ Below B w w' := by
  obtain ⟨i0, hi, hz0, hz1, hz2⟩ := info_parts fldInfo
  obtain ⟨a, cap', hv, hlen, hfit, hc⟩ := hx
  have hnews : ∀ j u, (flatF l)[j]? = some u → w.cell? (ad.add j) = some u := by
    intro j u hj
    rcases hc with hc | ⟨b, off, ha, hlt, hc⟩
    · subst hc; simp [flatF] at hj
    · have : some ad = a := by injection hv
      rw [ha] at this
      obtain rfl := Option.some.inj this
      rw [add_offF]
      exact hc j u hj
  obtain ⟨v', w', hrun, h2, h3, h4⟩ := run_append_own (P := Tryz.prog) w B 40 ty 39 i0 (.agg #[.string ByteArray.empty, .string ByteArray.empty]) 2 32 Tryz.underlying40 hi hz0 hz1 hz2 rfl (by decide) v k.length (flatF k) hown ad l.length cap (flatF l) (flatF_length l) hnews (by
    intro u hu
    unfold flatF at hu
    obtain ⟨f, _, hf⟩ := List.mem_flatMap.1 hu
    simp only [cellsF, List.mem_cons, List.not_mem_nil, or_false] at hf
    rcases hf with rfl | rfl <;> rfl) (by unfold maxLen; omega) (by omega) hB
  refine ⟨v', w', hrun, by rw [List.length_append, flatF_append]; exact h2, ?_⟩
  refine ⟨h3.os, h3.tape, h3.output, h3.size, fun i hi' => h3.block i (by omega) ?_⟩
  rcases hown.2 with ⟨rfl, _⟩ | ⟨g, cap, cur, rfl, hg, _⟩
  · simp [Value.ownBlock]
  · simp [Value.ownBlock]; omega

/-- An append whose run is known, guarded or not. -/
theorem wpList_append_runF {P : Program} {w w' : World} {v v' xv : Value} {ty : TypeId} {ops : Array Oper} {rest : List Oper} {o : Oper} {a : Act} {Q : Exit → Act → World → Prop} (hw : Region.wanted o (yielded ops a.tmps) = true) (s x : Operand) (t : TypeId)
    (ho : o.op = .call { callee := .builtin .append, args := #[s, x], argTypes := #[t, t] }) (hty : o.type = ty) (hs : a.eval s = v) (hx : a.eval x = xv)
    (hrun : (Builtin.append_ #[t, t] ty #[v, xv]).run P w = .ok v' w')
    (h : wpList P ops Q rest (a.put o.dst v') w') : wpList P ops Q (o :: rest) a w := by
  refine wpList_step fun K hK => ?_
  rw [if_pos hw]
  subst hty
  unfold Oper.wp
  simp [execOp, ho, resolve, invoke, builtin, hs, hx, hrun, Result.andThen]
  exact hK _ _ h
theorem own_emptyF (w : World) : (w.alloc (.cells #[] 39)).ownsRow w.heap.size 39 2 (.slice (some ⟨w.heap.size, 0, none⟩) 0 0) ([] : List Fld).length (flatF []) :=
  World.ownsRow_lit w #[] 0 (Nat.le_refl _) (by unfold maxLen; omega) rfl

end Go.Proofs.YtdallfakfhajdaaGreatDoor
