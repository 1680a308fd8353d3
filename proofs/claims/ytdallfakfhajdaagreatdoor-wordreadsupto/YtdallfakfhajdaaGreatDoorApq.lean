/-
  append of letters that came in to letters of the call's own, over this seat's program.
-/
import Derived.Test.YtdallfakfhajdaaGreatDoorRsm
import Derived.Laws.OwnMore
import Derived.Test.YtdallfakfhajdaaGreatDoorRtw
import Derived.Laws.AppendOwnNone
set_option linter.unusedVariables false
namespace Go.Proofs.YtdallfakfhajdaaGreatDoor
open Go.RowKit Go.Proofs.Rns

/-- Letters' cells. -/
def intC (l : List Int) : List Value := l.map fun n => Value.int .i32 n
theorem intC_length (l : List Int) : (intC l).length = l.length := by simp [intC]
theorem add_off (b off j : Nat) : Addr.add ⟨b, off, none⟩ j = ⟨b, off + j, none⟩ := by
  unfold Addr.add
  by_cases h0 : j = 0
  · simp [h0]
  · simp [h0]
/-- A row of letters of the call's own, as letters. -/
theorem own_rowC {w : World} {B : Nat} {v : Value} {l : List Int} (h : w.ownsRow B 21 1 v l.length (intC l)) (hr : ∀ n ∈ l, -2147483648 ≤ n ∧ n ≤ 2147483647) : RowI w v l := by
  rcases h.2 with ⟨hv, h0⟩ | ⟨g, cap, cur, hv, hg, hh, hn', hm, hs, ht⟩
  · have : l = [] := List.eq_nil_of_length_eq_zero h0
    subst this
    exact ⟨none, 0, by rw [hv]; rfl, hr, Or.inl rfl⟩
  · refine ⟨some ⟨g, 0, none⟩, cap, hv, hr, Or.inr ⟨g, 0, rfl, (Array.getElem?_eq_some_iff.1 hh).1, fun j hj => ?_⟩⟩
    have h1 : (cur.toList.take (l.length * 1))[j]? = (intC l)[j]? := by rw [ht]
    have h2 : (intC l)[j]? = some (.int .i32 l[j]) := by simp [intC, List.getElem?_eq_getElem hj]
    rw [h2, List.getElem?_take, if_pos (by omega)] at h1
    simp only [World.cell?, hh]
    simpa using h1
theorem RowI.len {w : World} {v : Value} {l : List Int} (h : RowI w v l) : ∃ a cap, v = .slice a l.length cap := by
  obtain ⟨a, cap, hv, _⟩ := h
  exact ⟨a, cap, hv⟩
theorem RowI.range {w : World} {v : Value} {l : List Int} (h : RowI w v l) : ∀ n ∈ l, -2147483648 ≤ n ∧ n ≤ 2147483647 := by
  obtain ⟨a, cap, hv, hr, _⟩ := h
  exact hr

/-- The run of such an append. -/
theorem run_append_rowI (w : World) (B : Nat) (v x : Value) (k l : List Int) (ty : TypeId) (hown : w.ownsRow B 21 1 v k.length (intC k)) (hx : RowI w x l) (hnt : Neat x) (hkl : k.length + l.length ≤ 4194304) (hB : B ≤ w.heap.size) :
    ∃ v' w', (Builtin.append_ #[22, 22] ty #[v, x]).run Tryz.prog w = .ok v' w' ∧ w'.ownsRow B 21 1 v' (k ++ l).length (intC (k ++ l)) ∧ Below B w w' ∧ (l ≠ [] → v' ≠ .slice none 0 0) ∧ (v ≠ .slice none 0 0 → v' ≠ .slice none 0 0) := by
  obtain ⟨i0, hi, hz0, hz1, hz2⟩ := info_parts rInfo
  obtain ⟨a, cap, rfl, hr, hc⟩ := hx
  cases a with
  | none =>
    obtain ⟨h0, rfl⟩ := hnt _ _ rfl
    have hl : l = [] := List.eq_nil_of_length_eq_zero h0
    subst hl
    refine ⟨v, w, run_append_owned_none (P := Tryz.prog) (w := w) B 22 ty 21 i0 1 Tryz.underlying22 hi v _ _ hown, by simpa using hown, Below.refl _ _, fun h => absurd rfl h, fun h => h⟩
  | some ad =>
    have hnews : ∀ j u, (intC l)[j]? = some u → w.cell? (ad.add j) = some u := by
      intro j u hj
      rcases hc with hc | ⟨b, off, ha, hlt, hc⟩
      · subst hc; simp [intC] at hj
      · obtain rfl := Option.some.inj ha
        rw [add_off]
        have hjl : j < l.length := by
          rcases Nat.lt_or_ge j l.length with h | h
          · exact h
          · rw [List.getElem?_eq_none (by simpa [intC] using h)] at hj; simp at hj
        rw [hc j hjl]
        simp [intC, List.getElem?_eq_getElem hjl] at hj
        rw [← hj]
    obtain ⟨v', w', hrun, h2, h3, h4⟩ := run_append_own (P := Tryz.prog) w B 22 ty 21 i0 (.int .i32 0) 1 4 Tryz.underlying22 hi hz0 hz1 hz2 rfl (by decide) v k.length (intC k) hown ad l.length cap (intC l) (by simp [intC]) hnews (by intro u hu; simp [intC] at hu; obtain ⟨n, _, rfl⟩ := hu; rfl) (by unfold maxLen; omega) (by omega) hB
    refine ⟨v', w', hrun, by simpa [intC] using h2, ?_, ?_, ?_⟩
    · refine ⟨h3.os, h3.tape, h3.output, h3.size, fun i hi' => h3.block i (by omega) ?_⟩
      rcases hown.2 with ⟨rfl, _⟩ | ⟨g, cap, cur, rfl, hg, _⟩
      · simp [Value.ownBlock]
      · simp [Value.ownBlock]; omega
    · intro hl e
      have := (h4.mp e).2
      exact hl (List.eq_nil_of_length_eq_zero this)
    · intro hv e
      exact hv (h4.mp e).1
/-- An append whose run is known, guarded or not. -/
theorem wpList_append_run {P : Program} {w w' : World} {v v' xv : Value} {ty : TypeId} {ops : Array Oper} {rest : List Oper} {o : Oper} {a : Act} {Q : Exit → Act → World → Prop} (hw : Region.wanted o (yielded ops a.tmps) = true) (s x : Operand) (t : TypeId)
    (ho : o.op = .call { callee := .builtin .append, args := #[s, x], argTypes := #[t, t] }) (hty : o.type = ty) (hs : a.eval s = v) (hx : a.eval x = xv)
    (hrun : (Builtin.append_ #[t, t] ty #[v, xv]).run P w = .ok v' w')
    (h : wpList P ops Q rest (a.put o.dst v') w') : wpList P ops Q (o :: rest) a w := by
  refine wpList_step fun K hK => ?_
  rw [if_pos hw]
  subst hty
  unfold Oper.wp
  simp [execOp, ho, resolve, invoke, builtin, hs, hx, hrun, Result.andThen]
  exact hK _ _ h
/-- An empty literal. -/
theorem own_empty (w : World) : (w.alloc (.cells #[] 21)).ownsRow w.heap.size 21 1 (.slice (some ⟨w.heap.size, 0, none⟩) 0 0) ([] : List Int).length (intC []) :=
  World.ownsRow_lit w #[] 0 (Nat.le_refl _) (by unfold maxLen; omega) rfl
theorem neat_some (a : Addr) (n cap : Nat) : Neat (.slice (some a) n cap) := by
  intro m c h
  simp at h
theorem own_neat {w : World} {B : Nat} {e : TypeId} {size : Nat} {v : Value} {n : Nat} {xs : List Value} (h : w.ownsRow B e size v n xs) : Neat v := by
  rcases h.2 with ⟨rfl, rfl⟩ | ⟨g, cap, cur, rfl, _⟩
  · intro m c h
    simp at h
    exact ⟨h.1.symm, h.2.symm⟩
  · exact neat_some _ _ _
end Go.Proofs.YtdallfakfhajdaaGreatDoor
