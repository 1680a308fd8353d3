/-
  What nset.Parse does, over this seat's program.
-/
import Derived.Test.YtihgmpebpkjmkaaGreatDoorNwn
import Derived.Test.YtihgmpebpkjmkaaGreatDoorNwg
set_option linter.unusedVariables false
namespace Go.Proofs.YtihgmpebpkjmkaaGreatDoor
open Go.RowKit Go.Shelf Go.Proofs.Nst
attribute [local go_sem] Oper.semAt_some

theorem spansOf_any (s : ByteArray) (w : World) :
    Calls Tryz.prog 27 #[.string s] w fun e w' => e = .returned (.func (.func 49) #[] #[.pointer (some ⟨w.heap.size, 0, none⟩)]) ∧ w' = w.alloc (.cells #[.string s] 9) := by
  go_enter Tryz.func27, Tryz.ntmps27
  go_wp2
  go_ret
  exact ⟨rfl, rfl⟩
/-- The spans that are kept of those that have come. -/
def accP (pre : List (List UInt8)) : List Sp := (pre.map (fun p => (spanP p).1)).take 1025
theorem accP_snoc (pre : List (List UInt8)) (p : List UInt8) : accP (pre ++ [p]) = if (accP pre).length ≤ 1024 then accP pre ++ [(spanP p).1] else accP pre := by
  unfold accP
  rw [List.map_append, List.length_take]
  by_cases h : (pre.map (fun p => (spanP p).1)).length ≤ 1024
  · rw [if_pos (by omega), List.take_of_length_le (by simp at h ⊢; omega), List.take_of_length_le (by omega)]
    rfl
  · rw [if_neg (by omega), List.take_append_of_le_length (by omega)]
theorem accP_len (pre : List (List UInt8)) : (accP pre).length ≤ 1025 := by unfold accP; rw [List.length_take]; omega
/-- The blocks that a round may write: the boxes of the answer, that of the spans, and that of the row in it. -/
def MineN (B k : Nat) (W : World) : Prop := k = B ∨ k = B + 1 ∨ k = B + 2 ∨ ∃ v, W.cell? ⟨B + 2, 0, none⟩ = some v ∧ v.ownBlock = some k
theorem gown_blockS {w : World} {B size : Nat} {e : TypeId} {v : Value} {n : Nat} {xs : List Value} (h : w.ownsRow B e size v n xs) {k : Nat} (hk : v.ownBlock = some k) : B ≤ k ∧ ∃ o : Obj, w.heap[k]? = some o ∧ o.isCells = true := by
  rcases h.2 with ⟨rfl, _⟩ | ⟨g, cap, cur, rfl, hg, hc, _⟩
  · cases hk
  · cases hk
    exact ⟨hg, _, hc, rfl⟩

theorem results_cells {fn : Func} {p q : Tmp} {t1 t2 : TypeId} (h : fn.results = #[.cell p t1, .cell q t2]) (tmps : Array Value) (P : Program) (w : World) :
    (results fn tmps).run P w = ((asAddr (tmps.getD p undef)).run P w).andThen fun a w₁ => ((loadVar t1 a).run P w₁).andThen fun v w₂ => ((asAddr (tmps.getD q undef)).run P w₂).andThen fun b w₃ => ((loadVar t2 b).run P w₃).andThen fun u w₄ => .ok (.tuple #[v, u]) w₄ := by
  simp only [results, h]
  simp [Sem.run_bind, Result.andThen]
/-- What lies where between the rounds of Parse, and where one has left. -/
structure IP (w : World) (b : Nat) (pre : List (List UInt8)) (W : World) : Prop where
  row : ∃ v, Boxed W (b + 2) 26 v ∧ W.ownsRow (b + 4) 79 2 v (accP pre).length (flatG cellsS (accP pre))
  res : Boxed W b 26 (.slice none 0 0)
  err : Boxed W (b + 1) 29 (.int .i64 0)
  all : ∀ p ∈ pre, (spanP p).2 = true
  bel : Below b w W
  size : b + 4 ≤ W.heap.size
structure IX (w : World) (b : Nat) (pre : List (List UInt8)) (W : World) : Prop where
  res : Boxed W b 26 (.slice none 0 0)
  err : Boxed W (b + 1) 29 (.int .i64 7)
  one : ∃ p ∈ pre, (spanP p).2 = false
  bel : Below b w W
  size : b + 4 ≤ W.heap.size
theorem IP.grown {w A B : World} {b : Nat} {pre : List (List UInt8)} {row : Option Nat} (h : IP w b pre A) (hg : A.grownBy B row) (hb : ∀ k, row = some k → k ≠ b ∧ k ≠ b + 1 ∧ k ≠ b + 2 ∧ b ≤ k ∧ ∀ v, A.cell? ⟨b + 2, 0, none⟩ = some v → v.ownBlock ≠ some k) : IP w b pre B := by
  obtain ⟨v, h1, h2⟩ := h.row
  have ne : ∀ x, (∀ k, row = some k → k ≠ x) → some x ≠ row := fun x hx e => hx x e.symm rfl
  refine ⟨⟨v, h1.kept hg (ne _ (fun k e => (hb k e).2.2.1)), ?_⟩, h.res.kept hg (ne _ (fun k e => (hb k e).1)), h.err.kept hg (ne _ (fun k e => (hb k e).2.1)), h.all, h.bel.grown hg (by have := h.size; omega) (fun k e => (hb k e).2.2.2.1), Nat.le_trans h.size hg.size⟩
  cases row with
  | none => exact h2.kept hg (by cases hv : v.ownBlock <;> simp)
  | some r => exact h2.kept hg (.inr (fun e => (hb r rfl).2.2.2.2 v h1.cell e))
theorem IX.grown {w A B : World} {b : Nat} {pre : List (List UInt8)} {row : Option Nat} (h : IX w b pre A) (hg : A.grownBy B row) (hb : ∀ k, row = some k → k ≠ b ∧ k ≠ b + 1 ∧ b ≤ k) : IX w b pre B := by
  have ne : ∀ x, (∀ k, row = some k → k ≠ x) → some x ≠ row := fun x hx e => hx x e.symm rfl
  exact ⟨h.res.kept hg (ne _ (fun k e => (hb k e).1)), h.err.kept hg (ne _ (fun k e => (hb k e).2.1)), h.one, h.bel.grown hg (by have := h.size; omega) (fun k e => (hb k e).2.2), Nat.le_trans h.size hg.size⟩
theorem IP.own {w : World} {b : Nat} (hb0 : b ≤ w.heap.size) {n0 : Nat} (hn0 : b ≤ n0) : OwnFrom n0 (IP w b) := by
  intro pre A B row h hg hr
  refine h.grown hg (fun k e => ?_)
  obtain ⟨h1, o, h2, h3⟩ := hr k e
  obtain ⟨v, hv, hrow⟩ := h.row
  have nb : ∀ {x : Nat} {t : TypeId} {u : Value}, Boxed A x t u → k ≠ x := fun {x t u} hx e2 => by
    subst e2
    rw [show A.heap[k]? = _ from hx] at h2
    cases h2
    cases h3
  refine ⟨nb h.res, nb h.err, nb hv, by omega, fun u hu e2 => ?_⟩
  rw [hv.cell] at hu
  cases hu
  obtain ⟨_, o', h4, h5⟩ := gown_blockS hrow e2
  rw [h4] at h2
  cases h2
  rw [h5] at h3
  cases h3
theorem IX.own {w : World} {b : Nat} {n0 : Nat} (hn0 : b ≤ n0) : OwnFrom n0 (IX w b) := by
  intro pre A B row h hg hr
  refine h.grown hg (fun k e => ?_)
  obtain ⟨h1, o, h2, h3⟩ := hr k e
  have nb : ∀ {x : Nat} {t : TypeId} {u : Value}, Boxed A x t u → k ≠ x := fun {x t u} hx e2 => by
    subst e2
    rw [show A.heap[k]? = _ from hx] at h2
    cases h2
    cases h3
  exact ⟨nb h.res, nb h.err, by omega⟩
theorem IP.atBr {w A B : World} {b : Nat} {pre : List (List UInt8)} (h : IP w b pre A) (hg : A.grownBy B (some (b + 3))) : IP w b pre B := h.grown hg (fun k e => by
  cases e
  obtain ⟨v, hv, hrow⟩ := h.row
  refine ⟨by omega, by omega, by omega, by omega, fun u hu e2 => ?_⟩
  rw [hv.cell] at hu
  cases hu
  have := (gown_blockS hrow e2).1
  omega)
theorem IX.atBr {w A B : World} {b : Nat} {pre : List (List UInt8)} (h : IX w b pre A) (hg : A.grownBy B (some (b + 3))) : IX w b pre B := h.grown hg (fun k e => by cases e; exact ⟨by omega, by omega, by omega⟩)
theorem MineN.back {w A B : World} {b k : Nat} {pre : List (List UInt8)} {row : Option Nat} (h : IP w b pre A) (hg : A.grownBy B row) (hne : some (b + 2) ≠ row) (hk : MineN b k B) : MineN b k A := by
  obtain ⟨v, hv, hrow⟩ := h.row
  rcases hk with hk | hk | hk | ⟨u, hu, hk⟩
  · exact .inl hk
  · exact .inr (.inl hk)
  · exact .inr (.inr (.inl hk))
  · rw [(hv.kept hg hne).cell] at hu
    cases hu
    exact .inr (.inr (.inr ⟨v, hv.cell, hk⟩))
theorem wpListIn_append_runN {F : Fence} {n : Nat} {P : Program} {w w' : World} {v v' xv : Value} {ty : TypeId} {ops : Array Oper} {rest : List Oper} {o : Oper} {a : Act} {Q : Exit → Act → World → Prop} (hg : o.guard = none) (s x : Operand) (t : TypeId)
    (ho : o.op = .call { callee := .builtin .append, args := #[s, x], argTypes := #[t, t] }) (hty : o.type = ty) (hs : a.eval s = v) (hx : a.eval x = xv)
    (hrun : (Builtin.append_ #[t, t] ty #[v, xv]).run P w = .ok v' w')
    (h : wpListIn F n P ops Q rest (a.put o.dst v') w') : wpListIn F n P ops Q (o :: rest) a w := by
  refine wpListIn_plain hg fun K hK => ?_
  subst hty
  unfold Oper.wpIn
  refine ⟨by simp [Oper.about, ho, resolve, Target.leads, Sem.run_pure], ?_⟩
  rw [Oper.semAt_plain F _ _ (by rw [ho]; intro c hc'; cases hc')]
  simp [execOp, ho, resolve, invoke, builtin, hs, hx, hrun, Result.andThen]
  exact hK _ _ h
end Go.Proofs.YtihgmpebpkjmkaaGreatDoor
