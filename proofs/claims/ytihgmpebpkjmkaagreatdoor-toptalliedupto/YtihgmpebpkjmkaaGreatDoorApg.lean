/-
  Appends of one thing to a row of one's own, whatever it is, over this seat's program.
-/
import Derived.Test.YtihgmpebpkjmkaaGreatDoorBlc
import Derived.Test.YtihgmpebpkjmkaaGreatDoorRwg
set_option linter.unusedVariables false
set_option linter.unusedSimpArgs false
namespace Go.Proofs.YtihgmpebpkjmkaaGreatDoor
open Go.RowKit

theorem run_appG {α : Type} (c : α → List Value) (k by_ : Nat) (hck : ∀ x, (c x).length = k) (te ts : TypeId) (z : Value) (hu : Tryz.prog.underlying ts = some (.slice te)) (hin : (Tryz.prog.info? te).map (fun i => (i.zero, i.size, i.bytes)) = some (some z, k, by_)) (hzc : z.cells.size = k) (hk0 : 0 < k) (hk : k ≤ 64) (hby : by_ ≤ 1024) (hone : ∀ x, ∀ u ∈ c x, u.oneCell' = true)
    (w : World) (B : Nat) (v : Value) (l : List α) (p : α) (ty : TypeId) (hown : w.ownsRow B te k v l.length (flatG c l)) (hl : l.length ≤ 4194304) (hB : B ≤ w.heap.size) :
    ∃ v' w', (Builtin.append_ #[ts, ts] ty #[v, .slice (some ⟨w.heap.size, 0, none⟩) 1 1]).run Tryz.prog (w.alloc (.cells (c p).toArray te)) = .ok v' w' ∧ w'.ownsRow B te k v' (l ++ [p]).length (flatG c (l ++ [p])) ∧ Below B w w' := by
  obtain ⟨i0, hi, hz0, hz1, hz2⟩ := info_parts hin
  have hx : (w.alloc (.cells (c p).toArray te)).ownsRow B te k (.slice (some ⟨w.heap.size, 0, none⟩) 1 1) 1 (c p).toArray.toList := World.ownsRow_lit w (c p).toArray 1 hB (by unfold maxLen; omega) (by simp [hck])
  have hc := hx.cells (g := w.heap.size) rfl
  have hown' := own_below hown ((Below.refl _ w).alloc (Nat.le_refl _) (.cells (c p).toArray te))
  have hbig : (l.length + 1) * by_ ≤ 4194305 * 1024 := Nat.mul_le_mul (by omega) hby
  obtain ⟨v', w', hrun, h2, h3, h4⟩ := run_append_own (P := Tryz.prog) (w.alloc (.cells (c p).toArray te)) B ts ty te i0 z k by_ hu hi hz0 hz1 hz2 hzc hk0 v l.length (flatG c l) hown' ⟨w.heap.size, 0, none⟩ 1 1 (c p) (by rw [hck, Nat.one_mul]) hc (hone p) (by unfold maxLen; omega) (by omega) (by rw [World.size_alloc]; omega)
  refine ⟨v', w', hrun, ?_, ?_⟩
  · rw [List.length_append, flatG_append]
    simpa [flatG] using h2
  · exact below_own ((Below.refl B w).alloc hB _) hown' h3 (by rw [World.size_alloc]; omega)
theorem wpList_append_runB {P : Program} {w w' : World} {v v' xv : Value} {ty : TypeId} {ops : Array Oper} {rest : List Oper} {o : Oper} {a : Act} {Q : Exit → Act → World → Prop} (hw : Region.wanted o (yielded ops a.tmps) = true) (s x : Operand) (t : TypeId)
    (ho : o.op = .call { callee := .builtin .append, args := #[s, x], argTypes := #[t, t] }) (hty : o.type = ty) (hs : a.eval s = v) (hx : a.eval x = xv)
    (hrun : (Builtin.append_ #[t, t] ty #[v, xv]).run P w = .ok v' w')
    (h : wpList P ops Q rest (a.put o.dst v') w') : wpList P ops Q (o :: rest) a w := by
  refine wpList_step fun K hK => ?_
  rw [if_pos hw]
  subst hty
  unfold Oper.wp
  simp [execOp, ho, resolve, invoke, builtin, hs, hx, hrun, Result.andThen]
  exact hK _ _ h
theorem own_zero {w : World} {C e k n : Nat} {v : Value} {xs : List Value} (h : w.ownsRow C e k v n xs) : w.ownsRow 0 e k v n xs := by
  refine ⟨h.1, ?_⟩
  rcases h.2 with h | ⟨g, cap, cur, hv, hg, rest⟩
  · exact Or.inl h
  · exact Or.inr ⟨g, cap, cur, hv, Nat.zero_le _, rest⟩
theorem own_neT {w : World} {C P e t k n : Nat} {v : Value} {xs : List Value} {cs : Array Value} (h : w.ownsRow C e k v n xs) (hb : Blk w P t cs) (hne : t ≠ e) : v.ownBlock ≠ some P := by
  intro he
  rcases h.2 with ⟨rfl, _⟩ | ⟨g, cap, cur, rfl, _, hg, _⟩
  · simp [Value.ownBlock] at he
  · simp [Value.ownBlock] at he
    subst he
    unfold Blk at hb
    rw [hg] at hb
    injection hb with hb
    injection hb with _ h2 _
    exact hne h2.symm
theorem blk_grownT {w w' : World} {P t : Nat} {cs : Array Value} {o : Option Nat} (h : Blk w P t cs) (hg : w.grownBy w' o) (ho : o ≠ some P) : Blk w' P t cs := by
  unfold Blk at *
  rw [hg.block P (Array.getElem?_eq_some_iff.1 h).1 (fun e => ho e.symm)]
  exact h
theorem run_appGg {α : Type} (c : α → List Value) (k by_ : Nat) (hck : ∀ x, (c x).length = k) (te ts : TypeId) (z : Value) (hu : Tryz.prog.underlying ts = some (.slice te)) (hin : (Tryz.prog.info? te).map (fun i => (i.zero, i.size, i.bytes)) = some (some z, k, by_)) (hzc : z.cells.size = k) (hk0 : 0 < k) (hk : k ≤ 64) (hby : by_ ≤ 1024) (hone : ∀ x, ∀ u ∈ c x, u.oneCell' = true)
    (w : World) (B g : Nat) (v : Value) (l : List α) (p : α) (ty : TypeId) (hown : w.ownsRow B te k v l.length (flatG c l)) (hl : l.length ≤ 4194304) (hB : B ≤ w.heap.size) (hg : Blk w g te (c p).toArray) :
    ∃ v' w', (Builtin.append_ #[ts, ts] ty #[v, .slice (some ⟨g, 0, none⟩) 1 1]).run Tryz.prog w = .ok v' w' ∧ w'.ownsRow B te k v' (l ++ [p]).length (flatG c (l ++ [p])) ∧ Below B w w' ∧ w.grownBy w' v.ownBlock := by
  obtain ⟨i0, hi, hz0, hz1, hz2⟩ := info_parts hin
  have hbig : (l.length + 1) * by_ ≤ 4194305 * 1024 := Nat.mul_le_mul (by omega) hby
  obtain ⟨v', w', hrun, h2, h3, h4⟩ := run_append_own (P := Tryz.prog) w B ts ty te i0 z k by_ hu hi hz0 hz1 hz2 hzc hk0 v l.length (flatG c l) hown ⟨g, 0, none⟩ 1 1 (c p) (by rw [hck, Nat.one_mul]) (fun j u hj => by rw [Addr.add_lit, Nat.zero_add, hg.cell]; simpa using hj) (hone p) (by unfold maxLen; omega) (by omega) hB
  refine ⟨v', w', hrun, ?_, ?_, h3⟩
  · rw [List.length_append, flatG_append]
    simpa [flatG] using h2
  · exact below_own (Below.refl B w) hown h3 hB
end Go.Proofs.YtihgmpebpkjmkaaGreatDoor
