/-
  What box.marked does, and what a change does to a box; appends that tell which blocks they turn.
-/
import Derived.Test.YthpjogfclklefaaDoorBpm
set_option linter.unusedVariables false
set_option linter.unusedSimpArgs false
namespace Go.Proofs.YthpjogfclklefaaDoor
open Go.RowKit

/-- The flags of a mail behind a change. -/
def markF (k h f : Nat) : Nat := if k = 3 then h ||| f else if k = 4 then h &&& (255 - f) else f
theorem markF_le {k h f : Nat} (hh : h ≤ 255) (hf : f ≤ 255) : markF k h f ≤ 255 := by
  unfold markF
  split
  · have := Nat.or_lt_two_pow (n := 8) (x := h) (y := f) (by omega) (by omega); omega
  · split
    · have := Nat.and_le_left (n := h) (m := 255 - f); omega
    · exact hf
set_option maxHeartbeats 1000000 in
theorem marked_any (k h f : Nat) (w : World) (hk : k ≤ 255) (hh : h ≤ 255) (hf : f ≤ 255) : Calls Tryd.prog 48 #[.int .u8 (k : Int), .int .u8 (h : Int), .int .u8 (f : Int)] w fun e w' => e = .returned (.int .u8 (markF k h f : Int)) ∧ w' = w := by
  have o1 := u8_or_nat h f (by omega) (by omega)
  have o2 := u8_andNot_nat h f (by omega) (by omega)
  unfold markF
  by_cases h3 : k = 3
  · rw [if_pos h3]
    have d3 : ((k : Int) == 3) = true := by simp; omega
    clear h3 hk hh hf o2
    go_enter Tryd.func48, Tryd.ntmps48
    go_wp2
    go_ret
    exact ⟨by rw [← o1]; rfl, rfl⟩
  · have d3 : ((k : Int) == 3) = false := by simp; omega
    rw [if_neg h3]
    by_cases h4 : k = 4
    · rw [if_pos h4]
      have d4 : ((k : Int) == 4) = true := by simp; omega
      clear h3 h4 hk hh hf o1
      go_enter Tryd.func48, Tryd.ntmps48
      go_wp2
      go_ret
      exact ⟨by rw [← o2]; rfl, rfl⟩
    · rw [if_neg h4]
      have d4 : ((k : Int) == 4) = false := by simp; omega
      clear h3 h4 hk hh hf o1 o2
      go_enter Tryd.func48, Tryd.ntmps48
      go_wp2
      go_ret
      exact ⟨rfl, rfl⟩

/-- A row of one's own lies in no block of another type. -/
theorem own_setT {w : World} {C P t e k n i : Nat} {v u : Value} {xs : List Value} {cs : Array Value} (h : w.ownsRow C e k v n xs) (hb : Blk w P t cs) (hne : t ≠ e) : (w.setCell ⟨P, i, none⟩ u).ownsRow C e k v n xs := by
  refine h.kept (row := some P) ⟨rfl, rfl, rfl, by simp, fun k hk hne2 => Below.heap_setCell _ _ _ _ (fun e => hne2 (by rw [e]))⟩ ?_
  right
  exact own_neT h hb hne

theorem run_app32g (w : World) (B g : Nat) (v : Value) (l : List Nat) (p : Nat) (ty : TypeId) (hown : w.ownsRow B 22 1 v l.length (flatG cells32 l)) (hl : l.length ≤ 4194304) (hB : B ≤ w.heap.size) (hg : Blk w g 22 #[.int .u32 (p : Int)]) :
    ∃ v' w', (Builtin.append_ #[28, 28] ty #[v, .slice (some ⟨g, 0, none⟩) 1 1]).run Tryd.prog w = .ok v' w' ∧ w'.ownsRow B 22 1 v' (l ++ [p]).length (flatG cells32 (l ++ [p])) ∧ Below B w w' ∧ w.grownBy w' v.ownBlock :=
  run_appGg cells32 1 4 cells32_len 22 28 (.int .u32 0) Tryd.underlying28 u32Info rfl (by decide) (by decide) (by decide) (by intro x u hu; simp [cells32] at hu; subst hu; rfl) w B g v l p ty hown hl hB hg
theorem run_appMg (w : World) (B g : Nat) (v : Value) (l : List Msg) (p : Msg) (ty : TypeId) (hown : w.ownsRow B 47 6 v l.length (flatG msC l)) (hl : l.length ≤ 4194304) (hB : B ≤ w.heap.size) (hg : Blk w g 47 #[.int .u32 (p.uid : Int), .int .u8 (p.fl : Int), .int .i64 p.dy, .int .i64 p.sc, .int .i64 p.zn, .string p.raw]) :
    ∃ v' w', (Builtin.append_ #[24, 24] ty #[v, .slice (some ⟨g, 0, none⟩) 1 1]).run Tryd.prog w = .ok v' w' ∧ w'.ownsRow B 47 6 v' (l ++ [p]).length (flatG msC (l ++ [p])) ∧ Below B w w' ∧ w.grownBy w' v.ownBlock :=
  run_appGg msC 6 48 msC_len 47 24 _ Tryd.underlying24 msgInfo rfl (by decide) (by decide) (by decide) (by intro x u hu; exact flatM_one [x] u (by rw [flatG_one]; exact hu)) w B g v l p ty hown hl hB hg
theorem step_append_runB {P : Program} {ops : Array Oper} {o : Oper} {a : Act} {w w' : World} {K : Act → World → Prop} {Q : Exit → Act → World → Prop} {E : Prop} (hgd : o.guard = none) (s x : Operand) (t tn : TypeId)
    (ho : o.op = .call { callee := .builtin .append, args := #[s, x], argTypes := #[t, tn] }) (vs vx v' : Value) (hs : a.eval s = vs) (hx : a.eval x = vx)
    (hr : (Builtin.append_ #[t, tn] o.type #[vs, vx]).run P w = .ok v' w') (h : K (a.put o.dst v') w') :
    if Region.wanted o (yielded ops a.tmps) = true then Oper.wp P o a w K Q else E := by
  have hw : Region.wanted o (yielded ops a.tmps) = true := by simp [Region.wanted, hgd]
  rw [if_pos hw]
  unfold Oper.wp
  simp [execOp, ho, resolve, invoke, builtin, hs, hx, hr, Result.andThen]
  exact h
end Go.Proofs.YthpjogfclklefaaDoor
