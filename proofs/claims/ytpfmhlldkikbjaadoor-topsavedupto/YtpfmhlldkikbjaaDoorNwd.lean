/-
  What nset.put does, over this seat's program.
-/
import Derived.Test.YtpfmhlldkikbjaaDoorNwb
import Derived.Laws.AppendOwnNone
set_option linter.unusedVariables false
namespace Go.Proofs.YtpfmhlldkikbjaaDoor
open Go.RowKit Go.Proofs.Nst

theorem spInfo : (Tryd.prog.info? 51).map (fun i => (i.zero, i.size, i.bytes)) = some (some (.agg #[.int .u32 0, .int .u32 0]), 2, 8) := by kernel_rfl
theorem info_partsN {t : TypeId} {z : Option Value} {s b : Nat} (h : (Tryd.prog.info? t).map (fun i => (i.zero, i.size, i.bytes)) = some (z, s, b)) : ∃ i, Tryd.prog.info? t = some i ∧ i.zero = z ∧ i.size = s ∧ i.bytes = b := by
  cases hi : Tryd.prog.info? t with
  | none => rw [hi] at h; cases h
  | some i =>
    rw [hi] at h
    injection h with h
    injection h with h1 h2
    injection h2 with h2 h3
    exact ⟨i, rfl, h1, h2, h3⟩
theorem run_appS (w : World) (B : Nat) (v : Value) (k : List Sp) (p : Sp) (ty : TypeId) (hown : w.ownsRow B 51 2 v k.length (flatG cellsSn k)) (hkl : k.length ≤ 4194304) (hB : B ≤ w.heap.size) :
    ∃ v' w', (Builtin.append_ #[22, 22] ty #[v, .slice (some ⟨w.heap.size, 0, none⟩) 1 1]).run Tryd.prog (w.alloc (.cells #[.int .u32 (p.1 : Int), .int .u32 (p.2 : Int)] 51)) = .ok v' w' ∧ w'.ownsRow B 51 2 v' (k ++ [p]).length (flatG cellsSn (k ++ [p])) ∧ Below B w w' := by
  obtain ⟨i0, hi, hz0, hz1, hz2⟩ := info_partsN spInfo
  have hx : (w.alloc (.cells (cellsSn p).toArray 51)).ownsRow B 51 2 (.slice (some ⟨w.heap.size, 0, none⟩) 1 1) 1 (cellsSn p).toArray.toList := World.ownsRow_lit w (cellsSn p).toArray 1 hB (by unfold maxLen; omega) rfl
  have hc := hx.cells (g := w.heap.size) rfl
  have hown' := own_below hown ((Below.refl _ w).alloc (Nat.le_refl _) (.cells (cellsSn p).toArray 51))
  obtain ⟨v', w', hrun, h2, h3, h4⟩ := run_append_own (P := Tryd.prog) (w.alloc (.cells (cellsSn p).toArray 51)) B 22 ty 51 i0 (.agg #[.int .u32 0, .int .u32 0]) 2 8 Tryd.underlying22 hi hz0 hz1 hz2 rfl (by decide) v k.length (flatG cellsSn k) hown' ⟨w.heap.size, 0, none⟩ 1 1 (cellsSn p) rfl hc (by intro u hu; simp [cellsSn] at hu; rcases hu with rfl | rfl <;> rfl) (by unfold maxLen; omega) (by omega) (by rw [World.size_alloc]; omega)
  refine ⟨v', w', hrun, ?_, ?_⟩
  · rw [List.length_append, flatG_append]
    simpa [flatG] using h2
  · exact below_own ((Below.refl B w).alloc hB _) hown' h3 (by rw [World.size_alloc]; omega)
theorem wpList_append_runS {P : Program} {w w' : World} {v v' xv : Value} {ty : TypeId} {ops : Array Oper} {rest : List Oper} {o : Oper} {a : Act} {Q : Exit → Act → World → Prop} (hw : Region.wanted o (yielded ops a.tmps) = true) (s x : Operand) (t : TypeId)
    (ho : o.op = .call { callee := .builtin .append, args := #[s, x], argTypes := #[t, t] }) (hty : o.type = ty) (hs : a.eval s = v) (hx : a.eval x = xv)
    (hrun : (Builtin.append_ #[t, t] ty #[v, xv]).run P w = .ok v' w')
    (h : wpList P ops Q rest (a.put o.dst v') w') : wpList P ops Q (o :: rest) a w := by
  refine wpList_step fun K hK => ?_
  rw [if_pos hw]
  subst hty
  unfold Oper.wp
  simp [execOp, ho, resolve, invoke, builtin, hs, hx, hrun, Result.andThen]
  exact hK _ _ h

theorem index_runS (g n cp m : Nat) (k : Int) (hk : k = (m : Int)) (hm : m < n) (w : World) : (Instr.indexAt 22 (.slice (some ⟨g, 0, none⟩) n cp) (.int .i64 k)).run Tryd.prog w = .ok (.pointer (some ⟨g, m * 2, none⟩)) w := by
  subst hk
  obtain ⟨i0, hi, hz0, hz1, hz2⟩ := info_partsN spInfo
  have he : Tryd.prog.elem 22 = 51 := by kernel_rfl
  rw [run_indexAt_slice (P := Tryd.prog) (w := w) (t := 22) (a := ⟨g, 0, none⟩) (len := n) (cap := cp) (k := .i64) (i := (m : Int)) (h := by kernel_rfl)]
  rw [if_pos (by omega), he]
  have hadd : Addr.add ⟨g, 0, none⟩ (m * 2) = ⟨g, m * 2, none⟩ := by rw [add_off0, Nat.zero_add]
  go_simp
  (try omega)
theorem wrap_predN {T q : Nat} (h : q + 1 = T) (hb : T ≤ 4194304) : IntKind.i64.wrap ((T : Int) - 1) = (q : Int) := by rw [IntKind.wrap_i64]; omega
theorem wrap64_pred {T q : Nat} (h : q + 1 = T) (hb : T ≤ 4194304) : wrap64 ((T : Int) - 1) = (q : Int) := by unfold wrap64; omega

end Go.Proofs.YtpfmhlldkikbjaaDoor
