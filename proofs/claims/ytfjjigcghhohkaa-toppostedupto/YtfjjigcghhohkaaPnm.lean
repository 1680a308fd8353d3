/-
  A text is put behind a builder, and it is told which blocks lie as they lay, over this seat's program.
-/
import Derived.Test.YtfjjigcghhohkaaWrb
import Derived.Test.YtfjjigcghhohkaaPnb
set_option linter.unusedVariables false
namespace Go.Proofs.Ytfjjigcghhohkaa
open Go.RowKit

/-- A builder at block b, whose bytes lie in block g. -/
structure Bdr (W : World) (B b : Nat) (g : Option Nat) (l : List UInt8) : Prop where
  isb : Lib.IsBuilderF 54 5 B b (Lib.byteCells l) W
  row : ∃ p v, W.heap[b]? = some (.cells #[p, v] 54 (0, 0)) ∧ v.ownBlock = g
/-- All blocks but b and g lie as they lay. -/
structure Kp (b : Nat) (g : Option Nat) (W W' : World) : Prop where
  os : W'.os = W.os
  tape : W'.tape = W.tape
  output : W'.output = W.output
  size : W.heap.size ≤ W'.heap.size
  block : ∀ k, k < W.heap.size → k ≠ b → some k ≠ g → W'.heap[k]? = W.heap[k]?
/-- The bytes lie where they lay, or in a new block, or nowhere. -/
def Fr (W : World) (g g' : Option Nat) : Prop := g' = g ∨ g' = none ∨ ∃ k, g' = some k ∧ W.heap.size ≤ k
theorem Kp.trans {b : Nat} {g g1 : Option Nat} {W W1 W2 : World} (h1 : Kp b g W W1) (h2 : Kp b g1 W1 W2) (hf : Fr W g g1) : Kp b g W W2 := by
  refine ⟨h2.os.trans h1.os, h2.tape.trans h1.tape, h2.output.trans h1.output, Nat.le_trans h1.size h2.size, fun k hk hb hg => (h2.block k (by have := h1.size; omega) hb ?_).trans (h1.block k hk hb hg)⟩
  rcases hf with rfl | rfl | ⟨j, rfl, hj⟩
  · exact hg
  · simp
  · intro e; have := Option.some.inj e; omega
theorem Fr.trans {W W1 : World} {g g1 g2 : Option Nat} (h1 : Fr W g g1) (h2 : Fr W1 g1 g2) (hs : W.heap.size ≤ W1.heap.size) : Fr W g g2 := by
  rcases h2 with rfl | rfl | ⟨j, rfl, hj⟩
  · exact h1
  · exact .inr (.inl rfl)
  · exact .inr (.inr ⟨j, rfl, by omega⟩)
theorem Kp.refl (b : Nat) (g : Option Nat) (W : World) : Kp b g W W := ⟨rfl, rfl, rfl, Nat.le_refl _, fun _ _ _ _ => rfl⟩
theorem Kp.of_below {b : Nat} {g : Option Nat} {W W' : World} (h : Below W.heap.size W W') : Kp b g W W' := ⟨h.os, h.tape, h.output, h.size, fun k hk _ _ => h.block k hk⟩
theorem Bdr.below {W W' : World} {B b : Nat} {g : Option Nat} {l : List UInt8} (h : Bdr W B b g l) (hb : Below W.heap.size W W') : Bdr W' B b g l := by
  obtain ⟨p, v, h1, h2⟩ := h.row
  exact ⟨isB_below h.isb hb, p, v, (hb.block b (Array.getElem?_eq_some_iff.1 h1).1).trans h1, h2⟩
theorem Bdr.lt {W : World} {B b : Nat} {g : Option Nat} {l : List UInt8} (h : Bdr W B b g l) : b < W.heap.size := by
  obtain ⟨p, v, h1, h2⟩ := h.row
  exact (Array.getElem?_eq_some_iff.1 h1).1

theorem wpList_append_runTU {P : Program} {w w' : World} {v v' xv : Value} {ops : Array Oper} {rest : List Oper} {o : Oper} {a : Act} {Q : Exit → Act → World → Prop} (hgd : o.guard = none) (sl x : Operand) (t u : TypeId)
    (ho : o.op = .call { callee := .builtin .append, args := #[sl, x], argTypes := #[t, u] }) (hs : a.eval sl = v) (hx : a.eval x = xv)
    (hr : (Builtin.append_ #[t, u] o.type #[v, xv]).run P w = .ok v' w') (h : wpList P ops Q rest (a.put o.dst v') w') : wpList P ops Q (o :: rest) a w := by
  refine wpList_plain hgd fun K hK => ?_
  unfold Oper.wp execOp
  simp only [ho, resolve, invoke, builtin, Sem.run_bind, Sem.run_pure, Result.andThen_ok, List.map_toArray, List.map_cons, List.map_nil, hs, hx, hr]
  exact hK _ _ h

theorem str_at (w : World) (base : Nat) (ty : TypeId) (v : Value) (n : Nat) (xs : List Value) (hown : w.ownsRowF base 5 1 v n xs) (s : ByteArray) (h63 : n + s.size ≤ maxLen) (hbytes : n + s.size ≤ 140737488355328) (hbase : base ≤ w.heap.size) :
    ∃ v' w', (Builtin.append_ #[52, 9] ty #[v, .string s]).run Try.prog w = .ok v' w' ∧ w'.ownsRowF base 5 1 v' (n + s.size) (xs ++ Lib.strCells s) ∧ w.grownBy w' v.ownBlock ∧ Fr w v.ownBlock v'.ownBlock := by
  obtain ⟨i0, hi, hz0, hz1, hz2⟩ := info_parts bInfo
  obtain ⟨v', w', hrun, h2, h3, h4⟩ := Lib.run_append_own_stringF (P := Try.prog) w base 52 9 ty 5 i0 Try.underlying52 Try.underlying9 hi hz0 hz1 hz2 v n xs hown s h63 hbytes hbase
  refine ⟨v', w', hrun, h2, h3, ?_⟩
  rcases hown.2 with ⟨rfl, rfl⟩ | ⟨g, cap, cur, fz, rfl, hbg, hg, hfz, hnc, hcm, hcs, htake⟩
  · obtain ⟨v2, w2, hrun2, k2, _, _⟩ := Lib.run_append_own_stringF (P := Try.prog) w w.heap.size 52 9 ty 5 i0 Try.underlying52 Try.underlying9 hi hz0 hz1 hz2 (.slice none 0 0) 0 xs ⟨hown.1, .inl ⟨rfl, rfl⟩⟩ s h63 hbytes (Nat.le_refl _)
    rw [hrun] at hrun2
    injection hrun2 with e1 e2
    subst e1
    rcases k2.2 with ⟨rfl, _⟩ | ⟨g, cap, cur, fz, rfl, hbg, _⟩
    · exact .inl rfl
    · exact .inr (.inr ⟨g, rfl, hbg⟩)
  · by_cases hroom : n + s.size ≤ cap
    · have hr := Lib.run_append_room_stringF (P := Try.prog) w 52 9 ty 5 i0 Try.underlying52 Try.underlying9 hi hz1 g n cap cur fz hg (by simpa using hfz) s hroom (by simp only [maxLen] at h63; omega)
      rw [hrun] at hr
      injection hr with e1 e2
      subst e1
      exact .inl rfl
    · have hxl : xs.length = n := by simpa using hown.1
      have holds : ∀ j u, xs[j]? = some u → w.cell? ((⟨g, 0, none⟩ : Addr).add j) = some u := hown.cells (g := g) rfl
      have hr := Lib.run_append_grow_string (P := Try.prog) w 52 9 ty 5 i0 (.int .u8 0) Try.underlying52 Try.underlying9 hi hz0 ⟨g, 0, none⟩ n cap xs (by rw [hz1]; simpa using hxl) holds s (by simp only [maxLen] at h63; omega) (by omega) (by rw [hz2]; exact growslice_fits (by omega) (by omega))
      rw [hrun] at hr
      injection hr with e1 e2
      subst e1
      exact .inr (.inr ⟨w.heap.size, rfl, Nat.le_refl _⟩)

theorem copyCheck_r {W : World} {B b : Nat} {g : Option Nat} {l : List UInt8} (h : Bdr W B b g l) :
    Calls Try.prog 33 #[.pointer (some ⟨b, 0, none⟩)] W fun e w' => e = .returned (.tuple #[]) ∧ B ≤ b ∧ (∃ v, w'.heap[b]? = some (.cells #[.pointer (some ⟨b, 0, none⟩), v] 54 (0, 0)) ∧ w'.ownsRowF B 5 1 v (Lib.byteCells l).length (Lib.byteCells l) ∧ v.ownBlock ≠ some b ∧ v.ownBlock = g) ∧ But b W w' := by
  obtain ⟨p, v, h1, h2⟩ := h.row
  rcases h.isb with h3 | h3
  · refine (copyCheck_fresh b W h3.cell0 h3.shape h3.frozen0).mono ?_
    rintro e w' ⟨rfl, rfl⟩
    obtain ⟨hB, v1, hb1, ho1, hn1⟩ := h3.used (.pointer (some ⟨b, 0, none⟩))
    have hb2 : Blk W b 54 #[p, v] := h1
    have hb3 : Blk _ b 54 _ := hb2.set 0 (.pointer (some ⟨b, 0, none⟩))
    have hb4 : (some (Obj.cells #[Value.pointer (some ⟨b, 0, none⟩), v1] 54 (0, 0))) = some (Obj.cells (#[p, v].setIfInBounds 0 (.pointer (some ⟨b, 0, none⟩))) 54 (0, 0)) := hb1.symm.trans hb3
    have hv : v1 = v := by
      injection hb4 with e1
      injection e1 with e2
      have := congrArg (fun a => a[1]?) e2
      simpa using this
    subst hv
    exact ⟨rfl, hB, ⟨v1, hb1, ho1, hn1, h2⟩, But.set b W 0 _⟩
  · refine (copyCheck_used b W h3.cell0).mono ?_
    rintro e w' ⟨rfl, rfl⟩
    obtain ⟨hB, v1, hb1, ho1, hn1⟩ := h3
    have hv : v1 = v := by
      have hb4 := hb1.symm.trans h1
      injection hb4 with e1
      injection e1 with e2
      have := congrArg (fun a => a[1]?) e2
      simpa using this
    subst hv
    exact ⟨rfl, hB, ⟨v1, hb1, ho1, hn1, h2⟩, But.refl _ _⟩

set_option maxHeartbeats 2000000 in
set_option maxRecDepth 100000 in
theorem writeString_r {W : World} {B b : Nat} {g : Option Nat} {l : List UInt8} (h : Bdr W B b g l) (s : ByteArray) (hlen : l.length + s.size ≤ 140737488355328) (hBw : B ≤ W.heap.size) :
    Calls Try.prog 20 #[.pointer (some ⟨b, 0, none⟩), .string s] W fun e w' => e = .returned (.tuple #[.int .i64 s.size, .nilIface]) ∧ ∃ g', Bdr w' B b g' (l ++ s.data.toList) ∧ Fr W g g' ∧ Kp b g W w' := by
  have hll : (Lib.byteCells l).length = l.length := Lib.byteCells_length l
  go_enter Try.func20, Try.ntmps20
  go_wp2_with (go_at_call 33; refine (copyCheck_r h).mono ?_)
  rintro e w1 ⟨rfl, hB, ⟨v, hbk, hown, hne, hvg⟩, hb1⟩
  have c0 : w1.cell? ⟨b, 0, none⟩ = some (.pointer (some ⟨b, 0, none⟩)) := by rw [Lib.cell_of_heap hbk]; rfl
  have c1 : w1.cell? ⟨b, 1, none⟩ = some v := by rw [Lib.cell_of_heap hbk]; rfl
  obtain ⟨v', w2, hrun, hown', hgrow, hfr⟩ := str_at w1 B 52 v (Lib.byteCells l).length (Lib.byteCells l) hown s (by unfold maxLen; omega) (by omega) (by have := hb1.size; omega)
  have hlt : b < w1.heap.size := (Array.getElem?_eq_some_iff.1 hbk).1
  have hb2 : w2.heap[b]? = some (.cells #[.pointer (some ⟨b, 0, none⟩), v] 54 (0, 0)) := by
    rw [hgrow.block b hlt (fun e => hne e.symm)]
    exact hbk
  have d0 : w2.cell? ⟨b, 0, none⟩ = some (.pointer (some ⟨b, 0, none⟩)) := by rw [Lib.cell_of_heap hb2]; rfl
  have d1 : w2.cell? ⟨b, 1, none⟩ = some v := by rw [Lib.cell_of_heap hb2]; rfl
  have f1 : w2.frozen? ⟨b, 1, none⟩ = false := Lib.frozen_of_heap hb2 1
  have HFIN : Hid (∃ g', Bdr (w2.setCell ⟨b, 1, none⟩ v') B b g' (l ++ s.data.toList) ∧ Fr W g g' ∧ Kp b g W (w2.setCell ⟨b, 1, none⟩ v')) := hide (by
    refine ⟨v'.ownBlock, ⟨Or.inr ?_, ?_⟩, ?_, ?_⟩
    · have := Lib.BuilderAtF.put (T := 54) (e := 5) hB hb2 (bs' := Lib.byteCells l ++ Lib.strCells s) (by simpa [Lib.strCells_length, hll] using hown') (by decide)
      rw [strCells_eq, ← Lib.byteCells_append] at this
      exact this
    · have hb3 : Blk w2 b 54 #[.pointer (some ⟨b, 0, none⟩), v] := hb2
      exact ⟨_, v', hb3.set 1 v', rfl⟩
    · subst hvg
      have := hb1.size
      rcases hfr with h | h | ⟨k, h, hk⟩
      · exact .inl h
      · exact .inr (.inl h)
      · exact .inr (.inr ⟨k, h, by omega⟩)
    · subst hvg
      have hb3 := But.set b w2 1 v'
      have h1 := hb1.size
      have h2 := hgrow.size
      exact ⟨hb3.os.trans (hgrow.os.trans hb1.os), hb3.tape.trans (hgrow.tape.trans hb1.tape), hb3.output.trans (hgrow.output.trans hb1.output), Nat.le_trans h1 (Nat.le_trans h2 hb3.size), fun k hk hnb hng => (hb3.block k (by omega) hnb).trans ((hgrow.block k (by omega) hng).trans (hb1.block k hk hnb))⟩)
  obtain ⟨ao, n', cap, rfl⟩ : ∃ ao n' cap, v' = .slice ao n' cap := by
    rcases hown'.2 with ⟨hv, _⟩ | ⟨g, cap, cur, fz, hv, _⟩
    · exact ⟨_, _, _, hv⟩
    · exact ⟨_, _, _, hv⟩
  clear h hown hown' hgrow hfr hb1 hne hvg hbk hb2 hlt
  go_wp2_with (at_builtin; refine wpList_append_runTU rfl _ _ 52 9 rfl rfl rfl hrun ?_)
  go_ret2
  exact ⟨rfl, unhide HFIN⟩
end Go.Proofs.Ytfjjigcghhohkaa
