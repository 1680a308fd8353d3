/-
  What runes.Named and runes.Name do, over this seat's program, where the table of names lies as the program's text lays it.
-/
import Derived.Test.YtedpimhhbajljaaGreatDoorRtb
import Derived.Laws.Rows
set_option linter.unusedVariables false
namespace Go.Proofs.YtedpimhhbajljaaGreatDoor
open Go.RowKit Go.Proofs.Rns

/-- A name's charset, among some. -/
def namedF (u : List UInt8) : List (List UInt8 × Nat) → Nat × Nat
  | [] => (0, 14)
  | p :: r => if u = p.1 then (p.2, 0) else namedF u r
/-- A charset's name, among some. -/
def nameF (c : Nat) : List (List UInt8 × Nat) → List UInt8 × Nat
  | [] => ([], 14)
  | p :: r => if p.2 = c then (p.1, 0) else nameF c r
def namedR (l : List UInt8) : Nat × Nat := namedF (l.map upB) namesT
def nameR (c : Nat) : List UInt8 × Nat := nameF c namesT

set_option maxHeartbeats 400000 in
/-- strings.Clone answers the same bytes. -/
theorem clone_str (s : ByteArray) (w : World) (hs : s.size ≤ 281474976710656) :
    Calls Tryz.prog 13 #[.string s] w fun e w' => e = .returned (.string s) ∧ Below w.heap.size w w' := by
  go_enter Tryz.func13, Tryz.ntmps13
  go_wp2_with (go_at_call 35; refine (Tryz.stringslite_Clone s _ hs).mono ?_)
  rintro e w1 ⟨rfl, hb⟩
  go_wp2
  go_ret
  exact ⟨rfl, hb⟩

/-- The name at a place, as a text, and its charset. -/
def nm (k : Nat) : ByteArray := bts (namesT.getD k ([], 0)).1
def ch (k : Nat) : Nat := (namesT.getD k ([], 0)).2
theorem nm_size (k : Nat) : (nm k).size ≤ 100 := by
  unfold nm
  rw [size_bts]
  rcases Nat.lt_or_ge k 10 with h | h
  · rcases (show k = 0 ∨ k = 1 ∨ k = 2 ∨ k = 3 ∨ k = 4 ∨ k = 5 ∨ k = 6 ∨ k = 7 ∨ k = 8 ∨ k = 9 by omega) with rfl | rfl | rfl | rfl | rfl | rfl | rfl | rfl | rfl | rfl <;> decide
  · rw [List.getD_eq_getElem?_getD, List.getElem?_eq_none (by simpa [namesT] using h)]
    simp
theorem ch_lt (k : Nat) : ch k < 6 := by
  unfold ch
  rcases Nat.lt_or_ge k 10 with h | h
  · rcases (show k = 0 ∨ k = 1 ∨ k = 2 ∨ k = 3 ∨ k = 4 ∨ k = 5 ∨ k = 6 ∨ k = 7 ∨ k = 8 ∨ k = 9 by omega) with rfl | rfl | rfl | rfl | rfl | rfl | rfl | rfl | rfl | rfl <;> decide
  · rw [List.getD_eq_getElem?_getD, List.getElem?_eq_none (by simpa [namesT] using h)]
    simp
theorem drop_names {k : Nat} (h : k < 10) : namesT.drop k = ((nm k).data.toList, ch k) :: namesT.drop (k + 1) := by
  rw [List.drop_eq_getElem_cons (by simpa [namesT] using h)]
  unfold nm ch
  rw [toList_bts, List.getD_eq_getElem?_getD, List.getElem?_eq_getElem (by simpa [namesT] using h)]
  rfl

theorem index_names (k : Nat) (hk : k < 10) (w : World) : (Instr.index 113 (.agg namesC.toArray) (.int .i64 k)).run Tryz.prog w = .ok (.agg #[.string (nm k), .int .u8 (ch k : Int)]) w := by
  rcases (show k = 0 ∨ k = 1 ∨ k = 2 ∨ k = 3 ∨ k = 4 ∨ k = 5 ∨ k = 6 ∨ k = 7 ∨ k = 8 ∨ k = 9 by omega) with rfl | rfl | rfl | rfl | rfl | rfl | rfl | rfl | rfl | rfl <;>
    simp [Instr.index, run_underlying Tryz.underlying113, asIntOf, part, Tryz.sizeOf112, Tryz.isAgg112, go_sem, ch, nm, namesT, namesC]

theorem names_size : (Tryz.prog.info? 113).map (·.size) = some namesC.length := by kernel_rfl

theorem load_names {w : World} (h : RTabN w) : (loadVar 113 ⟨0, 0, none⟩).run Tryz.prog w = .ok (.agg namesC.toArray) w := by
  have hl := run_loadCells_list (P := Tryz.prog) w ⟨0, 0, none⟩ namesC (fun j v hv => by
    have hadd : (⟨0, 0, none⟩ : Addr).add j = ⟨0, j, none⟩ := by unfold Addr.add; split <;> simp_all
    rw [hadd]
    exact h.names j v hv)
  obtain ⟨i, hi, hs⟩ := Option.map_eq_some_iff.1 names_size
  simp [loadVar, Sem.run_bind, Tryz.isAgg113, sizeOf, typeInfo, hi, hs, hl]

/-- A whole variable read. -/
theorem wpList_load_var {P : Program} {ops : Array Oper} {rest : List Oper} {o : Oper} {a : Act} {w : World} {Q : Exit → Act → World → Prop} (hgd : o.guard = none) (ty : TypeId) (x : Operand) (ho : o.op = .load ty x)
    (p : Addr) (hx : a.eval x = .pointer (some p)) (v : Value) (hl : (loadVar ty p).run P w = .ok v w) (h : wpList P ops Q rest (a.put o.dst v) w) : wpList P ops Q (o :: rest) a w :=
  wpList_plain hgd fun _ hK => by
    unfold Oper.wp execOp
    simp only [ho, hx, Instr.loadAt, Instr.sureAddr, Sem.run_bind, Sem.run_pure, Result.andThen_ok, hl]
    exact hK _ _ h

set_option maxHeartbeats 1000000 in
set_option maxRecDepth 100000 in
theorem named_any (s : ByteArray) (w : World) (ht : RTabN w) (hs : s.size ≤ 281474976710656) :
    Calls Tryz.prog 52 #[.string s] w fun e w' => e = .returned (.tuple #[.int .u8 (namedR s.data.toList).1, .int .i64 (namedR s.data.toList).2]) ∧ Below w.heap.size w w' := by
  have hld := load_names ht
  have HLD := hide hld
  clear ht hld
  go_enter Tryz.func52, Tryz.ntmps52
  go_wp2_with (refine wpList_load_var rfl 113 _ rfl ⟨0, 0, none⟩ rfl _ (unhide HLD) ?_)
  go_loopw [5, 7] (fun y z wr => ∃ k : Nat, z = .int .i64 k ∧ k ≤ 10 ∧ Hid (namedR s.data.toList = namedF (s.data.toList.map upB) (namesT.drop k)) ∧ Below w.heap.size w wr) (fun _ z _ => 10 - (intOf z).toNat)
  case atStart => exact ⟨0, rfl, by omega, hide rfl, Below.refl _ _⟩
  case round =>
    obtain ⟨k, rfl, hk, HF, hbw⟩ := hrel
    have hzr := hbw.size
    by_cases hlt : k < 10
    · have hix := index_names k hlt
      have hnz := nm_size k
      have hch := ch_lt k
      have hfin := unhide HF
      rw [drop_names hlt, namedF] at hfin
      have HA := hide (fun W => alike_any s (nm k) W hs (by omega))
      clear HF
      by_cases he : s.data.toList.map upB = (nm k).data.toList
      · rw [if_pos he] at hfin
        rw [decide_eq_true he] at HA
        have HF := hide hfin
        clear hfin he
        generalize nm k = x at hix HA hnz
        generalize ch k = y at hix HF hch
        go_wp2_with fail
        refine (unhide HA _).mono ?_
        rintro e w1 ⟨rfl, rfl⟩
        go_wp2
        go_ret2
        exact ⟨by rw [unhide HF]; rfl, hbw.alloc (by omega) _⟩
      · rw [if_neg he] at hfin
        rw [decide_eq_false he] at HA
        have HF := hide hfin
        clear hfin he
        generalize nm k = x at hix HA hnz
        generalize ch k = y at hix hch
        go_wp2_with fail
        refine (unhide HA _).mono ?_
        rintro e w1 ⟨rfl, rfl⟩
        go_wp2
        exact ⟨⟨k + 1, by go_num, by omega, HF, hbw.alloc (by omega) _⟩, by simp [intOf]; omega⟩
    · have hfin : namedR s.data.toList = (0, 14) := by
        rw [unhide HF, show k = 10 by omega]; rfl
      have HF := hide hfin
      clear hfin
      go_wp2
      go_ret2
      exact ⟨by rw [unhide HF]; rfl, hbw⟩

end Go.Proofs.YtedpimhhbajljaaGreatDoor
