/-
  Fields in memory: how a list of fields lies in this seat's program's world.
-/
import Derived.Test.YtedpimhhbajljaaGreatDoorHsm
set_option linter.unusedVariables false
namespace Go.Proofs.YtedpimhhbajljaaGreatDoor
open Go.RowKit Go.Proofs.Hed

/-- A field: its name, and its value. -/
abbrev Fld := ByteArray × ByteArray
/-- A field's cells. -/
def cellsF (f : Fld) : List Value := [.string f.1, .string f.2]
def flatF (l : List Fld) : List Value := l.flatMap cellsF

theorem flatF_length (l : List Fld) : (flatF l).length = l.length * 2 := by
  induction l with
  | nil => rfl
  | cons f l ih => simp only [flatF, List.flatMap_cons, List.length_append] at ih ⊢; rw [ih]; simp [cellsF]; omega
theorem flatF_append (a b : List Fld) : flatF (a ++ b) = flatF a ++ flatF b := by simp [flatF]
theorem flatF_cons (f : Fld) (l : List Fld) : flatF (f :: l) = cellsF f ++ flatF l := by simp [flatF]
theorem flatF_take (l : List Fld) (k : Nat) : flatF (l.take k) = (flatF l).take (k * 2) := by
  induction l generalizing k with
  | nil => simp [flatF]
  | cons f l ih =>
    cases k with
    | zero => simp [flatF]
    | succ k => rw [List.take_succ_cons, flatF_cons, flatF_cons, ih, List.take_append, show (cellsF f).length = 2 from rfl, List.take_of_length_le (l := cellsF f) (by show 2 ≤ _; omega), show (k + 1) * 2 - 2 = k * 2 by omega]
theorem flatF_drop (l : List Fld) (k : Nat) : flatF (l.drop k) = (flatF l).drop (k * 2) := by
  induction l generalizing k with
  | nil => simp [flatF]
  | cons f l ih =>
    cases k with
    | zero => simp [flatF]
    | succ k => rw [List.drop_succ_cons, flatF_cons, ih, List.drop_append, show (cellsF f).length = 2 from rfl, List.drop_of_length_le (l := cellsF f) (by show 2 ≤ _; omega), show (k + 1) * 2 - 2 = k * 2 by omega]; rfl
theorem flatF_get (l : List Fld) (j : Nat) (h : j < l.length) : (flatF l)[j * 2]? = some (.string l[j].1) ∧ (flatF l)[j * 2 + 1]? = some (.string l[j].2) := by
  have e : (flatF l).drop (j * 2) = cellsF l[j] ++ flatF (l.drop (j + 1)) := by rw [← flatF_drop, List.drop_eq_getElem_cons h, flatF_cons]
  have g : ∀ i, (flatF l)[j * 2 + i]? = (cellsF l[j] ++ flatF (l.drop (j + 1)))[i]? := fun i => by rw [← e, List.getElem?_drop]
  refine ⟨?_, ?_⟩
  · have := g 0; simpa [cellsF] using this
  · have := g 1; simpa [cellsF] using this
theorem flatF_one (l : List Fld) : ∀ u ∈ flatF l, u.oneCell' = true := by
  intro u hu
  simp only [flatF, List.mem_flatMap, cellsF] at hu
  obtain ⟨f, _, hu⟩ := hu
  simp at hu
  rcases hu with rfl | rfl <;> rfl

/-- A field whose texts are such as a program can hold. -/
def Fits (f : Fld) : Prop := f.1.size ≤ 16777216 ∧ f.2.size ≤ 16777216

/-- The value v is a slice of fields whose elements are l. -/
def RowF (w : World) (v : Value) (l : List Fld) : Prop :=
  ∃ (a : Option Addr) (cap : Nat), v = .slice a l.length cap ∧ l.length ≤ 4194304 ∧ (∀ f ∈ l, Fits f) ∧
    (l = [] ∨ ∃ b off, a = some ⟨b, off, none⟩ ∧ b < w.heap.size ∧ ∀ j u, (flatF l)[j]? = some u → w.cell? ⟨b, off + j, none⟩ = some u)

theorem RowF.below {w w' : World} {v : Value} {l : List Fld} (h : RowF w v l) (hb : Below w.heap.size w w') : RowF w' v l := by
  obtain ⟨a, cap, hv, hl, hn, hc⟩ := h
  refine ⟨a, cap, hv, hl, hn, ?_⟩
  rcases hc with hc | ⟨b, off, ha, hlt, hc⟩
  · exact Or.inl hc
  · have := hb.size
    refine Or.inr ⟨b, off, ha, by omega, fun j u hj => ?_⟩
    rw [hb.cell (p := ⟨b, off + j, none⟩) hlt]
    exact hc j u hj

theorem row_cells {w : World} {b off : Nat} {l : List Fld} (hc : ∀ j u, (flatF l)[j]? = some u → w.cell? ⟨b, off + j, none⟩ = some u) {j : Nat} (h : j < l.length) :
    w.cell? ⟨b, off + j * 2, none⟩ = some (.string l[j].1) ∧ w.cell? ⟨b, off + j * 2 + 1, none⟩ = some (.string l[j].2) := by
  obtain ⟨h0, h1⟩ := flatF_get l j h
  exact ⟨hc _ _ h0, by rw [Nat.add_assoc]; exact hc _ _ h1⟩

theorem fldInfo : (Tryz.prog.info? 40).map (fun i => (i.zero, i.size, i.bytes)) = some (some (.agg #[.string ByteArray.empty, .string ByteArray.empty]), 2, 32) := by kernel_rfl
/-- Fields as pairs of lists. -/
def lst (f : Fld) : List UInt8 × List UInt8 := (f.1.data.toList, f.2.data.toList)

/-- Whether a field is called so. -/
def called (nm : ByteArray) (f : Fld) : Bool := decide (smL f.1.data.toList = smL nm.data.toList)
/-- The first value, or the error. -/
def findV (nm : ByteArray) : List Fld → Value
  | [] => .tuple #[.string ⟨#[]⟩, .int .i64 3]
  | f :: r => if called nm f then .tuple #[.string f.2, .int .i64 0] else findV nm r
/-- All values. -/
def allL (nm : ByteArray) (l : List Fld) : List ByteArray := (l.filter (called nm)).map (·.2)

set_option maxHeartbeats 1000000 in
set_option maxRecDepth 100000 in
/-- head.Find tells the first value. -/
theorem find_any (v : Value) (l : List Fld) (nm : ByteArray) (w : World) (h : RowF w v l) (hn : nm.size ≤ 16777216) :
    Calls Tryz.prog 20 #[v, .string nm] w fun e w' => e = .returned (findV nm l) ∧ Below w.heap.size w w' := by
  obtain ⟨a, cap, rfl, hl, hfit, hc⟩ := h
  have HC := hide hc
  have HF := hide hfit
  clear hc hfit
  go_enter Tryz.func20, Tryz.ntmps20
  go_wp2
  go_loopw [10] (fun z wr => ∃ k : Nat, z = .int .i64 k ∧ k ≤ l.length ∧ Hid (findV nm l = findV nm (l.drop k)) ∧ Hid (Below w.heap.size w wr)) (fun z _ => l.length - (intOf z).toNat)
  case atStart => exact ⟨0, rfl, Nat.zero_le _, hide rfl, hide (Below.refl _ _)⟩
  case round =>
    obtain ⟨k, rfl, hk, HE, HB⟩ := hrel
    by_cases hlt : k < l.length
    · have hlt1 : (k : Int) < (l.length : Int) := by omega
      have hx : ∃ b off, a = some ⟨b, off, none⟩ ∧ b < w.heap.size ∧ wr.cell? ⟨b, off + k * 2, none⟩ = some (.string l[k].1) ∧ wr.cell? ⟨b, off + k * 2 + 1, none⟩ = some (.string l[k].2) := by
        rcases unhide HC with h | ⟨b, off, ha, hb, hcj⟩
        · subst h; simp at hlt
        · obtain ⟨c0, c1⟩ := row_cells hcj hlt
          exact ⟨b, off, ha, hb, ((unhide HB).cell (p := ⟨b, off + k * 2, none⟩) hb).trans c0, ((unhide HB).cell (p := ⟨b, off + k * 2 + 1, none⟩) hb).trans c1⟩
      obtain ⟨b, off, rfl, hb, c0, c1⟩ := hx
      have hzr := (unhide HB).size
      have hf := unhide HF l[k] (List.getElem_mem hlt)
      have he := unhide HE
      rw [List.drop_eq_getElem_cons hlt, findV] at he
      have HLK : Hid (∀ W, Calls Tryz.prog 45 #[.string l[k].1, .string nm] W fun e w' => e = .returned (.bool (called nm l[k])) ∧ ∃ q, w' = W.drewN q) := hide (fun W => like_any l[k].1 nm W (by have := hf.1; omega) (by omega))
      have HCL := hide (fun W => cloneS_any l[k].2 W (by have := hf.2; omega))
      have HBA := hide ((unhide HB).alloc hzr (.cells #[.string l[k].1, .string l[k].2] 40))
      cases hm : called nm l[k] with
      | true =>
        rw [hm] at he HLK
        simp only [if_true] at he
        have HFN := hide he
        generalize l[k].1 = x at c0 HLK HBA
        generalize l[k].2 = y at c1 HCL HBA HFN
        clear he hm hf HE
        go_wp2_with fail
        refine (unhide HLK _).mono ?_
        rintro e w2 ⟨rfl, q, rfl⟩
        go_wp2_with fail
        refine (unhide HCL _).mono ?_
        rintro e w3 ⟨rfl, b3⟩
        have HB3 := hide b3
        clear b3
        go_wp2
        go_ret2
        refine ⟨?_, (below_drewN (unhide HBA) q).trans ((unhide HB3).mono (by simp; omega))⟩
        rw [unhide HFN]
        rfl
      | false =>
        rw [hm] at he HLK
        simp only [Bool.false_eq_true, if_false] at he
        have HFN := hide he
        generalize l[k].1 = x at c0 HLK HBA
        generalize l[k].2 = y at c1 HBA
        clear he hm hf HE HCL
        go_wp2_with fail
        refine (unhide HLK _).mono ?_
        rintro e w2 ⟨rfl, q, rfl⟩
        go_wp2
        exact ⟨⟨k + 1, by go_num, by omega, HFN, hide (below_drewN (unhide HBA) _)⟩, by simp [intOf]; omega⟩
    · have hlt1 : ¬ (k : Int) < (l.length : Int) := by omega
      have he := unhide HE
      rw [List.drop_of_length_le (by omega), findV] at he
      have HFN := hide he
      clear he HE
      go_wp2
      go_ret2
      exact ⟨by rw [unhide HFN]; rfl, unhide HB⟩
end Go.Proofs.YtedpimhhbajljaaGreatDoor
