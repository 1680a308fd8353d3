/-
  Files in memory: how a list of files, and a file system, lie in this seat's program's world.
-/
import Derived.Test.YtpfmhlldkikbjaaDoorDsk
import Derived.Test.YtpfmhlldkikbjaaDoorBlc
import Derived.WalkKit
import Derived.BigCall
import Derived.Deep.Cut
set_option linter.unusedVariables false
namespace Go.Proofs.YtpfmhlldkikbjaaDoor
open Go.RowKit Go.Proofs.Dsk

theorem belows {w a b : World} (h1 : Below w.heap.size w a) (h2 : Below a.heap.size a b) : Below w.heap.size w b := h1.trans (h2.mono h1.size)
theorem below_alloc' {w w' : World} {o : Obj} (h : Below (w.alloc o).heap.size (w.alloc o) w') : Below w.heap.size w w' := ((Below.refl _ w).alloc (Nat.le_refl _) o).trans (h.mono (by simp))
theorem below_drewN {B : Nat} {a w : World} (h : Below B a w) (n : Nat) : Below B a (w.drewN n) := ⟨h.os, h.tape, h.output, h.size, h.block⟩
/-- A file's cells. -/
def cellsF (f : File) : List Value := [.string f.name, .string f.data, .int .i64 f.synced]
def flatF (l : List File) : List Value := l.flatMap cellsF

theorem flatF_length (l : List File) : (flatF l).length = l.length * 3 := by
  induction l with
  | nil => rfl
  | cons f l ih => simp only [flatF, List.flatMap_cons, List.length_append] at ih ⊢; rw [ih]; simp [cellsF]; omega
theorem flatF_append (a b : List File) : flatF (a ++ b) = flatF a ++ flatF b := by simp [flatF]
theorem flatF_cons (f : File) (l : List File) : flatF (f :: l) = cellsF f ++ flatF l := by simp [flatF]
theorem flatF_take (l : List File) (k : Nat) : flatF (l.take k) = (flatF l).take (k * 3) := by
  induction l generalizing k with
  | nil => simp [flatF]
  | cons f l ih =>
    cases k with
    | zero => simp [flatF]
    | succ k => rw [List.take_succ_cons, flatF_cons, flatF_cons, ih, List.take_append, show (cellsF f).length = 3 from rfl, List.take_of_length_le (l := cellsF f) (by show 3 ≤ _; omega), show (k + 1) * 3 - 3 = k * 3 by omega]
theorem flatF_drop (l : List File) (k : Nat) : flatF (l.drop k) = (flatF l).drop (k * 3) := by
  induction l generalizing k with
  | nil => simp [flatF]
  | cons f l ih =>
    cases k with
    | zero => simp [flatF]
    | succ k => rw [List.drop_succ_cons, flatF_cons, ih, List.drop_append, show (cellsF f).length = 3 from rfl, List.drop_of_length_le (l := cellsF f) (by show 3 ≤ _; omega), show (k + 1) * 3 - 3 = k * 3 by omega]; rfl
theorem flatF_get (l : List File) (j : Nat) (h : j < l.length) : (flatF l)[j * 3]? = some (.string l[j].name) ∧ (flatF l)[j * 3 + 1]? = some (.string l[j].data) ∧ (flatF l)[j * 3 + 2]? = some (.int .i64 l[j].synced) := by
  have e : (flatF l).drop (j * 3) = cellsF l[j] ++ flatF (l.drop (j + 1)) := by rw [← flatF_drop, List.drop_eq_getElem_cons h, flatF_cons]
  have g : ∀ i, (flatF l)[j * 3 + i]? = (cellsF l[j] ++ flatF (l.drop (j + 1)))[i]? := fun i => by rw [← e, List.getElem?_drop]
  refine ⟨?_, ?_, ?_⟩
  · have := g 0; simpa [cellsF] using this
  · have := g 1; simpa [cellsF] using this
  · have := g 2; simpa [cellsF] using this
theorem flatF_one (l : List File) : ∀ u ∈ flatF l, u.oneCell' = true := by
  intro u hu
  simp only [flatF, List.mem_flatMap, cellsF] at hu
  obtain ⟨f, _, hu⟩ := hu
  simp at hu
  rcases hu with rfl | rfl | rfl <;> rfl

/-- A file whose numbers are such as a program can hold. -/
def Fits (f : File) : Prop := f.name.size ≤ 9223372036854775807 ∧ f.data.size ≤ 9223372036854775807 ∧ -9223372036854775808 ≤ f.synced ∧ f.synced ≤ 9223372036854775807

/-- The value v is a slice of files whose elements are l. -/
def RowF (w : World) (v : Value) (l : List File) : Prop :=
  ∃ (a : Option Addr) (cap : Nat), v = .slice a l.length cap ∧ l.length ≤ 9223372036854775807 ∧ (∀ f ∈ l, Fits f) ∧
    (l = [] ∨ ∃ b off, a = some ⟨b, off, none⟩ ∧ b < w.heap.size ∧ ∀ j u, (flatF l)[j]? = some u → w.cell? ⟨b, off + j, none⟩ = some u)

theorem RowF.below {w w' : World} {v : Value} {l : List File} (h : RowF w v l) (hb : Below w.heap.size w w') : RowF w' v l := by
  obtain ⟨a, cap, hv, hl, hn, hc⟩ := h
  refine ⟨a, cap, hv, hl, hn, ?_⟩
  rcases hc with hc | ⟨b, off, ha, hlt, hc⟩
  · exact Or.inl hc
  · have := hb.size
    refine Or.inr ⟨b, off, ha, by omega, fun j u hj => ?_⟩
    rw [hb.cell (p := ⟨b, off + j, none⟩) hlt]
    exact hc j u hj

theorem row_cells {w : World} {b off : Nat} {l : List File} (hc : ∀ j u, (flatF l)[j]? = some u → w.cell? ⟨b, off + j, none⟩ = some u) {j : Nat} (h : j < l.length) :
    w.cell? ⟨b, off + j * 3, none⟩ = some (.string l[j].name) ∧ w.cell? ⟨b, off + j * 3 + 1, none⟩ = some (.string l[j].data) ∧ w.cell? ⟨b, off + j * 3 + 2, none⟩ = some (.int .i64 l[j].synced) := by
  obtain ⟨h0, h1, h2⟩ := flatF_get l j h
  exact ⟨hc _ _ h0, by rw [Nat.add_assoc]; exact hc _ _ h1, by rw [Nat.add_assoc]; exact hc _ _ h2⟩

/-- The value of a file system whose files are the value v. -/
def fsV (d : Fs) (v : Value) : Value := .agg #[.int .i64 d.room, v, .int .i64 d.fuse, .int .i64 d.fault, .bool d.down]
/-- The numbers of a file system are such as a program can hold. -/
def FitsFs (d : Fs) : Prop := (-9223372036854775808 ≤ d.room ∧ d.room ≤ 9223372036854775807) ∧ (-9223372036854775808 ≤ d.fuse ∧ d.fuse ≤ 9223372036854775807) ∧ (-9223372036854775808 ≤ d.fault ∧ d.fault ≤ 9223372036854775807)

theorem fileInfo : (Tryd.prog.info? 69).map (fun i => (i.zero, i.size, i.bytes)) = some (some (.agg #[.string ByteArray.empty, .string ByteArray.empty, .int .i64 0]), 3, 40) := by kernel_rfl

end Go.Proofs.YtpfmhlldkikbjaaDoor
