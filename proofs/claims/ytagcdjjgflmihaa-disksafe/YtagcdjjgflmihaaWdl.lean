/-
  What missivelaw04.DiskFails does, over this seat's program: it answers true.
-/
import Derived.Test.YtagcdjjgflmihaaDlw
import Derived.Test.YtagcdjjgflmihaaDqb
import Derived.Test.YtagcdjjgflmihaaDmv
set_option linter.unusedVariables false
set_option linter.unusedSimpArgs false
namespace Go.Proofs.Ytagcdjjgflmihaa
open Go.RowKit Go.Proofs.Dsk

/-- A change fails: it tells an error, and where that is a fault the file system is as is told. -/
def Fl (want : Fs) (p : Fs × Nat) : Prop := (p.2 = 10 ∧ p.1 = want) ∨ (p.2 ≠ 10 ∧ p.2 ≠ 0)
/-- How a file system is behind a fault. -/
def faulted (d : Fs) : Fs := ⟨d.room, d.files, if 0 < d.fuse then d.fuse - 1 else d.fuse, -1, d.down⟩
theorem fl_change {d : Fs} (f : Fs → Fs) (h0 : d.fuse ≠ 0) (h1 : d.fault = 0) : changeR d f = (faulted d, 10) := by
  unfold changeR
  rw [if_neg h0, if_pos h1]
  rfl
theorem work_good {d : Fs} (f : Fs → Fs × Nat) (hr : right d = true) (hd : d.down = false) : workR d f = f d := by
  unfold workR
  rw [if_neg (by simp [hr]), if_neg (by simp [hd])]
/-- The five answers where a fault is due: which of them tell it. -/
theorem fails_all {d : Fs} (name to data : ByteArray) (hr : right d = true) (hd : d.down = false) (h0 : d.fuse ≠ 0) (h1 : d.fault = 0) :
    (createR d name = (faulted d, 10) ∧ appendR d name [data] = (d, 3) ∧ syncR d name = (d, 3) ∧ renameR d name to = (d, 3) ∧ deleteR d name = (d, 3)) ∨
    (∃ c, c ≠ 0 ∧ c ≠ 10 ∧ createR d name = (d, c) ∧ appendR d name [data] = (d, 3) ∧ syncR d name = (d, 3) ∧ renameR d name to = (d, 3) ∧ deleteR d name = (d, 3)) ∨
    (∃ c, c ≠ 0 ∧ c ≠ 10 ∧ createR d name = (d, c) ∧ syncR d name = (faulted d, 10) ∧ deleteR d name = (faulted d, 10) ∧ (appendR d name [data] = (faulted d, 10) ∨ appendR d name [data] = (d, 8)) ∧ (renameR d name to = (faulted d, 10) ∨ renameR d name to = (d, 1))) := by
  have ec : createR d name = createC name d := work_good _ hr hd
  have ea : appendR d name [data] = onR name (appendC [data]) d := work_good _ hr hd
  have es : syncR d name = onR name (fun i d => changeR d fun d => { d with files := d.files.modify i syncF }) d := work_good _ hr hd
  have er : renameR d name to = onR name (renameC to) d := work_good _ hr hd
  have ed : deleteR d name = onR name (fun i d => changeR d fun d => { d with files := d.files.eraseIdx i }) d := work_good _ hr hd
  by_cases hh : has d.files name = true
  · right; right
    have on : ∀ f, onR name f d = f (lb d.files name) d := fun f => by unfold onR; rw [if_pos hh]
    rw [ec, ea, es, er, ed, on, on, on, on, fl_change _ h0 h1, fl_change _ h0 h1]
    have hcr : ∃ c, c ≠ 0 ∧ c ≠ 10 ∧ createC name d = (d, c) := by
      unfold createC
      by_cases hn : named name = false
      · exact ⟨1, by omega, by omega, by rw [if_pos hn]⟩
      · exact ⟨4, by omega, by omega, by rw [if_neg hn, if_pos hh]⟩
    obtain ⟨c, c0, c1, c2⟩ := hcr
    refine ⟨c, c0, c1, c2, rfl, rfl, ?_, ?_⟩
    · unfold appendC
      by_cases hf : (used d.files + total [data] : Int) ≤ d.room
      · left; rw [if_pos hf, if_neg h0, fl_change _ h0 h1]
      · right; rw [if_neg hf]
    · unfold renameC
      by_cases hn : named to = false
      · right; rw [if_pos hn]
      · left; rw [if_neg hn, fl_change _ h0 h1]
  · have on : ∀ f, onR name f d = (d, 3) := fun f => by unfold onR; rw [if_neg hh]
    rw [ec, ea, es, er, ed, on, on, on, on]
    unfold createC
    by_cases hn : named name = false
    · right; left
      exact ⟨1, by omega, by omega, by rw [if_pos hn], rfl, rfl, rfl, rfl⟩
    · by_cases hf : d.files.length = 1024
      · right; left
        exact ⟨8, by omega, by omega, by rw [if_neg hn, if_neg hh, if_pos hf], rfl, rfl, rfl, rfl⟩
      · left
        exact ⟨by rw [if_neg hn, if_neg hh, if_neg hf, fl_change _ h0 h1], rfl, rfl, rfl, rfl⟩
theorem fs_notext (r f t : Int) (b : Bool) (a : Option Addr) (n c : Nat) : ∀ (i : Nat) (x : ByteArray), (#[.int .i64 r, .slice a n c, .int .i64 f, .int .i64 t, .bool b] : Array Value)[i]? ≠ some (.string x) := by
  intro i x
  match i with
  | 0 | 1 | 2 | 3 | 4 => simp
  | i + 5 => simp
theorem rowF_set {W : World} {v : Value} {l : List File} {s : Nat} {t : TypeId} {cs : Array Value} (h : RowF W v l) (hb : Blk W s t cs) (hs : ∀ (i : Nat) (x : ByteArray), cs[i]? ≠ some (.string x)) (i : Nat) (u : Value) : RowF (W.setCell ⟨s, i, none⟩ u) v l := by
  have hg := grown1 W s i u
  obtain ⟨a, cap, hv, h6, hf, hc⟩ := h
  refine ⟨a, cap, hv, h6, hf, ?_⟩
  rcases hc with hc | ⟨b, off, ha, hlt, hc⟩
  · exact Or.inl hc
  · refine Or.inr ⟨b, off, ha, Nat.lt_of_lt_of_le hlt hg.size, fun j u hj => ?_⟩
    have hne : some b ≠ some s := by
      intro e
      simp only [Option.some.injEq] at e
      subst e
      cases l with
      | nil => simp [flatF] at hj
      | cons f l =>
        have := hc 0 (.string f.name) (by simp [flatF, cellsF])
        rw [hb.cell] at this
        exact hs _ _ this
    exact hg.cell (a := ⟨b, off + j, none⟩) (hc j u hj) hne
theorem refSame_self (d : Fs) (v v' : Value) (w : World) (h : RowF w v d.files) (h' : RowF w v' d.files) :
    Calls Try.prog 20 #[fsV d v, fsV d v'] w fun e w' => e = .returned (.bool true) ∧ Below w.heap.size w w' := by
  have := refSame_any d d v v' w h h'
  rw [decide_eq_true rfl] at this
  exact this
theorem rowS_one (w : World) (p : Nat) (hp : p = w.heap.size) (s : ByteArray) (hs : s.size ≤ 9223372036854775807) : RowS (w.alloc (Obj.cells #[.string s] 9)) (.slice (some ⟨p, 0, none⟩) 1 1) [s] := by
  subst hp
  refine ⟨_, 1, rfl, by simp, by simpa using hs, Or.inr ⟨w.heap.size, 0, rfl, by simp, fun j hj => ?_⟩⟩
  have : j = 0 := by simpa using hj
  subst this
  rw [Nat.zero_add, (Blk.new w _ _).cell 0]
  rfl
end Go.Proofs.Ytagcdjjgflmihaa
