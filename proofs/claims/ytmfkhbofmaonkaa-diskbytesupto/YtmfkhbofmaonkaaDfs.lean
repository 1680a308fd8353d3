/-
  A field of a file is written over, in this seat's program's world.
-/
import Derived.Test.YtmfkhbofmaonkaaDlc
set_option linter.unusedVariables false
namespace Go.Proofs.Ytmfkhbofmaonkaa
open Go.RowKit Go.Proofs.Dsk

theorem flatF_set1 : ∀ (l : List File) (i : Nat) (h : i < l.length) (f : File) (k : Nat) (u : Value), k < 3 → cellsF f = (cellsF l[i]).set k u → (flatF l).set (i * 3 + k) u = flatF (l.set i f)
  | [], i, h, _, _, _, _, _ => by simp at h
  | y :: r, 0, h, f, k, u, hk, hx => by
    simp only [List.getElem_cons_zero] at hx
    rw [Nat.zero_mul, Nat.zero_add, flatF_cons, List.set_cons_zero, flatF_cons, List.set_append_left _ _ (by show k < 3; exact hk), hx]
  | y :: r, i + 1, h, f, k, u, hk, hx => by
    have ih := flatF_set1 r i (by simpa using h) f k u hk (by simpa using hx)
    rw [flatF_cons, List.set_cons_succ, flatF_cons, ← ih, List.set_append_right _ _ (by show 3 ≤ _; omega), show (cellsF y).length = 3 from rfl, show (i + 1) * 3 + k - 3 = i * 3 + k by omega]
theorem fit_set {d : Fs} {i : Nat} {f : File} (h : FitAll d) (hf : Fits f) : FitAll { d with files := d.files.set i f } :=
  ⟨h.1, fun x hx => by
    rcases List.mem_or_eq_of_mem_set hx with h1 | h1
    · exact h.2.1 x h1
    · rw [h1]; exact hf, by rw [List.length_set]; exact h.2.2⟩
/-- A field of a file is written over. -/
theorem SysV.file {w : World} {C B g cap i k : Nat} {d : Fs} {f : File} {u : Value} (h : SysV w C B (.slice (some ⟨g, 0, none⟩) d.files.length cap) d) (hi : i < d.files.length) (hk : k < 3) (hx : cellsF f = (cellsF d.files[i]).set k u) (hf : Fits f) :
    SysV (w.setCell ⟨g, i * 3 + k, none⟩ u) C B (.slice (some ⟨g, 0, none⟩) (d.files.set i f).length cap) { d with files := d.files.set i f } := by
  obtain ⟨h0, hfit, h1, h2, h3⟩ := h
  have hne : B ≠ g := fun e => h3 (by rw [e]; rfl)
  have hlen : (d.files.set i f).length = d.files.length := List.length_set ..
  refine ⟨h0, fit_set hfit hf, ?_, ?_, by rw [hlen]; exact h3⟩
  · rw [hlen]; exact h1.other (a := ⟨g, i * 3 + k, none⟩) hne u
  · have := (h2.stored (i * 3 + k) u).1
    rw [flatF_set1 d.files i hi f k u hk hx] at this
    rw [hlen]
    exact this
theorem SysV.lenSet {w : World} {C B i : Nat} {v : Value} {d : Fs} {f : File} (h : SysV w C B v { d with files := d.files.set i f }) : SysV w C B v { d with files := d.files.set i f } := h
/-- The cells of a file at work. -/
theorem SysV.at {w : World} {C B : Nat} {v : Value} {d : Fs} (h : SysV w C B v d) {i : Nat} (hi : i < d.files.length) :
    ∃ g cap, v = .slice (some ⟨g, 0, none⟩) d.files.length cap ∧ C ≤ g ∧ g < w.heap.size ∧ B ≠ g ∧ w.cell? ⟨g, i * 3, none⟩ = some (.string d.files[i].name) ∧ w.cell? ⟨g, i * 3 + 1, none⟩ = some (.string d.files[i].data) ∧ w.cell? ⟨g, i * 3 + 2, none⟩ = some (.int .i64 d.files[i].synced) ∧ (∀ j, w.frozen? ⟨g, j, none⟩ = false) ∧ ∃ cur, w.heap[g]? = some (.cells cur 56 (0, 0)) := by
  obtain ⟨h0, hfit, h1, h2, h3⟩ := h
  rcases h2.2 with ⟨_, hz⟩ | ⟨g, cap, cur, hv, hb, hg, _⟩
  · omega
  · subst hv
    obtain ⟨t0, t1, t2⟩ := flatF_get d.files i hi
    exact ⟨g, cap, rfl, hb, (Array.getElem?_eq_some_iff.1 hg).1, fun e => h3 (by rw [e]; rfl), (h2.cellAt (i * 3) (by omega)).trans t0, (h2.cellAt (i * 3 + 1) (by omega)).trans t1, (h2.cellAt (i * 3 + 2) (by omega)).trans t2, fun j => h2.frozenAt _, cur, hg⟩
theorem modify_set {l : List File} {i : Nat} (h : i < l.length) (g : File → File) : l.modify i g = l.set i (g l[i]) := by
  apply List.ext_getElem?
  intro j
  rw [List.getElem?_modify, List.getElem?_set]
  by_cases hj : i = j
  · subst hj; simp [h]
  · simp [hj]
end Go.Proofs.Ytmfkhbofmaonkaa
