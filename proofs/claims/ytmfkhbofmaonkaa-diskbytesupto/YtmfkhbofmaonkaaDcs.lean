/-
  What disk.Crash does, over this seat's program.
-/
import Derived.Test.YtmfkhbofmaonkaaDaq
import Derived.Test.YtmfkhbofmaonkaaDra
import Derived.Deep.QuietTactic
import Derived.BigQuiet
set_option linter.unusedVariables false
set_option linter.unusedSimpArgs false
namespace Go.Proofs.Ytmfkhbofmaonkaa
open Go.RowKit Go.Proofs.Dsk

/-- The value v is a slice of numbers whose elements are l. -/
def RowI (w : World) (v : Value) (l : List Int) : Prop :=
  ∃ (a : Option Addr) (cap : Nat), v = .slice a l.length cap ∧ l.length ≤ 9223372036854775807 ∧ (∀ x ∈ l, -9223372036854775808 ≤ x ∧ x ≤ 9223372036854775807) ∧
    (l = [] ∨ ∃ b off, a = some ⟨b, off, none⟩ ∧ b < w.heap.size ∧ ∀ j (h : j < l.length), w.cell? ⟨b, off + j, none⟩ = some (.int .i64 l[j]))
theorem RowI.below {w w' : World} {v : Value} {l : List Int} (h : RowI w v l) (hb : Below w.heap.size w w') : RowI w' v l := by
  obtain ⟨a, cap, hv, hl, hn, hc⟩ := h
  refine ⟨a, cap, hv, hl, hn, ?_⟩
  rcases hc with hc | ⟨b, off, ha, hlt, hc⟩
  · exact Or.inl hc
  · have := hb.size
    refine Or.inr ⟨b, off, ha, by omega, fun j hj => ?_⟩
    rw [hb.cell (p := ⟨b, off + j, none⟩) hlt]
    exact hc j hj

theorem SysV.sh {w w' : World} {C B : Nat} {v : Value} {d : Fs} (h : SysV w C B v d) (hw : w' = { w with drawn := w'.drawn }) : SysV w' C B v d := by rw [hw]; exact h
/-- How many bytes more of a file are kept. -/
def moreK (keep : List Int) (i : Nat) (f : File) : Int := if i < keep.length then min (max (keep[i]!) 0) (f.data.size - f.synced) else 0
theorem keepAt_eq (keep : List Int) (i : Nat) (f : File) : keepAt keep i f = { f with data := f.data.extract 0 (f.synced + moreK keep i f).toNat, synced := f.synced + moreK keep i f } := rfl
theorem moreK_le (keep : List Int) (i : Nat) {f : File} (h : f.synced ≤ f.data.size) : 0 ≤ moreK keep i f ∧ moreK keep i f ≤ f.data.size - f.synced := by
  unfold moreK
  split
  · omega
  · omega
def crashL (keep : List Int) (k : Nat) (l : List File) : List File := l.mapIdx fun j f => if j < k then keepAt keep j f else f
theorem crashL_len (keep : List Int) (k : Nat) (l : List File) : (crashL keep k l).length = l.length := by simp [crashL]
theorem crashL_zero (keep : List Int) (l : List File) : crashL keep 0 l = l := by
  apply List.ext_getElem
  · simp [crashL]
  · intro i h1 h2; simp [crashL]
theorem crashL_all (keep : List Int) (l : List File) : crashL keep l.length l = l.mapIdx (keepAt keep) := by
  apply List.ext_getElem
  · simp [crashL]
  · intro i h1 h2
    simp only [crashL, List.length_mapIdx] at h1
    simp [crashL, h1]
theorem crashL_at (keep : List Int) (k : Nat) (l : List File) (h : k < l.length) (h' : k < (crashL keep k l).length) : (crashL keep k l)[k] = l[k] := by simp [crashL]
theorem crashL_step (keep : List Int) (k : Nat) (l : List File) (h : k < l.length) : (crashL keep k l).set k (keepAt keep k l[k]) = crashL keep (k + 1) l := by
  apply List.ext_getElem
  · simp [crashL]
  · intro i h1 h2
    rw [List.getElem_set]
    by_cases hk : k = i
    · subst hk; simp [crashL]
    · rw [if_neg hk]
      simp only [crashL, List.getElem_mapIdx]
      by_cases h3 : i < k
      · rw [if_pos h3, if_pos (by omega)]
      · rw [if_neg h3, if_neg (by omega)]
/-- A file of the list at work is put in another one's place: first its number, then its bytes. -/
theorem keep_step {w : World} {C B g m cap k : Nat} {d : Fs} {keep : List Int} (hm : d.files.length = m) (hk : k < d.files.length) (h : SysV w C B (.slice (some ⟨g, 0, none⟩) m cap) { d with files := crashL keep k d.files }) (hok : 0 ≤ d.files[k].synced ∧ d.files[k].synced ≤ d.files[k].data.size) :
    SysV ((w.setCell ⟨g, k * 3 + 2, none⟩ (.int .i64 (d.files[k].synced + moreK keep k d.files[k]))).setCell ⟨g, k * 3 + 1, none⟩ (.string (d.files[k].data.extract 0 (d.files[k].synced + moreK keep k d.files[k]).toNat))) C B (.slice (some ⟨g, 0, none⟩) m cap) { d with files := crashL keep (k + 1) d.files } := by
  have hk1 : k < (crashL keep k d.files).length := by rw [crashL_len]; exact hk
  have hat := crashL_at keep k d.files hk hk1
  have hmm := moreK_le keep k hok.2
  have hfi := h.2.1.2.1 _ (List.getElem_mem hk1)
  rw [hat] at hfi
  have h1 := SysV.fileM (d := { d with files := crashL keep k d.files }) (f := { d.files[k] with synced := d.files[k].synced + moreK keep k d.files[k] }) (u := .int .i64 (d.files[k].synced + moreK keep k d.files[k])) h (by show (crashL keep k d.files).length = m; rw [crashL_len]; exact hm) hk1 (show 2 < 3 by omega) (by show cellsF _ = (cellsF (crashL keep k d.files)[k]).set 2 _; rw [hat]; rfl) ⟨hfi.1, hfi.2.1, by show -9223372036854775808 ≤ d.files[k].synced + moreK keep k d.files[k]; omega, by show d.files[k].synced + moreK keep k d.files[k] ≤ 9223372036854775807; have := hfi.2.1; omega⟩
  have hk2 : k < ((crashL keep k d.files).set k { d.files[k] with synced := d.files[k].synced + moreK keep k d.files[k] }).length := by rw [List.length_set]; exact hk1
  have h2 := SysV.fileM (d := { d with files := (crashL keep k d.files).set k { d.files[k] with synced := d.files[k].synced + moreK keep k d.files[k] } }) (f := keepAt keep k d.files[k]) (u := .string (d.files[k].data.extract 0 (d.files[k].synced + moreK keep k d.files[k]).toNat)) h1 (by show List.length (List.set _ _ _) = m; rw [List.length_set, crashL_len]; exact hm) hk2 (show 1 < 3 by omega) (by rw [keepAt_eq]; simp [cellsF]) (by
    rw [keepAt_eq]
    exact ⟨hfi.1, Nat.le_trans (extract_le _ _) hfi.2.1, by show -9223372036854775808 ≤ d.files[k].synced + moreK keep k d.files[k]; omega, by show d.files[k].synced + moreK keep k d.files[k] ≤ 9223372036854775807; have := hfi.2.1; omega⟩)
  simp only [setset, crashL_step keep k d.files hk] at h2
  exact h2
end Go.Proofs.Ytmfkhbofmaonkaa
