/-
  Plain mathematics of what is renamed.
-/
import Derived.Test.YtagcdjjgflmihaaDrn
set_option linter.unusedVariables false
namespace Go.Proofs.Ytagcdjjgflmihaa
open Go.Proofs.Dsk

/-- A file system with other files. -/
def withF (d : Fs) (m : List File) : Fs := ⟨d.room, m, d.fuse, d.fault, d.down⟩
theorem used_cons (f : File) (l : List File) : used (f :: l) = f.data.size + used l := by simp [used]
theorem used_erase : ∀ {l : List File} {i : Nat} (h : i < l.length), used l = used (l.eraseIdx i) + l[i].data.size
  | [], i, h => by simp at h
  | f :: l, 0, h => by simp [used_cons]; omega
  | f :: l, i + 1, h => by
    have := used_erase (l := l) (i := i) (by simpa using h)
    simp only [List.eraseIdx_cons_succ, used_cons, List.getElem_cons_succ]
    omega
theorem used_insert : ∀ {l : List File} {i : Nat} {f : File}, i ≤ l.length → used (l.insertIdx i f) = used l + f.data.size
  | l, 0, f, _ => by simp [used_cons]; omega
  | [], i + 1, f, h => by simp at h
  | g :: l, i + 1, f, h => by
    have := used_insert (l := l) (i := i) (f := f) (by simpa using h)
    simp only [List.insertIdx_succ_cons, used_cons]
    omega
theorem used_set : ∀ (l : List File) (i : Nat) (f : File), used (l.set i f) ≤ used l + f.data.size
  | [], i, f => by simp [used]
  | g :: l, 0, f => by simp only [List.set_cons_zero, used_cons]; omega
  | g :: l, i + 1, f => by
    have := used_set l i f
    simp only [List.set_cons_succ, used_cons]
    omega

/-- What a list is with a file called otherwise. -/
structure Ren (l : List File) (i : Nat) (to : ByteArray) (hi : i < l.length) (m : List File) : Prop where
  rise : Rise m
  mem : (⟨to, l[i].data, l[i].synced⟩ : File) ∈ m
  sub : ∀ f ∈ m, f = ⟨to, l[i].data, l[i].synced⟩ ∨ (f ∈ l ∧ f.name ≠ l[i].name)
  le : m.length ≤ l.length
  ge : l.length ≤ m.length + 1
  fit : used m ≤ used l

theorem ren_is {l : List File} (h : Rise l) {i : Nat} (hi : i < l.length) (to : ByteArray) : Ren l i to hi (renL l i to) := by
  have hg : l[i]! = l[i] := getElem!_pos l i hi
  have h1 := rise_erase h i
  have hlen : (l.eraseIdx i).length = l.length - 1 := List.length_eraseIdx_of_lt hi
  have hmem : ∀ f ∈ l.eraseIdx i, f ∈ l ∧ f.name ≠ l[i].name := fun f hf => by
    rw [erase_filter h hi, List.mem_filter] at hf
    exact ⟨hf.1, by simpa using hf.2⟩
  have hus := used_erase hi
  by_cases hh : has (l.eraseIdx i) to = true
  · have e : renL l i to = (l.eraseIdx i).set (lb (l.eraseIdx i) to) ⟨to, l[i].data, l[i].synced⟩ := by unfold renL; simp only [hg]; rw [if_pos hh]
    rw [e]
    obtain ⟨hp, hn⟩ := has_lb h1 hh
    refine ⟨rise_set h1 hp (by rw [hn]), List.mem_set hp _, fun f hf => ?_, by rw [List.length_set]; omega, by rw [List.length_set]; omega, ?_⟩
    · rcases List.mem_or_eq_of_mem_set hf with h2 | h2
      · exact Or.inr (hmem f h2)
      · exact Or.inl h2
    · have := used_set (l.eraseIdx i) (lb (l.eraseIdx i) to) ⟨to, l[i].data, l[i].synced⟩
      simp only at this
      omega
  · have e : renL l i to = (l.eraseIdx i).insertIdx (lb (l.eraseIdx i) to) ⟨to, l[i].data, l[i].synced⟩ := by unfold renL; simp only [hg]; rw [if_neg hh]
    rw [e]
    have hle := lb_le (l.eraseIdx i) to
    have hil : ((l.eraseIdx i).insertIdx (lb (l.eraseIdx i) to) ⟨to, l[i].data, l[i].synced⟩).length = l.length := by rw [insert_len _ _ _ hle, hlen]; omega
    refine ⟨rise_insert h1 (f := ⟨to, l[i].data, l[i].synced⟩) (by simpa using hh), (List.mem_insertIdx hle).2 (Or.inl rfl), fun f hf => ?_, by omega, by omega, ?_⟩
    · rcases (List.mem_insertIdx hle).1 hf with h2 | h2
      · exact Or.inl h2
      · exact Or.inr (hmem f h2)
    · rw [used_insert hle]
      simp only
      omega

theorem spent_room (d : Fs) : (spent d).room = d.room ∧ (spent d).files = d.files ∧ (spent d).down = d.down := ⟨rfl, rfl, rfl⟩
theorem spent_right {d : Fs} {m : List File} (h : right d = true) (hl : m.length ≤ 1024) (hu : used m ≤ used d.files) (ho : ∀ f ∈ m, fileOk f = true) (hr : Rise m) : right (withF (spent d) m) = true := by
  obtain ⟨h1, h2, h3, h4⟩ := right_parts h
  refine right_yes (headOk_yes.2 ⟨h1.1, h1.2.1, hl, ?_, ?_⟩) ?_ (List.all_eq_true.2 ho) hr
  · show -1 ≤ (spent d).fuse
    simp only [spent]
    split <;> omega
  · show -1 ≤ (spent d).fault
    simp only [spent]
    split <;> omega
  · show (used m : Int) ≤ d.room
    omega

/-- A change that is done. -/
theorem changeR_ok {d : Fs} {f : Fs → Fs} (h : (changeR d f).2 = 0) : changeR d f = (f (spent d), 0) := by
  unfold changeR at h ⊢
  by_cases h0 : d.fuse = 0
  · rw [if_pos h0] at h; simp at h
  · rw [if_neg h0] at h ⊢
    by_cases h1 : d.fault = 0
    · rw [if_pos h1] at h; simp at h
    · rw [if_neg h1]
theorem workR_ok {d : Fs} {f : Fs → Fs × Nat} (h : (workR d f).2 = 0) : right d = true ∧ d.down = false ∧ workR d f = f d := by
  unfold workR at h ⊢
  by_cases h0 : right d = false
  · rw [if_pos h0] at h; simp at h
  · rw [if_neg h0] at h ⊢
    by_cases h1 : d.down = true
    · rw [if_pos h1] at h; simp at h
    · rw [if_neg h1]
      exact ⟨by simpa using h0, by simpa using h1, rfl⟩
theorem onR_ok {d : Fs} {n : ByteArray} {f : Nat → Fs → Fs × Nat} (h : (onR n f d).2 = 0) : has d.files n = true ∧ onR n f d = f (lb d.files n) d := by
  unfold onR at h ⊢
  by_cases h0 : has d.files n = true
  · rw [if_pos h0]; exact ⟨h0, rfl⟩
  · rw [if_neg h0] at h; simp at h

theorem rename_ok {d : Fs} {fr to : ByteArray} (h : (renameR d fr to).2 = 0) : right d = true ∧ d.down = false ∧ has d.files fr = true ∧ named to = true ∧ (renameR d fr to).1 = withF (spent d) (renL d.files (lb d.files fr) to) := by
  have e : renameR d fr to = workR d (onR fr (renameC to)) := rfl
  rw [e] at h ⊢
  obtain ⟨h1, h2, h3⟩ := workR_ok h
  rw [h3] at h ⊢
  obtain ⟨h4, h5⟩ := onR_ok h
  rw [h5] at h ⊢
  unfold renameC at h ⊢
  by_cases h6 : named to = false
  · rw [if_pos h6] at h; simp at h
  · rw [if_neg h6] at h ⊢
    refine ⟨h1, h2, h4, by simpa using h6, ?_⟩
    rw [changeR_ok h]
    rfl

/-- What is renamed is read there as it was. -/
theorem moved {d : Fs} {fr to : ByteArray} (h : (renameR d fr to).2 = 0) :
    (readR d fr).2 = 0 ∧ readR (renameR d fr to).1 to = ((readR d fr).1, 0) ∧ (fr = to ∨ (readR (renameR d fr to).1 fr).2 = 3) ∧ right (renameR d fr to).1 = true ∧ d.files.length ≤ (renameR d fr to).1.files.length + 1 ∧ (renameR d fr to).1.files.length ≤ 1024 := by
  obtain ⟨h1, h2, h3, h4, h5⟩ := rename_ok h
  rw [h5]
  obtain ⟨p1, p2, p3, p4⟩ := right_parts h1
  obtain ⟨hi, hn⟩ := has_lb p4 h3
  have hren := ren_is p4 hi to
  obtain ⟨m, hm⟩ : ∃ m, renL d.files (lb d.files fr) to = m := ⟨_, rfl⟩
  rw [hm] at hren ⊢
  have hrd : readR d fr = (d.files[lb d.files fr].data, 0) := by
    unfold readR
    rw [if_neg (by simp [h1]), if_neg (by simp [h2]), if_pos h3, getElem!_pos d.files _ hi]
  have hok : ∀ f ∈ m, fileOk f = true := fun f hf => by
    rcases hren.sub f hf with e | e
    · have := p3 _ (List.getElem_mem hi)
      rw [e]
      simp only [fileOk, Bool.and_eq_true, decide_eq_true_eq] at this ⊢
      exact ⟨⟨h4, this.1.2⟩, this.2⟩
    · exact p3 f e.1
  have hle : m.length ≤ 1024 := Nat.le_trans hren.le p1.2.2.1
  have hr : right (withF (spent d) m) = true := spent_right h1 hle hren.fit hok hren.rise
  have hdn : (withF (spent d) m).down = false := h2
  have hhas : has m to = true := has_iff.2 ⟨_, hren.mem, rfl⟩
  obtain ⟨j, hj, hje⟩ := List.getElem_of_mem hren.mem
  have hlb : lb m to = j := at_lb hren.rise hj (by rw [hje])
  refine ⟨by rw [hrd], ?_, ?_, hr, hren.ge, hle⟩
  · rw [hrd]
    unfold readR
    rw [if_neg (by rw [hr]; simp), if_neg (by rw [hdn]; simp), if_pos (show has (withF (spent d) m).files to = true from hhas)]
    show ((m[lb m to]!).data, 0) = _
    rw [hlb, getElem!_pos m j hj, hje]
  · by_cases he : fr = to
    · exact Or.inl he
    · right
      have hno : has m fr = false := by
        rw [← Bool.not_eq_true]
        intro hc
        obtain ⟨f, hf, hfn⟩ := has_iff.1 hc
        rcases hren.sub f hf with e | e
        · rw [e] at hfn; exact he hfn.symm
        · exact e.2 (by rw [hfn, hn])
      unfold readR
      rw [if_neg (by rw [hr]; simp), if_neg (by rw [hdn]; simp), if_neg (show ¬ has (withF (spent d) m).files fr = true by rw [show (withF (spent d) m).files = m from rfl, hno]; simp)]
end Go.Proofs.Ytagcdjjgflmihaa
