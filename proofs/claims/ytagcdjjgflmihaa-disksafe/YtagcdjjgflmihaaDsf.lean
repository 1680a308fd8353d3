/-
  Plain mathematics of what is synced, put behind, and kept behind a crash.
-/
import Derived.Test.YtagcdjjgflmihaaDmv
import Derived.Test.YtagcdjjgflmihaaDcs
set_option linter.unusedVariables false
namespace Go.Proofs.Ytagcdjjgflmihaa
open Go.Proofs.Dsk

/-- A text is the beginning of another one. -/
def Pre (a b : ByteArray) : Prop := a.data.toList <+: b.data.toList
theorem Pre.refl (a : ByteArray) : Pre a a := List.prefix_rfl
theorem Pre.trans {a b c : ByteArray} (h : Pre a b) (k : Pre b c) : Pre a c := List.IsPrefix.trans h k
theorem Pre.le {a b : ByteArray} (h : Pre a b) : a.size ≤ b.size := by rw [← sizeL, ← sizeL]; exact h.length_le
theorem Pre.cut {a b : ByteArray} (h : Pre a b) : b.extract 0 a.size = a := by
  apply ext_list
  rw [toList_upto, ← sizeL]
  exact (List.prefix_iff_eq_take.1 h).symm
theorem pre_join (s : ByteArray) (l : List ByteArray) : Pre s (joinB s l) := by
  show s.data.toList <+: (s.data.toList ++ l.flatMap fun t => t.data.toList).toArray.toList
  rw [List.toList_toArray]
  exact List.prefix_append _ _
theorem pre_extract {a b : ByteArray} {n : Nat} (h : Pre a b) (hn : a.size ≤ n) : Pre a (b.extract 0 n) := by
  unfold Pre at *
  rw [toList_upto]
  rw [← sizeL] at hn
  exact List.prefix_take_iff.2 ⟨h, hn⟩

/-- All files are as they were, but that bytes may stand behind. -/
def More (l m : List File) : Prop := m.length = l.length ∧ ∀ i (h : i < l.length) (h' : i < m.length), m[i].name = l[i].name ∧ Pre l[i].data m[i].data ∧ m[i].synced = l[i].synced
theorem More.refl (l : List File) : More l l := ⟨rfl, fun i h h' => ⟨rfl, Pre.refl _, rfl⟩⟩
theorem More.trans {a b c : List File} (h : More a b) (k : More b c) : More a c :=
  ⟨k.1.trans h.1, fun i hi hi' => by
    have hb : i < b.length := by rw [h.1]; exact hi
    obtain ⟨x1, x2, x3⟩ := h.2 i hi hb
    obtain ⟨y1, y2, y3⟩ := k.2 i hb hi'
    exact ⟨y1.trans x1, x2.trans y2, y3.trans x3⟩⟩
theorem rise_names {l m : List File} (hl : m.length = l.length) (hn : ∀ i (h : i < l.length) (h' : i < m.length), m[i].name = l[i].name) (h : Rise l) : Rise m := by
  rw [Rise, List.pairwise_iff_getElem] at h ⊢
  intro a b ha hb hab
  rw [hn a (by omega) ha, hn b (by omega) hb]
  exact h a b (by omega) (by omega) hab

theorem used_set_eq : ∀ {l : List File} {i : Nat} (h : i < l.length) (f : File), used (l.set i f) + l[i].data.size = used l + f.data.size
  | [], i, h, f => by simp at h
  | g :: l, 0, h, f => by simp only [List.set_cons_zero, used_cons, List.getElem_cons_zero]; omega
  | g :: l, i + 1, h, f => by
    have := used_set_eq (l := l) (i := i) (by simpa using h) f
    simp only [List.set_cons_succ, used_cons, List.getElem_cons_succ]
    omega

theorem putAt_more {d : Fs} {i : Nat} (hi : i < d.files.length) (data : List ByteArray) : More d.files (putAt i data d).files := by
  rw [putAt_set hi]
  refine ⟨by simp, fun j h h' => ?_⟩
  by_cases hj : i = j
  · subst hj
    have e : (d.files.set i (putF data d.files[i]))[i]'(by simpa using h) = putF data d.files[i] := List.getElem_set_self ..
    rw [show (({ d with files := d.files.set i (putF data d.files[i]) } : Fs).files)[i]'h' = putF data d.files[i] from e]
    exact ⟨rfl, pre_join _ _, rfl⟩
  · have e : (d.files.set i (putF data d.files[i]))[j]'(by simpa using h) = d.files[j] := List.getElem_set_ne hj _
    rw [show (({ d with files := d.files.set i (putF data d.files[i]) } : Fs).files)[j]'h' = d.files[j] from e]
    exact ⟨rfl, Pre.refl _, rfl⟩
theorem putAt_ok {d : Fs} {i : Nat} (hi : i < d.files.length) (data : List ByteArray) (hr : right d = true) (hf : (used d.files + total data : Int) ≤ d.room) : right (putAt i data d) = true := by
  obtain ⟨h1, h2, h3, h4⟩ := right_parts hr
  have hm := putAt_more hi data
  rw [putAt_set hi] at hm ⊢
  have hu := used_set_eq hi (putF data d.files[i])
  have hs : (putF data d.files[i]).data.size = d.files[i].data.size + total data := joinB_size _ _
  refine right_yes (headOk_yes.2 ⟨h1.1, h1.2.1, by show (d.files.set i _).length ≤ 1024; rw [List.length_set]; exact h1.2.2.1, h1.2.2.2.1, h1.2.2.2.2⟩) ?_ (List.all_eq_true.2 fun f hf => ?_) (rise_names hm.1 (fun j h h' => (hm.2 j h h').1) h4)
  · show (used (d.files.set i (putF data d.files[i])) : Int) ≤ d.room
    omega
  · rcases List.mem_or_eq_of_mem_set hf with h5 | h5
    · exact h3 f h5
    · have h6 := h3 _ (List.getElem_mem hi)
      rw [h5]
      simp only [fileOk, Bool.and_eq_true, decide_eq_true_eq] at h6 ⊢
      refine ⟨⟨h6.1.1, h6.1.2⟩, ?_⟩
      show d.files[i].synced ≤ ((putF data d.files[i]).data.size : Int)
      omega
theorem right_num {d : Fs} {fuse fault : Int} {down : Bool} (h : right d = true) (h1 : -1 ≤ fuse) (h2 : -1 ≤ fault) : right ⟨d.room, d.files, fuse, fault, down⟩ = true := by
  obtain ⟨p1, p2, p3, p4⟩ := right_parts h
  exact right_yes (headOk_yes.2 ⟨p1.1, p1.2.1, p1.2.2.1, h1, h2⟩) p2 (List.all_eq_true.2 p3) p4
theorem spent_ok {d : Fs} (h : right d = true) : right (spent d) = true := by
  obtain ⟨p1, _⟩ := right_parts h
  refine right_num h ?_ ?_
  · split <;> omega
  · split <;> omega

/-- Bytes that are put behind a file, or are not. -/
theorem append_more {d : Fs} (n : ByteArray) (data : List ByteArray) (h : right d = true) : right (appendR d n data).1 = true ∧ More d.files (appendR d n data).1.files := by
  have e : appendR d n data = workR d (onR n (appendC data)) := rfl
  rw [e]
  unfold workR
  rw [if_neg (by simp [h])]
  by_cases hd : d.down = true
  · rw [if_pos hd]; exact ⟨h, More.refl _⟩
  · rw [if_neg hd]
    unfold onR
    by_cases hh : has d.files n = true
    · rw [if_pos hh]
      obtain ⟨hi, _⟩ := has_lb (right_parts h).2.2.2 hh
      unfold appendC
      by_cases hf : (used d.files + total data : Int) ≤ d.room
      · rw [if_pos hf]
        by_cases h0 : d.fuse = 0
        · rw [if_pos h0]
          have : changeR (putAt (lb d.files n) data d) (putAt (lb d.files n) data) = ({ putAt (lb d.files n) data d with down := true }, 9) := by unfold changeR; rw [if_pos (show (putAt (lb d.files n) data d).fuse = 0 from h0)]
          rw [this]
          have hr := putAt_ok hi data h hf
          obtain ⟨p1, _⟩ := right_parts hr
          exact ⟨right_num hr p1.2.2.2.1 p1.2.2.2.2, putAt_more hi data⟩
        · rw [if_neg h0]
          unfold changeR
          rw [if_neg h0]
          obtain ⟨p1, _⟩ := right_parts h
          by_cases h1 : d.fault = 0
          · rw [if_pos h1]
            refine ⟨right_num h ?_ (by omega), More.refl _⟩
            split <;> omega
          · rw [if_neg h1]
            exact ⟨putAt_ok (d := spent d) hi data (spent_ok h) hf, putAt_more (d := spent d) hi data⟩
      · rw [if_neg hf]; exact ⟨h, More.refl _⟩
    · rw [if_neg hh]; exact ⟨h, More.refl _⟩

/-- What is synced is whole. -/
theorem sync_ok {d : Fs} {n : ByteArray} (h : (syncR d n).2 = 0) (hr : (readR (syncR d n).1 n).2 = 0) :
    right (syncR d n).1 = true ∧ ∃ i, ∃ hi : i < (syncR d n).1.files.length, (syncR d n).1.files[i].name = n ∧ (syncR d n).1.files[i].data = (readR (syncR d n).1 n).1 ∧ (syncR d n).1.files[i].synced = ((readR (syncR d n).1 n).1.size : Int) := by
  have e : syncR d n = workR d (onR n (fun i d => changeR d fun d => { d with files := d.files.modify i syncF })) := rfl
  have hfiles : has d.files n = true ∧ right d = true ∧ (syncR d n).1.files = d.files.modify (lb d.files n) syncF := by
    rw [e] at h ⊢
    obtain ⟨h1, h2, h3⟩ := workR_ok h
    rw [h3] at h ⊢
    obtain ⟨h4, h5⟩ := onR_ok h
    rw [h5] at h ⊢
    refine ⟨h4, h1, ?_⟩
    rw [changeR_ok h]
    rfl
  obtain ⟨hh, hrt, hfl⟩ := hfiles
  obtain ⟨x, hx⟩ : ∃ x, (syncR d n).1 = x := ⟨_, rfl⟩
  rw [hx] at hr hfl ⊢
  have hrd : right x = true ∧ has x.files n = true ∧ readR x n = ((x.files[lb x.files n]!).data, 0) := by
    unfold readR at hr ⊢
    by_cases h0 : right x = false
    · rw [if_pos h0] at hr; simp at hr
    · rw [if_neg h0] at hr ⊢
      by_cases h1 : x.down = true
      · rw [if_pos h1] at hr; simp at hr
      · rw [if_neg h1] at hr ⊢
        by_cases h2 : has x.files n = true
        · rw [if_pos h2]; exact ⟨by simpa using h0, h2, rfl⟩
        · rw [if_neg h2] at hr; simp at hr
  obtain ⟨q1, q2, q3⟩ := hrd
  obtain ⟨hi, hn⟩ := has_lb (right_parts hrt).2.2.2 hh
  have hlen : x.files.length = d.files.length := by rw [hfl]; simp
  have hat : x.files[lb d.files n]'(by omega) = syncF d.files[lb d.files n] := by
    simp only [hfl]
    simp
  have hlb : lb x.files n = lb d.files n := at_lb (right_parts q1).2.2.2 (i := lb d.files n) (by omega) (by rw [hat]; exact hn)
  refine ⟨q1, lb d.files n, by omega, by rw [hat]; exact hn, ?_, ?_⟩
  · rw [q3, hlb, getElem!_pos x.files _ (by omega)]
  · rw [q3, hlb, getElem!_pos x.files _ (by omega), hat]
    rfl

/-- What a crash keeps. -/
theorem keepAt_facts (keep : List Int) (i : Nat) {f : File} (h : fileOk f = true) : (keepAt keep i f).name = f.name ∧ Pre (keepAt keep i f).data f.data ∧ (keepAt keep i f).synced = ((keepAt keep i f).data.size : Int) ∧ f.synced ≤ (keepAt keep i f).synced ∧ (∀ a, Pre a f.data → (a.size : Int) ≤ f.synced → Pre a (keepAt keep i f).data) := by
  simp only [fileOk, Bool.and_eq_true, decide_eq_true_eq] at h
  obtain ⟨⟨h0, h1⟩, h2⟩ := h
  obtain ⟨m1, m2⟩ := moreK_le keep i h2
  rw [keepAt_eq]
  have hz : (f.data.extract 0 (f.synced + moreK keep i f).toNat).size = (f.synced + moreK keep i f).toNat := by rw [size_part _ _ _ (by omega)]; omega
  refine ⟨rfl, ?_, ?_, ?_, ?_⟩
  · show (f.data.extract 0 (f.synced + moreK keep i f).toNat).data.toList <+: f.data.data.toList
    rw [toList_upto]
    exact List.take_prefix _ _
  · show f.synced + moreK keep i f = ((f.data.extract 0 (f.synced + moreK keep i f).toNat).size : Int)
    rw [hz]
    omega
  · show f.synced ≤ f.synced + moreK keep i f
    omega
  · intro a ha hs
    exact pre_extract ha (by omega)

theorem used_le_of {l m : List File} (hl : m.length = l.length) (h : ∀ i (h : i < l.length) (h' : i < m.length), m[i].data.size ≤ l[i].data.size) : used m ≤ used l := by
  induction l generalizing m with
  | nil => cases m with
    | nil => simp
    | cons => simp at hl
  | cons f l ih => cases m with
    | nil => simp at hl
    | cons g m =>
      rw [used_cons, used_cons]
      have h0 := h 0 (by simp) (by simp)
      have h1 := ih (m := m) (by simpa using hl) (fun i h2 h3 => by have h4 := h (i + 1) (by simp; omega) (by simp; omega); simpa only [List.getElem_cons_succ] using h4)
      simp only [List.getElem_cons_zero] at h0
      omega
theorem crash_ok {d : Fs} (keep : List Int) (h : right d = true) : right ⟨d.room, d.files.mapIdx (keepAt keep), -1, -1, false⟩ = true := by
  obtain ⟨p1, p2, p3, p4⟩ := right_parts h
  have hl : (d.files.mapIdx (keepAt keep)).length = d.files.length := by simp
  have hg : ∀ i (h : i < d.files.length) (h' : i < (d.files.mapIdx (keepAt keep)).length), (d.files.mapIdx (keepAt keep))[i] = keepAt keep i d.files[i] := fun i h h' => by simp
  refine right_yes (headOk_yes.2 ⟨p1.1, p1.2.1, by show (d.files.mapIdx (keepAt keep)).length ≤ 1024; rw [hl]; exact p1.2.2.1, by show (-1 : Int) ≤ -1; omega, by show (-1 : Int) ≤ -1; omega⟩) ?_ (List.all_eq_true.2 fun f hf => ?_) (rise_names hl (fun i h h' => by rw [hg i h h']; exact (keepAt_facts keep i (p3 _ (List.getElem_mem h))).1) p4)
  · show (used (d.files.mapIdx (keepAt keep)) : Int) ≤ d.room
    have := used_le_of hl (fun i h h' => by rw [hg i h h']; exact (keepAt_facts keep i (p3 _ (List.getElem_mem h))).2.1.le)
    omega
  · obtain ⟨i, hi, rfl⟩ := List.getElem_of_mem hf
    have hi2 : i < (d.files.mapIdx (keepAt keep)).length := hi
    have hi' : i < d.files.length := by omega
    rw [show (({ room := d.room, files := d.files.mapIdx (keepAt keep), fuse := -1, fault := -1, down := false } : Fs).files)[i]'hi = keepAt keep i d.files[i] from hg i hi' hi2]
    have hk := keepAt_facts keep i (p3 _ (List.getElem_mem hi'))
    have ho := p3 _ (List.getElem_mem hi')
    simp only [fileOk, Bool.and_eq_true, decide_eq_true_eq] at ho ⊢
    obtain ⟨k1, k2, k3, k4, _⟩ := hk
    refine ⟨⟨by rw [k1]; exact ho.1.1, by omega⟩, by omega⟩
theorem read_at {d : Fs} {n : ByteArray} {i : Nat} (h : right d = true) (hd : d.down = false) (hi : i < d.files.length) (hn : d.files[i].name = n) : readR d n = (d.files[i].data, 0) := by
  have hp := (right_parts h).2.2.2
  have hh : has d.files n = true := has_iff.2 ⟨_, List.getElem_mem hi, hn⟩
  have hl := at_lb hp hi hn
  unfold readR
  rw [if_neg (by simp [h]), if_neg (by simp [hd]), if_pos hh, hl, getElem!_pos d.files i hi]
/-- What was synced is there behind a crash. -/
theorem safe {d : Fs} {n was : ByteArray} (keep : List Int) {i : Nat} (h : right d = true) (hi : i < d.files.length) (hn : d.files[i].name = n) (hw : Pre was d.files[i].data) (hs : (was.size : Int) ≤ d.files[i].synced) :
    ∃ is, readR ⟨d.room, d.files.mapIdx (keepAt keep), -1, -1, false⟩ n = (is, 0) ∧ Pre was is := by
  have hk := keepAt_facts keep i ((right_parts h).2.2.1 _ (List.getElem_mem hi))
  refine ⟨(keepAt keep i d.files[i]).data, ?_, hk.2.2.2.2 was hw hs⟩
  have := read_at (d := ⟨d.room, d.files.mapIdx (keepAt keep), -1, -1, false⟩) (n := n) (i := i) (crash_ok keep h) rfl (by simpa using hi) (by simp [hk.1, hn])
  rw [this]
  simp
end Go.Proofs.Ytagcdjjgflmihaa
