/-
  What disk.isName and disk.Check do, over this seat's program: whether a file system is right.
-/
import Derived.Test.YtpfmhlldkikbjaaDoorFil
import Derived.Lib.Walk
set_option linter.unusedVariables false
namespace Go.Proofs.YtpfmhlldkikbjaaDoor
open Go.RowKit Go.Proofs.Dsk

set_option maxHeartbeats 400000 in
theorem isName_any (s : ByteArray) (w : World) (hs : s.size ≤ 9223372036854775807) :
    Calls Tryd.prog 23 #[.string s] w fun e w' => e = .returned (.bool (named s)) ∧ w' = w := by
  by_cases h0 : s.size = 0
  · have he : s = ByteArray.empty := by apply ext_toList; have := sizeL s; rw [h0] at this; rw [List.eq_nil_of_length_eq_zero this]; rfl
    subst he
    go_enter Tryd.func23, Tryd.ntmps23
    go_wp2
    go_ret
    exact ⟨rfl, rfl⟩
  · have hn : ¬ s.toList = [] := by
      intro he
      rw [ByteArray.toList_eq] at he
      have := sizeL s
      rw [he] at this
      exact h0 (by simpa using this.symm)
    have hn2 : s.toList.isEmpty = false := by simpa using hn
    have hnm : named s = decide (s.size ≤ 64) := by simp [named, h0]
    have HN := hide hnm
    by_cases h64 : s.size ≤ 64
    · go_enter Tryd.func23, Tryd.ntmps23
      go_wp2
      go_ret
      exact ⟨by rw [unhide HN]; simp; omega, rfl⟩
    · go_enter Tryd.func23, Tryd.ntmps23
      go_wp2
      go_ret
      exact ⟨by rw [unhide HN]; simp; omega, rfl⟩

theorem named_ne {s : ByteArray} : named s = false ↔ (s.size = 0 ∨ 64 < s.size) := by
  simp only [named, Bool.and_eq_false_iff, decide_eq_false_iff_not]; omega

theorem used_take {l : List File} {k : Nat} (h : k < l.length) : used (l.take (k + 1)) = used (l.take k) + l[k].data.size := by
  unfold used
  rw [List.take_succ_eq_append_getElem h, List.map_append, List.sum_append_nat]
  simp
theorem used_le (l : List File) (k : Nat) : used (l.take k) ≤ used l := by
  have : used l = used (l.take k) + used (l.drop k) := by
    unfold used
    rw [← List.sum_append_nat, ← List.map_append, List.take_append_drop]
  omega

theorem rise_take {l : List File} {k : Nat} (h : k < l.length) : Rise (l.take (k + 1)) ↔ Rise (l.take k) ∧ (k = 0 ∨ lt (l[k - 1]!).name l[k].name) := by
  rw [List.take_succ_eq_append_getElem h]
  unfold Rise
  rw [List.pairwise_append]
  constructor
  · rintro ⟨h1, _, h2⟩
    refine ⟨h1, ?_⟩
    cases k with
    | zero => exact Or.inl rfl
    | succ k =>
      right
      have e : l[k + 1 - 1]! = l[k] := by rw [Nat.add_sub_cancel]; exact getElem!_pos l k (by omega)
      rw [e]
      exact h2 _ (List.mem_take_iff_getElem.2 ⟨k, by omega, rfl⟩) _ (List.mem_singleton.2 rfl)
  · rintro ⟨h1, h2⟩
    refine ⟨h1, List.pairwise_singleton _ _, ?_⟩
    intro a ha b hb
    rw [List.mem_singleton] at hb
    subst hb
    obtain ⟨i, hi, rfl⟩ := List.mem_take_iff_getElem.1 ha
    rcases h2 with rfl | h2
    · omega
    · have e : l[k - 1]! = l[k - 1] := getElem!_pos l _ (by omega)
      rw [e] at h2
      by_cases hik : i = k - 1
      · subst hik; exact h2
      · have h3 := List.pairwise_iff_getElem.1 h1 i (k - 1) (by simp; omega) (by simp; omega) (by omega)
        simp only [List.getElem_take] at h3
        exact lt_trans h3 h2

theorem all_take {l : List File} {k : Nat} (h : k < l.length) : (l.take (k + 1)).all fileOk = ((l.take k).all fileOk && fileOk l[k]) := by
  rw [List.take_succ_eq_append_getElem h, List.all_append]
  simp

theorem right_not_used {d : Fs} {k : Nat} (h : d.room < used (d.files.take k)) : right d = false := by
  have := used_le d.files k
  simp only [right, Bool.and_eq_false_iff, decide_eq_false_iff_not]
  right; left; omega
theorem right_not_all {d : Fs} {k : Nat} (hk : k < d.files.length) (h : fileOk d.files[k] = false) : right d = false := by
  simp only [right, Bool.and_eq_false_iff]
  right; right; left
  rw [List.all_eq_false]
  exact ⟨_, List.getElem_mem hk, by simpa using h⟩
theorem right_not_rise {d : Fs} {k : Nat} (h : ¬ Rise (d.files.take k)) : right d = false := by
  simp only [right, Bool.and_eq_false_iff, decide_eq_false_iff_not]
  right; right; right
  intro hr
  exact h (List.Pairwise.sublist (List.take_sublist k _) hr)
theorem right_yes {d : Fs} (h1 : headOk d = true) (h2 : (used d.files : Int) ≤ d.room) (h3 : d.files.all fileOk = true) (h4 : Rise d.files) : right d = true := by
  simp [right, h1, h2, h3, h4]
theorem headOk_yes {d : Fs} : headOk d = true ↔ 0 ≤ d.room ∧ d.room ≤ 16777216 ∧ d.files.length ≤ 1024 ∧ -1 ≤ d.fuse ∧ -1 ≤ d.fault := by
  simp only [headOk, Bool.and_eq_true, decide_eq_true_eq, and_assoc]
theorem right_head {d : Fs} (h : headOk d = false) : right d = false := by simp [right, h]
theorem less_eq : ∀ (x y : List UInt8), Op.bytesLess x y = decide (x < y)
  | _, [] => by simp [Op.bytesLess]
  | [], _ :: _ => by simp [Op.bytesLess]
  | a :: x, b :: y => by
    simp only [Op.bytesLess, less_eq x y, List.cons_lt_cons_iff, Bool.decide_or, Bool.decide_and]
    by_cases h : a = b <;> simp [h]
theorem lessS (a b : ByteArray) : Op.bytesLess a.toList b.toList = decide (lt a b) := by
  rw [less_eq, ByteArray.toList_eq, ByteArray.toList_eq]; rfl
/-- Not ahead of it: behind it, or the same. -/
theorem leqS (a b : ByteArray) : (Op.bytesLess a.toList b.toList || a.toList == b.toList) = decide (¬ lt b a) := by
  rw [lessS, beqS]
  by_cases h1 : lt a b
  · simp [h1, lt_asymm h1]
  · by_cases h2 : a = b
    · subst h2; simp [lt_irrefl]
    · have : lt b a := by
        by_cases h3 : lt b a
        · exact h3
        · exact absurd (lt_total h1 h3) h2
      simp [h1, h2, this]

set_option maxHeartbeats 1000000 in
set_option maxRecDepth 100000 in
theorem check_head (d : Fs) (a : Option Addr) (cap : Nat) (w : World) (hf : FitsFs d) (h63 : d.files.length ≤ 9223372036854775807) (h : headOk d = false) :
    Calls Tryd.prog 19 #[fsV d (.slice a d.files.length cap)] w fun e w' => e = .returned (.int .i64 2) ∧ Below w.heap.size w w' := by
  obtain ⟨room, files, fuse, fault, down⟩ := d
  obtain ⟨⟨r1, r2⟩, ⟨f1, f2⟩, g1, g2⟩ := hf
  simp only [fsV] at *
  have hne : ¬ (0 ≤ room ∧ room ≤ 16777216 ∧ files.length ≤ 1024 ∧ -1 ≤ fuse ∧ -1 ≤ fault) := fun hh => by rw [headOk_yes.2 hh] at h; cases h
  clear h
  generalize files.length = n at *
  by_cases c1 : 0 ≤ room
  · by_cases c2 : room ≤ 16777216
    · by_cases c3 : n ≤ 1024
      · by_cases c4 : -1 ≤ fuse
        · by_cases c5 : -1 ≤ fault
          · exact absurd ⟨c1, c2, c3, c4, c5⟩ hne
          · clear hne
            go_enter Tryd.func19, Tryd.ntmps19
            go_wp2
            go_ret
            exact ⟨rfl, (Below.refl _ w).alloc (Nat.le_refl _) _⟩
        · clear hne
          go_enter Tryd.func19, Tryd.ntmps19
          go_wp2
          go_ret
          exact ⟨rfl, (Below.refl _ w).alloc (Nat.le_refl _) _⟩
      · clear hne
        go_enter Tryd.func19, Tryd.ntmps19
        go_wp2
        go_ret
        exact ⟨rfl, (Below.refl _ w).alloc (Nat.le_refl _) _⟩
    · clear hne
      go_enter Tryd.func19, Tryd.ntmps19
      go_wp2
      go_ret
      exact ⟨rfl, (Below.refl _ w).alloc (Nat.le_refl _) _⟩
  · clear hne
    go_enter Tryd.func19, Tryd.ntmps19
    go_wp2
    go_ret
    exact ⟨rfl, (Below.refl _ w).alloc (Nat.le_refl _) _⟩

end Go.Proofs.YtpfmhlldkikbjaaDoor
