/-
  What the document's blank, Line, named and Trim of layer 8 do, over this seat's program.
-/
import Derived.Test.YtedpimhhbajljaaGreatDoorHpb
set_option linter.unusedVariables false
namespace Go.Proofs.YtedpimhhbajljaaGreatDoor
open Go.RowKit Go.Proofs.Hed

/-- The name that a line begins with, ahead of a colon. -/
def nmdF : List UInt8 → Option (List UInt8)
  | [] => none
  | c :: r => if c = 58 then some [] else if nameB c then (nmdF r).map (c :: ·) else none
theorem nmdF_colon : ∀ l : List UInt8, nmdF l = match colon l with | none => none | some (n, _) => if n.all nameB then some n else none
  | [] => rfl
  | c :: r => by
    have ih := nmdF_colon r
    simp only [nmdF, colon]
    by_cases h : c = 58
    · rw [if_pos h, if_pos h]; rfl
    · rw [if_neg h, if_neg h, ih]
      cases colon r with
      | none => cases nameB c <;> simp
      | some p =>
        obtain ⟨n, v⟩ := p
        simp only [Option.map_some, List.all_cons]
        by_cases hc : nameB c = true <;> by_cases hn : n.all nameB = true <;> simp [hc, hn]
/-- Without blanks at its end. -/
def rtrim (l : List UInt8) : List UInt8 := (l.reverse.dropWhile isB).reverse
theorem rtrim_cons (c : UInt8) (r : List UInt8) : rtrim (c :: r) = if rtrim r = [] then (if isB c then [] else [c]) else c :: rtrim r := by
  unfold rtrim
  rw [List.reverse_cons, List.dropWhile_append]
  by_cases h : r.reverse.dropWhile isB = []
  · rw [h]
    simp only [List.isEmpty_nil, if_true, List.reverse_nil]
    by_cases hc : isB c = true
    · simp [hc]
    · simp [hc]
  · rw [if_neg (by simpa using h), if_neg (by simpa using h)]
    simp
theorem trim_swap : ∀ l : List UInt8, rtrim (l.dropWhile isB) = (rtrim l).dropWhile isB
  | [] => rfl
  | c :: r => by
    have ih := trim_swap r
    rw [rtrim_cons]
    by_cases hc : isB c = true
    · rw [List.dropWhile_cons_of_pos hc, ih]
      by_cases h : rtrim r = []
      · rw [if_pos h, if_pos hc, h]
      · rw [if_neg h, List.dropWhile_cons_of_pos hc]
    · rw [List.dropWhile_cons_of_neg hc, rtrim_cons]
      by_cases h : rtrim r = []
      · rw [if_pos h, if_neg hc, List.dropWhile_cons_of_neg hc]
      · rw [if_neg h, List.dropWhile_cons_of_neg hc]
theorem trimL_two (l : List UInt8) : trimL l = rtrim (l.dropWhile isB) := by rw [trim_swap]; rfl

theorem isB_int (c : UInt8) : isB c = (((c.toNat : Int) == 32) || ((c.toNat : Int) == 9)) := by
  have h1 : (c == 32) = ((c.toNat : Int) == 32) := by
    by_cases h : c = 32
    · subst h; rfl
    · have : c.toNat ≠ 32 := fun e => h (UInt8.toNat_inj.mp e)
      rw [beq_eq_false_iff_ne.mpr h, eq_comm, beq_eq_false_iff_ne]
      omega
  have h2 : (c == 9) = ((c.toNat : Int) == 9) := by
    by_cases h : c = 9
    · subst h; rfl
    · have : c.toNat ≠ 9 := fun e => h (UInt8.toNat_inj.mp e)
      rw [beq_eq_false_iff_ne.mpr h, eq_comm, beq_eq_false_iff_ne]
      omega
  unfold isB
  rw [h1, h2]
set_option maxHeartbeats 400000 in
theorem refBlank_any (c : UInt8) (w : World) : Calls Tryz.prog 41 #[.int .u8 (c.toNat : Int)] w fun e w' => e = .returned (.bool (isB c)) ∧ w' = w := by
  rw [isB_int]
  generalize c.toNat = n
  cases h1 : ((n : Int) == 32)
  · cases h2 : ((n : Int) == 9)
    · go_enter Tryz.func41, Tryz.ntmps41
      go_wp2
      go_ret
      exact ⟨rfl, rfl⟩
    · go_enter Tryz.func41, Tryz.ntmps41
      go_wp2
      go_ret
      exact ⟨rfl, rfl⟩
  · go_enter Tryz.func41, Tryz.ntmps41
    go_wp2
    go_ret
    exact ⟨rfl, rfl⟩

theorem lf_here {s : ByteArray} {k : Nat} (h : k < s.size) (hp : ∀ c ∈ s.data.toList.take k, c ≠ 10) (hc : s[k] = 10) : lfAt s.data.toList = some k := by
  have h1 := lfAt_app (s.data.toList.take k) (s.data.toList.drop (k + 1)) hp
  rw [← hc, ← drop_byte s k h, List.take_append_drop, List.length_take, sizeL] at h1
  rw [h1]
  congr 1
  omega
theorem lf_none : ∀ {l : List UInt8}, (∀ c ∈ l, c ≠ 10) → lfAt l = none
  | [], _ => rfl
  | c :: r, h => by
    simp only [lfAt]
    rw [if_neg (h c (by simp)), lf_none (fun d hd => h d (by simp [hd]))]
    rfl
theorem noCr_at {s : ByteArray} {k : Nat} (hk : k ≤ s.size) (h0 : 0 < k) : noCr (s.data.toList.take k) = if s[k - 1]'(by omega) = 13 then s.data.toList.take (k - 1) else s.data.toList.take k := by
  obtain ⟨j, rfl⟩ : ∃ j, k = j + 1 := ⟨k - 1, by omega⟩
  have e := take_byte s j (by omega)
  unfold noCr
  rw [e]
  simp only [List.getLast?_append, Nat.add_sub_cancel]
  by_cases h : s[j] = 13
  · rw [if_pos h, if_pos (by simp [h])]
    simp
  · rw [if_neg h, if_neg (by simpa using h)]
theorem beq_u8 (c : UInt8) (n : Nat) (d : UInt8) (hd : d.toNat = n) : ((c.toNat : Int) == (n : Int)) = decide (c = d) := by
  by_cases h : c = d
  · subst h; subst hd; simp
  · have : c.toNat ≠ n := fun e => h (UInt8.toNat_inj.mp (e.trans hd.symm))
    rw [decide_eq_false h, beq_eq_false_iff_ne]
    omega

theorem nmd_at {s : ByteArray} {k : Nat} (h : k < s.size) : nmdF (s.data.toList.drop k) = if s[k] = 58 then some [] else if nameB s[k] then (nmdF (s.data.toList.drop (k + 1))).map (s[k] :: ·) else none := by
  rw [drop_byte s k h]
  rfl

end Go.Proofs.YtedpimhhbajljaaGreatDoor
