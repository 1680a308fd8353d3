/-
  What missiveref06.Letters does, over this seat's program: bytes' letters, as the document says.
-/
import Derived.Test.YtdallfakfhajdaaGreatDoorRnt
set_option linter.unusedVariables false
namespace Go.Proofs.YtdallfakfhajdaaGreatDoor
open Go.RowKit Go.Proofs.Rns

theorem emptyS (s : ByteArray) : s.toList.isEmpty = decide (s.size = 0) := by
  rw [ByteArray.toList_eq, ← sizeL]
  cases s.data.toList <;> simp
/-- How long a text is. -/
def sizeV : Value → Nat
  | .string s => s.size
  | _ => 0
theorem own_upL {w wr w2 : World} {o : Obj} {B size : Nat} {e : TypeId} {v : Value} {n : Nat} {xs : List Value} (hown : wr.ownsRow B e size v n xs) (hgrow : (wr.alloc o).grownBy w2 v.ownBlock) (hbw : Below B w wr) (hB : B ≤ wr.heap.size) : Below B w w2 :=
  (hbw.alloc hB _).grown hgrow (by simp; omega) (fun k hk => by
    rcases hown.2 with ⟨rfl, _⟩ | ⟨g, cap, cur, rfl, hg, _⟩
    · simp [Value.ownBlock] at hk
    · simp [Value.ownBlock] at hk; omega)

set_option maxHeartbeats 1000000 in
set_option maxRecDepth 100000 in
/-- missiveref06.Letters tells the letters. -/
theorem refLetters_any (s : ByteArray) (w : World) (hs : s.size ≤ 4000000) :
    Calls Tryz.prog 75 #[.string s] w fun e w' => ∃ v, e = .returned v ∧ w'.ownsRow w.heap.size 21 1 v (lettersL s.data.toList).length (runeC (lettersL s.data.toList)) ∧ Below w.heap.size w w' := by
  obtain ⟨i0, hi, hz0, hz1, hz2⟩ := info_parts rInfo
  go_enter Tryz.func75, Tryz.ntmps75
  go_wp2
  go_loopw [0, 3] (fun y x wr => ∃ (t : ByteArray) (acc : List Nat), y = .string t ∧ t.size + acc.length ≤ s.size ∧ Hid (acc ++ lettersL t.data.toList = lettersL s.data.toList) ∧ Hid (wr.ownsRow w.heap.size 21 1 x acc.length (runeC acc)) ∧ Hid (Below w.heap.size w wr)) (fun y _ _ => sizeV y)
  case atStart => exact ⟨s, [], rfl, by simp, hide rfl, hide ⟨rfl, Or.inl ⟨rfl, rfl⟩⟩, hide (Below.refl _ _)⟩
  case round =>
    obtain ⟨t, acc, rfl, hta, HE, HO, HB⟩ := hrel
    have hzr := (unhide HB).size
    by_cases ht0 : t.size = 0
    · have he : t.toList.isEmpty = true := by rw [emptyS]; exact decide_eq_true ht0
      have hfin : acc = lettersL s.data.toList := by
        rw [← unhide HE]
        have : t.data.toList = [] := List.eq_nil_of_length_eq_zero (by rw [sizeL]; exact ht0)
        rw [this, lettersL_nil, List.append_nil]
      have HF := hide hfin
      clear hfin ht0
      go_wp2
      go_ret
      refine ⟨_, rfl, ?_, unhide HB⟩
      rw [← unhide HF]
      exact unhide HO
    · have he : t.toList.isEmpty = false := by rw [emptyS]; exact decide_eq_false ht0
      have hne : t.data.toList ≠ [] := by
        intro e
        have := sizeL t
        rw [e] at this
        simp at this
        omega
      have hle := nextL_le hne
      rw [sizeL] at hle
      have HN := hide (refNext_any t wr (by omega) (by omega))
      have hst := lettersL_cons hne
      have HE2 := hide (unhide HE)
      rw [hst] at HE2
      generalize (nextL t.data.toList).1 = r at HN HE2
      generalize (nextL t.data.toList).2 = m at HN HE2 hle
      have hm' : (m : Int) ≤ (t.size : Int) := by omega
      clear hne hst HE ht0
      go_wp2_with fail
      refine (unhide HN).mono ?_
      rintro e w5 ⟨rfl, b5⟩
      have hown5 := own_below (unhide HO) b5
      have hb5 := belows' (unhide HB) b5
      have hz5 := hb5.size
      have HB5 := hide hb5
      clear b5 hb5 HN
      go_wp2_with (at_builtin; refine wpList_append_own _ rfl _ _ 22 rfl w.heap.size 21 i0 (.int .i32 0) 1 4 Tryz.underlying22 hi hz0 hz1 hz2 rfl (by decide) _ _ _ rfl (hown5.alloc _) ⟨w5.heap.size, 0, none⟩ 1 1 [.int .i32 (r : Int)] rfl rfl (cell_one _ _ _) (by intro u hu; simp at hu; subst hu; rfl) (by unfold maxLen; omega) (by omega) (by simp; omega) ?_)
      intro v' w6 hown6 hgrow _
      rw [runeC_snoc] at hown6
      have HB6 := hide (own_upL hown5 hgrow (unhide HB5) hz5)
      have HO6 := hide hown6
      clear hown5 hown6 hgrow
      go_wp2
      refine ⟨⟨t.extract m t.size, acc ++ [r], rfl, ?_, ?_, by simpa using HO6, HB6⟩, ?_⟩
      · rw [size_part t m t.size (Nat.le_refl _)]; simp; omega
      · rw [toList_from, ← unhide HE2]; exact hide (by simp)
      · simp only [sizeV]; rw [size_part t m t.size (Nat.le_refl _)]; omega
end Go.Proofs.YtdallfakfhajdaaGreatDoor
