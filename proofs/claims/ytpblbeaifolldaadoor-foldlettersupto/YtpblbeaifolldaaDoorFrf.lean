/-
  What missiveref07.Fold and Text do, over this seat's program: letters' folds, as the document says.
-/
import Derived.Test.YtpblbeaifolldaaDoorFro
import Derived.Test.YtpblbeaifolldaaDoorRll
import Derived.Test.YtpblbeaifolldaaDoorApr
set_option linter.unusedVariables false
namespace Go.Proofs.YtpblbeaifolldaaDoor
open Go.RowKit Go.Proofs.Rns Go.Proofs.Fol

theorem intC_snoc (l : List Int) (n : Int) : intC l ++ [Value.int .i32 n] = intC (l ++ [n]) := by simp [intC]

set_option maxHeartbeats 1000000 in
set_option maxRecDepth 100000 in
/-- missiveref07.Fold tells letters' folds. -/
theorem refFold_any (v : Value) (l : List Int) (w : World) (h : RowI w v l) (hl : l.length ≤ 2097152) :
    Calls Tryd.prog 14 #[v] w fun e w' => ∃ v', e = .returned v' ∧ RowI w' v' (l.map oneL) ∧ Below w.heap.size w w' := by
  obtain ⟨i0, hi, hz0, hz1, hz2⟩ := info_parts rInfo
  obtain ⟨a, cap, rfl, hn, hc⟩ := h
  have HC := hide hc
  have HN := hide hn
  clear hc hn
  go_enter Tryd.func14, Tryd.ntmps14
  go_wp2
  go_loopw [3, 8] (fun x z wr => ∃ (k : Nat) (acc : List Int), z = .int .i64 k ∧ k ≤ l.length ∧ acc.length ≤ k ∧ Hid (acc = (l.take k).map oneL) ∧ Hid (wr.ownsRow w.heap.size 21 1 x acc.length (intC acc)) ∧ Hid (Below w.heap.size w wr)) (fun _ z _ => l.length - (intOf z).toNat)
  case atStart => exact ⟨0, [], rfl, Nat.zero_le _, Nat.le_refl _, hide rfl, hide ⟨rfl, Or.inl ⟨rfl, rfl⟩⟩, hide (Below.refl _ _)⟩
  case round =>
    obtain ⟨k, acc, rfl, hk, hacc, HE, HO, HB⟩ := hrel
    by_cases hlt : k < l.length
    · have hx : ∃ b off, a = some ⟨b, off, none⟩ ∧ wr.cell? ⟨b, off + k, none⟩ = some (.int .i32 l[k]) := by
        rcases unhide HC with h | ⟨b, off, ha, hb, hcj⟩
        · subst h; simp at hlt
        · exact ⟨b, off, ha, ((unhide HB).cell (p := ⟨b, off + k, none⟩) hb).trans (hcj k hlt)⟩
      obtain ⟨b, off, rfl, hcx⟩ := hx
      have hlt1 : (k : Int) < (l.length : Int) := by omega
      have hrg := unhide HN l[k] (List.getElem_mem hlt)
      have HO1 := hide (refOne_any l[k] wr hrg)
      have hst : acc ++ [oneL l[k]] = (l.take (k + 1)).map oneL := by
        rw [List.take_succ_eq_append_getElem hlt, List.map_append, unhide HE]; rfl
      have HST := hide hst
      have hown5 := unhide HO
      have hz5 := (unhide HB).size
      generalize l[k] = x at hcx HO1 HST
      generalize oneL x = r at HO1 HST
      clear hst hrg
      go_wp2_with fail
      refine (unhide HO1).mono ?_
      rintro e w5 ⟨rfl, rfl⟩
      go_wp2_with (at_builtin; refine wpList_append_own _ rfl _ _ 22 rfl w.heap.size 21 i0 (.int .i32 0) 1 4 Tryd.underlying22 hi hz0 hz1 hz2 rfl (by decide) _ _ _ rfl (hown5.alloc _) ⟨w5.heap.size, 0, none⟩ 1 1 [.int .i32 r] rfl rfl (cell_one _ _ _) (by intro u hu; simp at hu; subst hu; rfl) (by unfold maxLen; omega) (by omega) (by simp; omega) ?_)
      intro v' w6 hown6 hgrow _
      rw [intC_snoc] at hown6
      have HB6 := hide (own_upL hown5 hgrow (unhide HB) hz5)
      have HO6 := hide hown6
      clear hown5 hown6 hgrow
      go_wp2
      exact ⟨⟨k + 1, acc ++ [r], by go_num, by omega, by simp; omega, HST, by simpa using HO6, HB6⟩, by simp [intOf]; omega⟩
    · have hlt1 : ¬ (k : Int) < (l.length : Int) := by omega
      have he := unhide HE
      rw [List.take_of_length_le (by omega)] at he
      have hrow := own_rowC (unhide HO) (by
        intro n hm
        rw [he, List.mem_map] at hm
        obtain ⟨m, hm, rfl⟩ := hm
        exact oneL_i32 (unhide HN m hm))
      rw [he] at hrow
      have HR := hide hrow
      clear he hrow
      go_wp2
      go_ret
      exact ⟨_, rfl, unhide HR, unhide HB⟩

set_option maxHeartbeats 1000000 in
/-- missiveref07.Text tells a text's. -/
theorem refText_any (s : ByteArray) (w : World) (hs : s.size ≤ 1048576) :
    Calls Tryd.prog 16 #[.string s] w fun e w' => ∃ v', e = .returned v' ∧ RowI w' v' ((ints (lettersL s.data.toList)).map oneL) ∧ Below w.heap.size w w' := by
  have HL := hide (refLetters_any s w (by omega))
  have hll := lettersL_len s.data.toList
  rw [sizeL] at hll
  go_enter Tryd.func16, Tryd.ntmps16
  go_wp2_with fail
  refine (unhide HL).mono ?_
  rintro e w1 ⟨v1, rfl, hown, b1⟩
  have HF := hide (refFold_any v1 _ w1 (own_rowI hown (lettersL_is _)) (by simp [ints]; omega))
  have HB1 := hide b1
  clear hown b1 HL
  go_wp2_with fail
  refine (unhide HF).mono ?_
  rintro e w2 ⟨v2, rfl, hr, b2⟩
  have HR := hide hr
  have HB2 := hide b2
  clear hr b2 HF
  go_wp2
  go_ret
  exact ⟨_, rfl, unhide HR, belows' (unhide HB1) (unhide HB2)⟩
end Go.Proofs.YtpblbeaifolldaaDoor
