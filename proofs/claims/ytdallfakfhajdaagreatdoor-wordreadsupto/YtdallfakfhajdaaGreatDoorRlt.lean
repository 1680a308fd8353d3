/-
  What missiveref06.Decode does, over this seat's program: bytes' letters in a charset, as the document says.
-/
import Derived.Test.YtdallfakfhajdaaGreatDoorRll
import Derived.Test.YtdallfakfhajdaaGreatDoorRgn
import Derived.Test.YtdallfakfhajdaaGreatDoorRof
set_option linter.unusedVariables false
namespace Go.Proofs.YtdallfakfhajdaaGreatDoor
open Go.RowKit Go.Proofs.Rns

set_option maxHeartbeats 1000000 in
set_option maxRecDepth 100000 in
/-- missiveref06.Decode tells the letters, or the error. -/
theorem refDecode_any (c : Nat) (s : ByteArray) (w : World) (hc : c < 256) (hs : s.size ≤ 4000000) :
    Calls Tryz.prog 34 #[.int .u8 c, .string s] w fun e w' => ∃ v, e = .returned (.tuple #[v, .int .i64 (decR c s.data.toList).2]) ∧ w'.ownsRow w.heap.size 21 1 v (decR c s.data.toList).1.length (runeC (decR c s.data.toList).1) ∧ Below w.heap.size w w' := by
  obtain ⟨i0, hi, hz0, hz1, hz2⟩ := info_parts rInfo
  have hsl := sizeL s
  have HN := hide (refName_any c w hc)
  unfold decR
  by_cases h : 1 ≤ c ∧ c ≤ 5
  · rw [if_pos h]
    have hn2 : (nameR c).2 = 0 := by
      rcases (show c = 1 ∨ c = 2 ∨ c = 3 ∨ c = 4 ∨ c = 5 by omega) with rfl | rfl | rfl | rfl | rfl <;> rfl
    rw [hn2] at HN
    generalize bts (nameR c).1 = nm at HN
    simp only
    by_cases h2 : c = 2
    · have e2 : ((c : Int) == 2) = true := by simp [h2]
      have HL := hide (refLetters_any s w hs)
      have ed : decL c s.data.toList = lettersL s.data.toList := by unfold decL; rw [if_pos h2]
      rw [ed]
      clear ed h2 h hn2 hsl
      go_enter Tryz.func34, Tryz.ntmps34
      go_wp2_with fail
      refine (unhide HN).mono ?_
      rintro e w1 ⟨rfl, rfl⟩
      go_wp2_with fail
      refine (unhide HL).mono ?_
      rintro e w2 ⟨v, rfl, hown, hb⟩
      have HO := hide hown
      have HB := hide hb
      clear hown hb
      go_wp2
      go_ret2
      exact ⟨v, rfl, unhide HO, unhide HB⟩
    · have e2 : ((c : Int) == 2) = false := by simp; omega
      have ed : decL c s.data.toList = s.data.toList.map fun b => ofB c b.toNat := by unfold decL; rw [if_neg h2]
      rw [ed]
      clear ed h2 h hn2
      go_enter Tryz.func34, Tryz.ntmps34
      go_wp2_with fail
      refine (unhide HN).mono ?_
      rintro e w1 ⟨rfl, rfl⟩
      go_wp2
      go_loopw [8, 9] (fun x z wr => ∃ (k : Nat) (acc : List Nat), z = .int .i64 k ∧ k ≤ s.size ∧ acc.length ≤ k ∧ Hid (acc = (s.data.toList.take k).map fun b => ofB c b.toNat) ∧ Hid (wr.ownsRow w1.heap.size 21 1 x acc.length (runeC acc)) ∧ Hid (Below w1.heap.size w1 wr)) (fun _ z _ => s.size - (intOf z).toNat)
      case atStart => exact ⟨0, [], rfl, Nat.zero_le _, Nat.le_refl _, hide rfl, hide ⟨rfl, Or.inl ⟨rfl, rfl⟩⟩, hide (Below.refl _ _)⟩
      case round =>
        obtain ⟨k, acc, rfl, hk, hacc, HE, HO, HB⟩ := hrel
        by_cases hlt : k < s.size
        · have hlt1 : (k : Int) < (s.size : Int) := by omega
          have HOF := hide (refOf_any c s[k].toNat wr hc s[k].toNat_lt)
          have hst : acc ++ [ofB c s[k].toNat] = (s.data.toList.take (k + 1)).map fun b => ofB c b.toNat := by
            rw [take_byte s k hlt, List.map_append, unhide HE]; rfl
          have HST := hide hst
          generalize ofB c s[k].toNat = r at HOF HST
          clear hst
          go_wp2_with fail
          refine (unhide HOF).mono ?_
          rintro e w5 ⟨rfl, b5⟩
          have hown5 := own_below (unhide HO) b5
          have hb5 := belows' (unhide HB) b5
          have hz5 := hb5.size
          have HB5 := hide hb5
          clear b5 hb5 HOF
          go_wp2_with (at_builtin; refine wpList_append_own _ rfl _ _ 22 rfl w1.heap.size 21 i0 (.int .i32 0) 1 4 Tryz.underlying22 hi hz0 hz1 hz2 rfl (by decide) _ _ _ rfl (hown5.alloc _) ⟨w5.heap.size, 0, none⟩ 1 1 [.int .i32 (r : Int)] rfl rfl (cell_one _ _ _) (by intro u hu; simp at hu; subst hu; rfl) (by unfold maxLen; omega) (by omega) (by simp; omega) ?_)
          intro v' w6 hown6 hgrow _
          rw [runeC_snoc] at hown6
          have HB6 := hide (own_upL hown5 hgrow (unhide HB5) hz5)
          have HO6 := hide hown6
          clear hown5 hown6 hgrow
          go_wp2
          exact ⟨⟨k + 1, acc ++ [r], by go_num, by omega, by simp; omega, HST, by simpa using HO6, HB6⟩, by simp [intOf]; omega⟩
        · have hlt1 : ¬ (k : Int) < (s.size : Int) := by omega
          have he := unhide HE
          rw [List.take_of_length_le (by omega)] at he
          have HE2 := hide he
          clear he HE
          go_wp2
          go_ret2
          refine ⟨u8, rfl, ?_, unhide HB⟩
          have h9 := unhide HO
          rw [unhide HE2] at h9
          simpa using h9
  · rw [if_neg h]
    have hn2 : (nameR c).2 = 14 := by
      unfold nameR namesT
      simp only [nameF]
      repeat rw [if_neg (by omega)]
    rw [hn2] at HN
    generalize bts (nameR c).1 = nm at HN
    clear h hn2 hsl
    go_enter Tryz.func34, Tryz.ntmps34
    go_wp2_with fail
    refine (unhide HN).mono ?_
    rintro e w1 ⟨rfl, rfl⟩
    go_wp2
    go_ret2
    exact ⟨_, rfl, ⟨rfl, Or.inl ⟨rfl, rfl⟩⟩, Below.refl _ _⟩
end Go.Proofs.YtdallfakfhajdaaGreatDoor
