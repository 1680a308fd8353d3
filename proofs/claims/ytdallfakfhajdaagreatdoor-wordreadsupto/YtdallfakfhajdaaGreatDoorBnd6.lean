/-
  What missiveref06.next does, over this seat's program: the letter that bytes begin with.
-/
import Derived.Test.YtdallfakfhajdaaGreatDoorBnd5
import Derived.Test.YtdallfakfhajdaaGreatDoorRsm
import Derived.Test.YtdallfakfhajdaaGreatDoorRna
import Derived.Test.YtdallfakfhajdaaGreatDoorRnb
import Derived.Test.YtdallfakfhajdaaGreatDoorRnc
import Derived.Test.YtdallfakfhajdaaGreatDoorRnd
import Derived.Test.YtdallfakfhajdaaGreatDoorRnm
set_option linter.unusedVariables false
namespace Go.Proofs.YtdallfakfhajdaaGreatDoor
open Go.RowKit Go.Proofs.Rns Go.Proofs.Nxr

/-- missiveref06.next tells the letter that bytes begin with. -/
theorem refNext_any (s : ByteArray) (w : World) (h0 : 0 < s.size) (hs : s.size ≤ 40000000) :
    Calls Tryz.prog 118 #[.string s] w fun e w' => e = .returned (.tuple #[.int .i32 ((nextL s.data.toList).1 : Int), .int .i64 ((nextL s.data.toList).2 : Int)]) ∧ Below w.heap.size w w' := by
  by_cases c4 : 240 ≤ s[0].toNat ∧ s[0].toNat < 248
  · exact refNext_4 s w h0 hs c4
  · by_cases c3 : 224 ≤ s[0].toNat ∧ s[0].toNat < 240
    · exact refNext_3 s w h0 hs c3
    · by_cases c2 : 192 ≤ s[0].toNat ∧ s[0].toNat < 224
      · exact refNext_2 s w h0 hs c2
      · exact refNext_1 s w h0 hs (by omega)
end Go.Proofs.YtdallfakfhajdaaGreatDoor

/-
  What missiveref06.Letters does, over this seat's program: bytes' letters, as the document says.
-/
set_option linter.unusedVariables false
namespace Go.Proofs.YtdallfakfhajdaaGreatDoor
open Go.RowKit Go.Proofs.Rns

theorem emptyS (s : ByteArray) : s.toList.isEmpty = decide (s.size = 0) := by
  rw [ByteArray.toList_eq, ← sizeL]
  cases s.data.toList <;> simp
/-- How long a text is. -/
def sizeV : Value → Nat
  | .string s => s.size
  | _ => 0
theorem own_upL {w wr w2 : World} {o : Obj} {B size : Nat} {e : TypeId} {v : Value} {n : Nat} {xs : List Value} (hown : wr.ownsRow B e size v n xs) (hgrow : (wr.alloc o).grownBy w2 v.ownBlock) (hbw : Below B w wr) (hB : B ≤ wr.heap.size) : Below B w w2 :=
  (hbw.alloc hB _).grown hgrow (by simp; omega) (fun k hk => by
    rcases hown.2 with ⟨rfl, _⟩ | ⟨g, cap, cur, rfl, hg, _⟩
    · simp [Value.ownBlock] at hk
    · simp [Value.ownBlock] at hk; omega)

set_option maxHeartbeats 1000000 in
set_option maxRecDepth 100000 in
/-- missiveref06.Letters tells the letters. -/
theorem refLetters_any (s : ByteArray) (w : World) (hs : s.size ≤ 4000000) :
    Calls Tryz.prog 75 #[.string s] w fun e w' => ∃ v, e = .returned v ∧ w'.ownsRow w.heap.size 21 1 v (lettersL s.data.toList).length (runeC (lettersL s.data.toList)) ∧ Below w.heap.size w w' := by
  obtain ⟨i0, hi, hz0, hz1, hz2⟩ := info_parts rInfo
  go_enter Tryz.func75, Tryz.ntmps75
  go_wp2
  go_loopw [0, 3] (fun y x wr => ∃ (t : ByteArray) (acc : List Nat), y = .string t ∧ t.size + acc.length ≤ s.size ∧ Hid (acc ++ lettersL t.data.toList = lettersL s.data.toList) ∧ Hid (wr.ownsRow w.heap.size 21 1 x acc.length (runeC acc)) ∧ Hid (Below w.heap.size w wr)) (fun y _ _ => sizeV y)
  case atStart => exact ⟨s, [], rfl, by simp, hide rfl, hide ⟨rfl, Or.inl ⟨rfl, rfl⟩⟩, hide (Below.refl _ _)⟩
  case round =>
    obtain ⟨t, acc, rfl, hta, HE, HO, HB⟩ := hrel
    have hzr := (unhide HB).size
    by_cases ht0 : t.size = 0
    · have he : t.toList.isEmpty = true := by rw [emptyS]; exact decide_eq_true ht0
      have hfin : acc = lettersL s.data.toList := by
        rw [← unhide HE]
        have : t.data.toList = [] := List.eq_nil_of_length_eq_zero (by rw [sizeL]; exact ht0)
        rw [this, lettersL_nil, List.append_nil]
      have HF := hide hfin
      clear hfin ht0
      go_wp2
      go_ret
      refine ⟨_, rfl, ?_, unhide HB⟩
      rw [← unhide HF]
      exact unhide HO
    · have he : t.toList.isEmpty = false := by rw [emptyS]; exact decide_eq_false ht0
      have hne : t.data.toList ≠ [] := by
        intro e
        have := sizeL t
        rw [e] at this
        simp at this
        omega
      have hle := nextL_le hne
      rw [sizeL] at hle
      have HN := hide (refNext_any t wr (by omega) (by omega))
      have hst := lettersL_cons hne
      have HE2 := hide (unhide HE)
      rw [hst] at HE2
      generalize (nextL t.data.toList).1 = r at HN HE2
      generalize (nextL t.data.toList).2 = m at HN HE2 hle
      have hm' : (m : Int) ≤ (t.size : Int) := by omega
      clear hne hst HE ht0
      go_wp2_with fail
      refine (unhide HN).mono ?_
      rintro e w5 ⟨rfl, b5⟩
      have hown5 := own_below (unhide HO) b5
      have hb5 := belows' (unhide HB) b5
      have hz5 := hb5.size
      have HB5 := hide hb5
      clear b5 hb5 HN
      go_wp2_with (at_builtin; refine wpList_append_own _ rfl _ _ 22 rfl w.heap.size 21 i0 (.int .i32 0) 1 4 Tryz.underlying22 hi hz0 hz1 hz2 rfl (by decide) _ _ _ rfl (hown5.alloc _) ⟨w5.heap.size, 0, none⟩ 1 1 [.int .i32 (r : Int)] rfl rfl (cell_one _ _ _) (by intro u hu; simp at hu; subst hu; rfl) (by unfold maxLen; omega) (by omega) (by simp; omega) ?_)
      intro v' w6 hown6 hgrow _
      rw [runeC_snoc] at hown6
      have HB6 := hide (own_upL hown5 hgrow (unhide HB5) hz5)
      have HO6 := hide hown6
      clear hown5 hown6 hgrow
      go_wp2
      refine ⟨⟨t.extract m t.size, acc ++ [r], rfl, ?_, ?_, by simpa using HO6, HB6⟩, ?_⟩
      · rw [size_part t m t.size (Nat.le_refl _)]; simp; omega
      · rw [toList_from, ← unhide HE2]; exact hide (by simp)
      · simp only [sizeV]; rw [size_part t m t.size (Nat.le_refl _)]; omega
end Go.Proofs.YtdallfakfhajdaaGreatDoor

/-
  What the document's Name of layer 6 does, over this seat's program.
-/
set_option linter.unusedVariables false
namespace Go.Proofs.YtdallfakfhajdaaGreatDoor
open Go.RowKit Go.Proofs.Rns

set_option maxHeartbeats 1000000 in
set_option maxRecDepth 100000 in
/-- The document's Name. -/
theorem refName_any (c : Nat) (w : World) (hc : c < 256) :
    Calls Tryz.prog 74 #[.int .u8 c] w fun e w' => e = .returned (.tuple #[.string (bts (nameR c).1), .int .i64 (nameR c).2]) ∧ w' = w := by
  by_cases h1 : c = 1
  · have hb : ((c : Int) == 1) = true := by rw [h1]; rfl
    rw [show nameR c = ([85, 83, 45, 65, 83, 67, 73, 73], 0) by rw [h1]; decide +kernel]
    clear h1
    go_enter Tryz.func74, Tryz.ntmps74
    go_wp2
    go_ret2
    exact ⟨rfl, rfl⟩
  have b1x : ((c : Int) == 1) = false := by simp; omega
  by_cases h2 : c = 2
  · have hb : ((c : Int) == 2) = true := by rw [h2]; rfl
    rw [show nameR c = ([85, 84, 70, 45, 56], 0) by rw [h2]; decide +kernel]
    clear h1 h2
    go_enter Tryz.func74, Tryz.ntmps74
    go_wp2
    go_ret2
    exact ⟨rfl, rfl⟩
  have b2x : ((c : Int) == 2) = false := by simp; omega
  by_cases h3 : c = 3
  · have hb : ((c : Int) == 3) = true := by rw [h3]; rfl
    rw [show nameR c = ([73, 83, 79, 45, 56, 56, 53, 57, 45, 49], 0) by rw [h3]; decide +kernel]
    clear h1 h2 h3
    go_enter Tryz.func74, Tryz.ntmps74
    go_wp2
    go_ret2
    exact ⟨rfl, rfl⟩
  have b3x : ((c : Int) == 3) = false := by simp; omega
  by_cases h4 : c = 4
  · have hb : ((c : Int) == 4) = true := by rw [h4]; rfl
    rw [show nameR c = ([73, 83, 79, 45, 56, 56, 53, 57, 45, 49, 53], 0) by rw [h4]; decide +kernel]
    clear h1 h2 h3 h4
    go_enter Tryz.func74, Tryz.ntmps74
    go_wp2
    go_ret2
    exact ⟨rfl, rfl⟩
  have b4x : ((c : Int) == 4) = false := by simp; omega
  by_cases h5 : c = 5
  · have hb : ((c : Int) == 5) = true := by rw [h5]; rfl
    rw [show nameR c = ([87, 73, 78, 68, 79, 87, 83, 45, 49, 50, 53, 50], 0) by rw [h5]; decide +kernel]
    clear h1 h2 h3 h4 h5
    go_enter Tryz.func74, Tryz.ntmps74
    go_wp2
    go_ret2
    exact ⟨rfl, rfl⟩
  have b5x : ((c : Int) == 5) = false := by simp; omega
  rw [show nameR c = ([], 14) by simp only [nameR, nameF, namesT, if_neg (show ¬ 1 = c from fun e => h1 e.symm), if_neg (show ¬ 2 = c from fun e => h2 e.symm), if_neg (show ¬ 3 = c from fun e => h3 e.symm), if_neg (show ¬ 4 = c from fun e => h4 e.symm), if_neg (show ¬ 5 = c from fun e => h5 e.symm)]]
  clear h1 h2 h3 h4 h5
  go_enter Tryz.func74, Tryz.ntmps74
  go_wp2
  go_ret2
  exact ⟨rfl, rfl⟩
end Go.Proofs.YtdallfakfhajdaaGreatDoor

/-
  What missiveref06.Decode does, over this seat's program: bytes' letters in a charset, as the document says.
-/
set_option linter.unusedVariables false
namespace Go.Proofs.YtdallfakfhajdaaGreatDoor
open Go.RowKit Go.Proofs.Rns

set_option maxHeartbeats 1000000 in
set_option maxRecDepth 100000 in
/-- missiveref06.Decode tells the letters, or the error. -/
theorem refDecode_any (c : Nat) (s : ByteArray) (w : World) (hc : c < 256) (hs : s.size ≤ 4000000) :
    Calls Tryz.prog 34 #[.int .u8 c, .string s] w fun e w' => ∃ v, e = .returned (.tuple #[v, .int .i64 (decR c s.data.toList).2]) ∧ w'.ownsRow w.heap.size 21 1 v (decR c s.data.toList).1.length (runeC (decR c s.data.toList).1) ∧ Below w.heap.size w w' := by
  obtain ⟨i0, hi, hz0, hz1, hz2⟩ := info_parts rInfo
  have hsl := sizeL s
  have HN := hide (refName_any c w hc)
  unfold decR
  by_cases h : 1 ≤ c ∧ c ≤ 5
  · rw [if_pos h]
    have hn2 : (nameR c).2 = 0 := by
      rcases (show c = 1 ∨ c = 2 ∨ c = 3 ∨ c = 4 ∨ c = 5 by omega) with rfl | rfl | rfl | rfl | rfl <;> rfl
    rw [hn2] at HN
    generalize bts (nameR c).1 = nm at HN
    simp only
    by_cases h2 : c = 2
    · have e2 : ((c : Int) == 2) = true := by simp [h2]
      have HL := hide (refLetters_any s w hs)
      have ed : decL c s.data.toList = lettersL s.data.toList := by unfold decL; rw [if_pos h2]
      rw [ed]
      clear ed h2 h hn2 hsl
      go_enter Tryz.func34, Tryz.ntmps34
      go_wp2_with fail
      refine (unhide HN).mono ?_
      rintro e w1 ⟨rfl, rfl⟩
      go_wp2_with fail
      refine (unhide HL).mono ?_
      rintro e w2 ⟨v, rfl, hown, hb⟩
      have HO := hide hown
      have HB := hide hb
      clear hown hb
      go_wp2
      go_ret2
      exact ⟨v, rfl, unhide HO, unhide HB⟩
    · have e2 : ((c : Int) == 2) = false := by simp; omega
      have ed : decL c s.data.toList = s.data.toList.map fun b => ofB c b.toNat := by unfold decL; rw [if_neg h2]
      rw [ed]
      clear ed h2 h hn2
      go_enter Tryz.func34, Tryz.ntmps34
      go_wp2_with fail
      refine (unhide HN).mono ?_
      rintro e w1 ⟨rfl, rfl⟩
      go_wp2
      go_loopw [8, 9] (fun x z wr => ∃ (k : Nat) (acc : List Nat), z = .int .i64 k ∧ k ≤ s.size ∧ acc.length ≤ k ∧ Hid (acc = (s.data.toList.take k).map fun b => ofB c b.toNat) ∧ Hid (wr.ownsRow w1.heap.size 21 1 x acc.length (runeC acc)) ∧ Hid (Below w1.heap.size w1 wr)) (fun _ z _ => s.size - (intOf z).toNat)
      case atStart => exact ⟨0, [], rfl, Nat.zero_le _, Nat.le_refl _, hide rfl, hide ⟨rfl, Or.inl ⟨rfl, rfl⟩⟩, hide (Below.refl _ _)⟩
      case round =>
        obtain ⟨k, acc, rfl, hk, hacc, HE, HO, HB⟩ := hrel
        by_cases hlt : k < s.size
        · have hlt1 : (k : Int) < (s.size : Int) := by omega
          have HOF := hide (refOf_any c s[k].toNat wr hc s[k].toNat_lt)
          have hst : acc ++ [ofB c s[k].toNat] = (s.data.toList.take (k + 1)).map fun b => ofB c b.toNat := by
            rw [take_byte s k hlt, List.map_append, unhide HE]; rfl
          have HST := hide hst
          generalize ofB c s[k].toNat = r at HOF HST
          clear hst
          go_wp2_with fail
          refine (unhide HOF).mono ?_
          rintro e w5 ⟨rfl, b5⟩
          have hown5 := own_below (unhide HO) b5
          have hb5 := belows' (unhide HB) b5
          have hz5 := hb5.size
          have HB5 := hide hb5
          clear b5 hb5 HOF
          go_wp2_with (at_builtin; refine wpList_append_own _ rfl _ _ 22 rfl w1.heap.size 21 i0 (.int .i32 0) 1 4 Tryz.underlying22 hi hz0 hz1 hz2 rfl (by decide) _ _ _ rfl (hown5.alloc _) ⟨w5.heap.size, 0, none⟩ 1 1 [.int .i32 (r : Int)] rfl rfl (cell_one _ _ _) (by intro u hu; simp at hu; subst hu; rfl) (by unfold maxLen; omega) (by omega) (by simp; omega) ?_)
          intro v' w6 hown6 hgrow _
          rw [runeC_snoc] at hown6
          have HB6 := hide (own_upL hown5 hgrow (unhide HB5) hz5)
          have HO6 := hide hown6
          clear hown5 hown6 hgrow
          go_wp2
          exact ⟨⟨k + 1, acc ++ [r], by go_num, by omega, by simp; omega, HST, by simpa using HO6, HB6⟩, by simp [intOf]; omega⟩
        · have hlt1 : ¬ (k : Int) < (s.size : Int) := by omega
          have he := unhide HE
          rw [List.take_of_length_le (by omega)] at he
          have HE2 := hide he
          clear he HE
          go_wp2
          go_ret2
          refine ⟨u8, rfl, ?_, unhide HB⟩
          have h9 := unhide HO
          rw [unhide HE2] at h9
          simpa using h9
  · rw [if_neg h]
    have hn2 : (nameR c).2 = 14 := by
      unfold nameR namesT
      simp only [nameF]
      repeat rw [if_neg (by omega)]
    rw [hn2] at HN
    generalize bts (nameR c).1 = nm at HN
    clear h hn2 hsl
    go_enter Tryz.func34, Tryz.ntmps34
    go_wp2_with fail
    refine (unhide HN).mono ?_
    rintro e w1 ⟨rfl, rfl⟩
    go_wp2
    go_ret2
    exact ⟨_, rfl, ⟨rfl, Or.inl ⟨rfl, rfl⟩⟩, Below.refl _ _⟩
end Go.Proofs.YtdallfakfhajdaaGreatDoor
