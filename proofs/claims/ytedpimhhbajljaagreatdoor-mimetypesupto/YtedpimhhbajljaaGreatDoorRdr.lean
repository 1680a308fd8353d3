/-
  What the reader's methods more, count and letter do, over this seat's program: whether there is something to read, how many letters there are, the next one.
-/
import Derived.Test.YtedpimhhbajljaaGreatDoorRlo
import Derived.Deep.RegionWith
set_option linter.unusedVariables false
namespace Go.Proofs.YtedpimhhbajljaaGreatDoor
open Go.RowKit Go.Proofs.Rns

/-- A reader in memory: its text, how far it is read, its charset. -/
def Rdr (w : World) (B : Nat) (s : ByteArray) (k c : Nat) : Prop := Blk w B 118 #[.string s, .int .i64 (k : Int), .int .u8 (c : Int)]

theorem Rdr.cells {w : World} {B : Nat} {s : ByteArray} {k c : Nat} (h : Rdr w B s k c) : w.cell? ⟨B, 0, none⟩ = some (.string s) ∧ w.cell? ⟨B, 1, none⟩ = some (.int .i64 (k : Int)) ∧ w.cell? ⟨B, 2, none⟩ = some (.int .u8 (c : Int)) ∧ w.frozen? ⟨B, 1, none⟩ = false :=
  ⟨by rw [Blk.cell h]; rfl, by rw [Blk.cell h]; rfl, by rw [Blk.cell h]; rfl, Blk.frozen h 1⟩

set_option maxHeartbeats 1000000 in
theorem more_any (B : Nat) (s : ByteArray) (k c : Nat) (w : World) (h : Rdr w B s k c) (hs : s.size ≤ 281474976710656) (hk : k ≤ s.size) :
    Calls Tryz.prog 80 #[.pointer (some ⟨B, 0, none⟩)] w fun e w' => e = .returned (.bool (decide (k < s.size))) ∧ ∃ n, w' = w.drewN n := by
  obtain ⟨c0, c1, c2, f1⟩ := h.cells
  clear h
  by_cases hlt : k < s.size
  · rw [decide_eq_true hlt]
    have hd : decide ((k : Int) < (s.size : Int)) = true := by simp; omega
    go_enter Tryz.func80, Tryz.ntmps80
    go_wp2
    go_quiet (fail)
    go_simp
    go_wp2
    go_ret
    exact ⟨by simp, _, rfl⟩
  · rw [decide_eq_false hlt]
    have hd : decide ((k : Int) < (s.size : Int)) = false := by simp; omega
    go_enter Tryz.func80, Tryz.ntmps80
    go_wp2
    go_quiet (fail)
    go_simp
    go_wp2
    go_ret
    exact ⟨by simp, _, rfl⟩

theorem runeCount_le (s : ByteArray) : Lib.runeCount s ≤ s.size := Lib.runeCountFrom_le s s.size 0

set_option maxHeartbeats 1000000 in
theorem count_any (B : Nat) (s : ByteArray) (k c : Nat) (w : World) (h : Rdr w B s k c) (hs : s.size ≤ 281474976710656) (hc : c < 256) :
    Calls Tryz.prog 79 #[.pointer (some ⟨B, 0, none⟩)] w fun e w' => ∃ n : Nat, e = .returned (.int .i64 n) ∧ n ≤ s.size ∧ Below w.heap.size w w' := by
  obtain ⟨c0, c1, c2, f1⟩ := h.cells
  clear h
  by_cases h2 : c = 2
  · have e2 : ((c : Int) == 2) = true := by simp [h2]
    have hle := runeCount_le s
    clear h2
    go_enter Tryz.func79, Tryz.ntmps79
    go_wp2_with (go_at_call 98; refine (Tryz.utf8_RuneCountInString s _ (by omega)).mono ?_)
    rintro e w1 ⟨rfl, pos, rfl⟩
    go_wp2
    go_ret
    exact ⟨_, rfl, hle, (Below.refl _ w).alloc (Nat.le_refl _) _⟩
  · have e2 : ((c : Int) == 2) = false := by simp; omega
    clear h2
    go_enter Tryz.func79, Tryz.ntmps79
    go_wp2
    go_ret
    exact ⟨_, rfl, Nat.le_refl _, Below.refl _ _⟩

set_option maxHeartbeats 2000000 in
set_option maxRecDepth 100000 in
theorem letter_one (B : Nat) (s : ByteArray) (k c : Nat) (w : World) (ht : RTab w) (h : Rdr w B s k c) (hs : s.size ≤ 281474976710656) (hk : k < s.size) (hc : c < 256) (h2 : c ≠ 2) (hB : 6 ≤ B) :
    Calls Tryz.prog 81 #[.pointer (some ⟨B, 0, none⟩)] w fun e w' => e = .returned (.int .i32 (ofB c s[k].toNat)) ∧ w.grownBy w' (some B) ∧ Rdr w' B s (k + 1) c := by
  have HR := hide h
  have HT := hide ht
  obtain ⟨c0, c1, c2, f1⟩ := h.cells
  have e2 : ((c : Int) == 2) = false := by simp; omega
  have hcc := s[k].toNat_lt
  clear h ht h2
  go_enter Tryz.func81, Tryz.ntmps81
  go_wp2
  obtain ⟨w1, hw1⟩ : ∃ w1, w.setCell ⟨B, 1, none⟩ (.int .i64 ((k : Int) + 1)) = w1 := ⟨_, rfl⟩
  have hR : Rdr w1 B s (k + 1) c := by rw [← hw1]; exact Blk.set (unhide HR) 1 _
  have hT : RTab w1 := by rw [← hw1]; exact (unhide HT).low ((Below.refl 6 w).setCell hB _)
  have hG : w.grownBy w1 (some B) := by rw [← hw1]; exact ⟨rfl, rfl, rfl, by simp, fun i hi hne => Below.heap_setCell w _ _ i (by intro e; subst e; exact hne rfl)⟩
  rw [hw1]
  have HR1 := hide hR
  have HT1 := hide hT
  have HG := hide hG
  clear hw1 c0 c1 c2 f1 hG hT HR HT
  obtain ⟨c0, c1, c2, f1⟩ := hR.cells
  clear hR
  obtain ⟨k1, hk1⟩ : ∃ k1, k + 1 = k1 := ⟨_, rfl⟩
  rw [hk1] at c1 HR1
  have v1 : IntKind.i64.wrap ((k1 : Int) - 1) = (k : Int) := by rw [IntKind.wrap_i64]; omega
  have HK1 := hide hk1
  clear hk1
  go_quiet ((go_at_call 99; exact Calls.quiet_of_same (letterOf_any c s[k].toNat _ ((unhide HT1).drewN _) hc hcc)))
  go_simp
  go_wp2
  go_ret
  refine ⟨rfl, ?_, ?_⟩
  · have hG := unhide HG
    exact ⟨hG.os, hG.tape, hG.output, hG.size, hG.block⟩
  · rw [unhide HK1]
    exact unhide HR1

theorem get_bAt (s : ByteArray) (i : Nat) : (s.get! i).toNat = bAt s.data.toList i := by
  unfold bAt ByteArray.get!
  rcases Nat.lt_or_ge i s.size with h | h
  · rw [getD_byte s i h]
    show (s.data[i]!).toNat = (s.data[i]).toNat
    rw [getElem!_pos s.data i h]
  · rw [List.getD_eq_getElem?_getD, List.getElem?_eq_none (by rw [sizeL]; exact h)]
    show (s.data[i]!).toNat = _
    rw [getElem!_neg s.data i (by simpa using h)]
    rfl

theorem decodeGo_next (s : ByteArray) (h : 0 < s.size) : Lib.decodeGo s = nextL s.data.toList := by
  unfold Lib.decodeGo nextL
  rw [if_neg (by omega), Lib.decode_at, get_bAt, get_bAt, get_bAt, get_bAt, sizeL]
  rfl

set_option maxHeartbeats 2000000 in
set_option maxRecDepth 100000 in
theorem letter_two (B : Nat) (s : ByteArray) (k : Nat) (w : World) (ht : RTab w) (h : Rdr w B s k 2) (hs : s.size ≤ 281474976710656) (hk : k < s.size) (hB : 6 ≤ B) :
    Calls Tryz.prog 81 #[.pointer (some ⟨B, 0, none⟩)] w fun e w' => e = .returned (.int .i32 (nextL (s.data.toList.drop k)).1) ∧ w.grownBy w' (some B) ∧ Rdr w' B s (k + (nextL (s.data.toList.drop k)).2) 2 := by
  have HR := hide h
  have HT := hide ht
  obtain ⟨c0, c1, c2, f1⟩ := h.cells
  have hsz : 0 < (s.extract k s.size).size := by rw [size_part _ _ _ (Nat.le_refl _)]; omega
  have hdg := decodeGo_next (s.extract k s.size) hsz
  rw [toList_from] at hdg
  have hne : s.data.toList.drop k ≠ [] := by rw [drop_byte s k hk]; simp
  have hnl := nextL_le hne
  rw [List.length_drop, sizeL] at hnl
  have D := fun W (hW : RTab W) => Tryz.utf8_DecodeRuneInString (s.extract k s.size) W hW.utf8
  rw [hdg] at D
  have HD := hide D
  have hsl := slice_from s k k rfl (by omega)
  clear h ht hdg hne D hsz
  generalize s.extract k s.size = t at HD hsl
  generalize (nextL (s.data.toList.drop k)).1 = r at HD
  generalize (nextL (s.data.toList.drop k)).2 = m at HD hnl
  have hB2 : B < w.heap.size := Blk.lt (unhide HR)
  go_enter Tryz.func81, Tryz.ntmps81
  go_wp2
  go_region_with (go_at_call 56; refine (unhide HD _ ((unhide HT).drewN 1)).mono ?_; rintro e w3 ⟨rfl, b3⟩)
  all_goals
    have b4 := below_drew0 b3
    have hR : Rdr w3 B s k 2 := Blk.below (unhide HR) b4
    obtain ⟨d0, d1, d2, g1⟩ := hR.cells
    have HR3 := hide hR
    clear hR c0 c1 c2 f1 HD hsl
    go_simp
    go_wp2
    go_ret
    refine ⟨rfl, ?_, ?_⟩
    · exact ⟨b4.os, b4.tape, b4.output, by simpa using b4.size, fun i hi hne => (Below.heap_setCell w3 _ _ i (by intro e; subst e; exact hne rfl)).trans (b4.block i hi)⟩
    · exact Blk.set (unhide HR3) 1 _

/-- A letter and how many bytes it has, in any charset. -/
def stepC (c : Nat) (l : List UInt8) : Nat × Nat := if c = 2 then nextL l else (ofB c (bAt l 0), 1)

/-- The reader's next letter. -/
theorem letter_any (B : Nat) (s : ByteArray) (k c : Nat) (w : World) (ht : RTab w) (h : Rdr w B s k c) (hs : s.size ≤ 281474976710656) (hk : k < s.size) (hc : c < 256) (hB : 6 ≤ B) :
    Calls Tryz.prog 81 #[.pointer (some ⟨B, 0, none⟩)] w fun e w' => e = .returned (.int .i32 (stepC c (s.data.toList.drop k)).1) ∧ w.grownBy w' (some B) ∧ Rdr w' B s (k + (stepC c (s.data.toList.drop k)).2) c := by
  unfold stepC
  by_cases h2 : c = 2
  · subst h2
    rw [if_pos rfl]
    exact letter_two B s k w ht h hs hk hB
  · rw [if_neg h2]
    have e : bAt (s.data.toList.drop k) 0 = s[k].toNat := by rw [drop_byte s k hk]; rfl
    rw [e]
    exact letter_one B s k c w ht h hs hk hc h2 hB

theorem decL_nil (c : Nat) : decL c [] = [] := by
  unfold decL
  split <;> rfl
theorem decL_step (c : Nat) {l : List UInt8} (h : l ≠ []) : decL c l = (stepC c l).1 :: decL c (l.drop (stepC c l).2) := by
  unfold decL stepC
  by_cases h2 : c = 2
  · rw [if_pos h2, if_pos h2, if_pos h2]
    exact lettersL_cons h
  · rw [if_neg h2, if_neg h2, if_neg h2]
    cases l with
    | nil => exact absurd rfl h
    | cons a r => simp [bAt]
theorem stepC_le (c : Nat) {l : List UInt8} (h : l ≠ []) : 1 ≤ (stepC c l).2 ∧ (stepC c l).2 ≤ l.length := by
  unfold stepC
  split
  · exact nextL_le h
  · cases l with
    | nil => exact absurd rfl h
    | cons a r => simp
end Go.Proofs.YtedpimhhbajljaaGreatDoor
