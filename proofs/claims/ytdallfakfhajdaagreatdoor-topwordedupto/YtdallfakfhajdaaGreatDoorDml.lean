/-
  What strings.Cut at one byte, the moment's takeWord, date.fullYear and date.Mail do, over this seat's program.
-/
import Derived.Test.YtdallfakfhajdaaGreatDoorDpa
import Derived.Shelf.Strings.SlTrimAscii
set_option linter.unusedVariables false
namespace Go.Proofs.YtdallfakfhajdaaGreatDoor
open Go.RowKit Go.Proofs.Dcl

/-- A blank. -/
def blB (c : UInt8) : Bool := ([32, 9] : List UInt8).contains c
/-- How many bytes a word has. -/
def wordN (l : List UInt8) : Nat := if Lib.indexAny l [32, 9] < 0 then l.length else (Lib.indexAny l [32, 9]).toNat
/-- A word between blanks, and what is behind it. -/
def wordR (l : List UInt8) : List UInt8 × List UInt8 := ((l.dropWhile blB).take (wordN (l.dropWhile blB)), (l.dropWhile blB).drop (wordN (l.dropWhile blB)))
theorem dropB_len (l : List UInt8) : (l.dropWhile blB).length ≤ l.length := (List.dropWhile_sublist (p := blB) (l := l)).length_le
theorem wordR_len (l : List UInt8) : (wordR l).1.length ≤ l.length ∧ (wordR l).2.length ≤ l.length := by
  have := dropB_len l
  simp only [wordR, List.length_take, List.length_drop]
  omega

/-- What strings.IndexAny tells of blanks in a text. -/
def IxAny (l : List UInt8) : Prop := ∀ W, Calls Tryz.prog 109 #[.string (bts l), .string ⟨#[32, 9]⟩] W fun e w' => e = .returned (.int .i64 (Lib.indexAny l [32, 9])) ∧ Below W.heap.size W w'
theorem ixAny_ascii (l : List UInt8) (h : ∀ c ∈ l, c.toNat < 128) (hl : l.length ≤ 4294967280) : IxAny l := by
  intro W
  have := Tryz.strings_IndexAny_laid (bts l) ⟨#[32, 9]⟩ W (by rw [size_bts]; omega) (by decide) (by rw [toList_bts]; intro j b hb; exact h b (List.mem_of_getElem? hb)) (ascii_of_all (by decide))
  rw [toList_bts] at this
  exact this

theorem trimLeft_any (l : List UInt8) (w : World) :
    Calls Tryz.prog 108 #[.string (bts l), .string ⟨#[32, 9]⟩] w fun e w' => e = .returned (.string (bts (l.dropWhile blB))) ∧ Below w.heap.size w w' := by
  have h := Any.strings_TrimLeft_laid Tryz.lays161 (by kernel_rfl) (bts l) ⟨#[32, 9]⟩ w (by decide) (ascii_of_all (by decide))
  rw [toList_bts] at h
  exact h

theorem Mom.below {w w' : World} {b : Nat} {d s z : Int} {l : ByteArray} (h : Mom w b d s z l) (hb : Below w.heap.size w w') : Mom w' b d s z l := Blk.below h hb

theorem wordN_le (l : List UInt8) : wordN l ≤ l.length := by
  unfold wordN
  split
  · omega
  · have : ∀ l : List UInt8, Lib.indexAny l [32, 9] ≤ l.length := by
      intro l
      induction l with
      | nil => simp [Lib.indexAny]
      | cons c r ih =>
        simp only [Lib.indexAny, List.length_cons]
        split
        · omega
        · split <;> omega
    have := this l
    omega

set_option maxHeartbeats 1000000 in
theorem takeWord_any (b : Nat) (d s z : Int) (l : List UInt8) (w : World) (hM : Mom w b d s z (bts l)) (hl : l.length ≤ 281474976710656) (hx : IxAny (l.dropWhile blB)) :
    Calls Tryz.prog 62 #[.pointer (some ⟨b, 0, none⟩)] w fun e w' => e = .returned (.string (bts (wordR l).1)) ∧ Mom w' b d s z (bts (wordR l).2) ∧ Below b w w' := by
  have hdl := dropB_len l
  have hblt : b < w.heap.size := Blk.lt hM
  have c3 : w.cell? ⟨b, 3, none⟩ = some (.string (bts l)) := (Blk.cell hM 3).trans rfl
  have HT := hide (trimLeft_any l w)
  have HM := hide hM
  have HX := hide hx
  unfold wordR
  clear hM hx
  obtain ⟨L, hL⟩ : ∃ L, L = l.dropWhile blB := ⟨_, rfl⟩
  rw [← hL] at HT HX hdl ⊢
  clear hL
  go_enter Tryz.func62, Tryz.ntmps62
  go_wp2_with fail
  refine (unhide HT).mono ?_
  rintro e w1 ⟨rfl, hb1⟩
  have hM1 := (unhide HM).below hb1
  have f3 := Blk.frozen hM1 3
  have c3' : w1.cell? ⟨b, 3, none⟩ = some (.string (bts l)) := (Blk.cell hM1 3).trans rfl
  have HM2 := hide (hM1.left (bts L))
  have HB2 := hide (setB (hb1.mono (Nat.le_of_lt hblt)) 3 (.string (bts L)))
  clear HT HM c3 hb1 hM1
  have c4 := (Blk.cell (unhide HM2) 3).trans (rfl : _ = some (Value.string (bts L)))
  go_wp2_with fail
  generalize w1.setCell ⟨b, 3, none⟩ (.string (bts L)) = w2 at HM2 HB2 c4 ⊢
  clear c3' f3
  refine (unhide HX _).mono ?_
  rintro e w3 ⟨rfl, hb3⟩
  have HM3 := hide ((unhide HM2).below hb3)
  have HB3 := hide ((unhide HB2).trans (hb3.mono (Nat.le_of_lt (Blk.lt (unhide HM2)))))
  clear HM2 HB2 c4 hb3 HX
  have c5 : w3.cell? ⟨b, 3, none⟩ = some (.string (bts L)) := (Blk.cell (unhide HM3) 3).trans rfl
  have hsz : (bts L).size = L.length := size_bts L
  have HK := hide (take_any b d s z (bts L) (wordN L) w3 (unhide HM3) (by omega) (by have := wordN_le L; omega))
  rw [toList_bts] at HK
  have HM4 := hide ((unhide HM3).left (bts (L.drop (wordN L))))
  have HB4 := hide (setB (unhide HB3) 3 (.string (bts (L.drop (wordN L)))))
  by_cases hneg : Lib.indexAny L [32, 9] < 0
  · have hn : wordN L = L.length := by unfold wordN; rw [if_pos hneg]
    rw [hn, List.take_length, List.drop_length] at HK
    rw [hn, List.drop_length] at HM4 HB4
    have HN := hide hn
    clear hn
    generalize Lib.indexAny L [32, 9] = i at hneg ⊢
    go_wp2_with fail
    refine (unhide HK).mono ?_
    rintro e _ ⟨rfl, rfl⟩
    go_wp2
    go_ret
    exact ⟨by rw [unhide HN, List.take_length]; rfl, by rw [unhide HN, List.drop_length]; exact unhide HM4, unhide HB4⟩
  · have hn : Lib.indexAny L [32, 9] = (wordN L : Int) := by unfold wordN; rw [if_neg hneg]; omega
    rw [hn]
    have hneg' : ¬ (wordN L : Int) < 0 := by omega
    clear hn hneg
    obtain ⟨k, hk⟩ : ∃ k, wordN L = k := ⟨_, rfl⟩
    rw [hk] at HK HM4 HB4 hneg' ⊢
    have HN := hide hk
    clear hk
    go_wp2_with fail
    refine (unhide HK).mono ?_
    rintro e _ ⟨rfl, rfl⟩
    go_wp2
    go_ret
    exact ⟨by rw [unhide HN]; rfl, by rw [unhide HN]; exact unhide HM4, unhide HB4⟩

/-- A mail's year, with what it leaves out. -/
def fullR (y n : Nat) : Nat := if n = 2 ∧ y < 50 then y + 2000 else if n < 4 then y + 1900 else y

set_option maxHeartbeats 1000000 in
theorem fullYear_any (y n : Nat) (w : World) (hy : y ≤ 100000) (hn : n ≤ 100000) :
    Calls Tryz.prog 65 #[.int .i64 (y : Int), .int .i64 (n : Int)] w fun e w' => e = .returned (.int .i64 (fullR y n : Int)) ∧ w' = w := by
  unfold fullR
  by_cases h2 : n = 2
  · subst h2
    by_cases h50 : y < 50
    · rw [if_pos ⟨rfl, h50⟩]
      have h50' : (y : Int) < 50 := by omega
      go_enter Tryz.func65, Tryz.ntmps65
      go_wp2
      go_ret
      exact ⟨ret_int (by omega), rfl⟩
    · rw [if_neg (fun h => h50 h.2), if_pos (by omega)]
      have h50' : ¬ (y : Int) < 50 := by omega
      go_enter Tryz.func65, Tryz.ntmps65
      go_wp2
      go_ret
      exact ⟨ret_int (by omega), rfl⟩
  · have h2' : ((n : Int) == 2) = false := by rw [beq_eq_false_iff_ne]; omega
    rw [if_neg (fun h => h2 h.1)]
    by_cases h4 : n < 4
    · rw [if_pos h4]
      have h4' : (n : Int) < 4 := by omega
      go_enter Tryz.func65, Tryz.ntmps65
      go_wp2
      go_ret
      exact ⟨ret_int (by omega), rfl⟩
    · rw [if_neg h4]
      have h4' : ¬ (n : Int) < 4 := by omega
      go_enter Tryz.func65, Tryz.ntmps65
      go_wp2
      go_ret
      exact ⟨rfl, rfl⟩

end Go.Proofs.YtdallfakfhajdaaGreatDoor
