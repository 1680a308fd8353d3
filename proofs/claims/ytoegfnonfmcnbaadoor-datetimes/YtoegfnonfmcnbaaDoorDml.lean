/-
  What strings.Cut at one byte, the moment's takeWord, date.fullYear and date.Mail do, over this seat's program.
-/
import Derived.Test.YtoegfnonfmcnbaaDoorDpa
import Derived.Shelf.Strings.SlTrimAscii
set_option linter.unusedVariables false
namespace Go.Proofs.YtoegfnonfmcnbaaDoor
open Go.RowKit Go.Proofs.Dcl

/-- What is ahead of a byte, and behind it. -/
def cutAt (k : UInt8) : List UInt8 → Option (List UInt8 × List UInt8)
  | [] => none
  | c :: r => if c = k then some ([], r) else (cutAt k r).map fun p => (c :: p.1, p.2)
theorem index_cut (k : UInt8) : ∀ s : List UInt8, match cutAt k s with | none => Lib.indexByte s k = -1 | some (n, v) => Lib.indexByte s k = (n.length : Int) ∧ s = n ++ k :: v
  | [] => rfl
  | c :: r => by
    have ih := index_cut k r
    simp only [Lib.indexByte, cutAt]
    by_cases h : c = k
    · subst h; simp
    · rw [if_neg h]
      cases hr : cutAt k r with
      | none =>
        rw [hr] at ih
        simp only at ih
        simp [h, ih]
      | some p =>
        obtain ⟨n, v⟩ := p
        rw [hr] at ih
        obtain ⟨h1, h2⟩ := ih
        simp only [Option.map_some]
        rw [h1, if_neg (by simpa using h)]
        refine ⟨?_, by simp [h2]⟩
        rw [if_neg (by simp <;> omega)]
        simp

set_option maxHeartbeats 1000000 in
theorem cutL1_any (c : UInt8) (s : ByteArray) (w : World) (hs : s.size ≤ 281474976710656) :
    Calls Tryd.prog 50 #[.string s, .string ⟨#[c]⟩] w fun e w' => e = .returned (match cutAt c s.data.toList with | none => .tuple #[.string s, .string ⟨#[]⟩, .bool false] | some (n, v) => .tuple #[.string (bts n), .string (bts v), .bool true]) ∧ ∃ q, w' = w.drewN q := by
  have hsl := sizeL s
  have HI := hide (Tryd.stringslite_Index_one s c w)
  have hix := index_cut c s.data.toList
  cases hc : cutAt c s.data.toList with
  | none =>
    rw [hc] at hix
    simp only at hix ⊢
    rw [hix] at HI
    clear hix hc hsl
    go_enter Tryd.func50, Tryd.ntmps50
    go_wp2_with fail
    refine (unhide HI).mono ?_
    rintro e w1 ⟨rfl, rfl⟩
    go_wp2
    go_ret3
    exact ⟨rfl, 0, rfl⟩
  | some p =>
    obtain ⟨n, v⟩ := p
    rw [hc] at hix
    obtain ⟨h1, h2⟩ := hix
    simp only
    rw [h1] at HI
    have hl : n.length + 1 + v.length = s.size := by rw [← hsl, h2]; simp; omega
    obtain ⟨i, hi⟩ : ∃ i, n.length = i := ⟨_, rfl⟩
    rw [hi] at HI
    have e1 : bts n = s.extract 0 i := by
      apply ext_list
      rw [toList_bts, toList_upto, h2, ← hi]
      simp
    obtain ⟨i1, hi1⟩ : ∃ i1, i + 1 = i1 := ⟨_, rfl⟩
    have e2 : bts v = s.extract i1 s.size := by
      apply ext_list
      rw [toList_bts, toList_from, h2, ← hi1, ← hi]
      simp
    have h0 : (0 : Int) ≤ (i : Int) := by omega
    have h3 : (i : Int) ≤ (s.size : Int) := by omega
    have h4 : (i1 : Int) ≤ (s.size : Int) := by omega
    have v1 : IntKind.i64.wrap ((i : Int) + 1) = (i1 : Int) := by rw [IntKind.wrap_i64]; omega
    rw [e1, e2]
    clear hc hsl h1 h2 e1 e2 hl hi hi1
    go_enter Tryd.func50, Tryd.ntmps50
    go_wp2_with fail
    refine (unhide HI).mono ?_
    rintro e w1 ⟨rfl, rfl⟩
    go_wp2
    go_quiet (fail)
    go_wp2
    go_ret3
    exact ⟨rfl, _, rfl⟩

set_option maxHeartbeats 1000000 in
theorem cut1_any (c : UInt8) (s : ByteArray) (w : World) (hs : s.size ≤ 281474976710656) :
    Calls Tryd.prog 26 #[.string s, .string ⟨#[c]⟩] w fun e w' => e = .returned (match cutAt c s.data.toList with | none => .tuple #[.string s, .string ⟨#[]⟩, .bool false] | some (n, v) => .tuple #[.string (bts n), .string (bts v), .bool true]) ∧ ∃ q, w' = w.drewN q := by
  have HI := hide (cutL1_any c s w hs)
  cases hc : cutAt c s.data.toList with
  | none =>
    rw [hc] at HI
    simp only at HI ⊢
    clear hc
    go_enter Tryd.func26, Tryd.ntmps26
    go_wp2_with fail
    refine (unhide HI).mono ?_
    rintro e w1 ⟨rfl, q, rfl⟩
    go_wp2
    go_ret3
    exact ⟨rfl, q, rfl⟩
  | some p =>
    obtain ⟨n, v⟩ := p
    rw [hc] at HI
    simp only at HI ⊢
    clear hc
    go_enter Tryd.func26, Tryd.ntmps26
    go_wp2_with fail
    refine (unhide HI).mono ?_
    rintro e w1 ⟨rfl, q, rfl⟩
    go_wp2
    go_ret3
    exact ⟨rfl, q, rfl⟩

/-- A blank. -/
def blB (c : UInt8) : Bool := ([32, 9] : List UInt8).contains c
/-- How many bytes a word has. -/
def wordN (l : List UInt8) : Nat := if Lib.indexAny l [32, 9] < 0 then l.length else (Lib.indexAny l [32, 9]).toNat
/-- A word between blanks, and what is behind it. -/
def wordR (l : List UInt8) : List UInt8 × List UInt8 := ((l.dropWhile blB).take (wordN (l.dropWhile blB)), (l.dropWhile blB).drop (wordN (l.dropWhile blB)))
theorem dropB_len (l : List UInt8) : (l.dropWhile blB).length ≤ l.length := (List.dropWhile_sublist (p := blB) (l := l)).length_le
theorem wordR_len (l : List UInt8) : (wordR l).1.length ≤ l.length ∧ (wordR l).2.length ≤ l.length := by
  have := dropB_len l
  simp only [wordR, List.length_take, List.length_drop]
  omega

/-- What strings.IndexAny tells of blanks in a text. -/
def IxAny (l : List UInt8) : Prop := ∀ W, Calls Tryd.prog 52 #[.string (bts l), .string ⟨#[32, 9]⟩] W fun e w' => e = .returned (.int .i64 (Lib.indexAny l [32, 9])) ∧ Below W.heap.size W w'
theorem ixAny_ascii (l : List UInt8) (h : ∀ c ∈ l, c.toNat < 128) (hl : l.length ≤ 4294967280) : IxAny l := by
  intro W
  have := Tryd.strings_IndexAny_laid (bts l) ⟨#[32, 9]⟩ W (by rw [size_bts]; omega) (by decide) (by rw [toList_bts]; intro j b hb; exact h b (List.mem_of_getElem? hb)) (ascii_of_all (by decide))
  rw [toList_bts] at this
  exact this

theorem trimLeft_any (l : List UInt8) (w : World) :
    Calls Tryd.prog 51 #[.string (bts l), .string ⟨#[32, 9]⟩] w fun e w' => e = .returned (.string (bts (l.dropWhile blB))) ∧ Below w.heap.size w w' := by
  have h := Any.strings_TrimLeft_laid Tryd.lays161 (by kernel_rfl) (bts l) ⟨#[32, 9]⟩ w (by decide) (ascii_of_all (by decide))
  rw [toList_bts] at h
  exact h

theorem Mom.below {w w' : World} {b : Nat} {d s z : Int} {l : ByteArray} (h : Mom w b d s z l) (hb : Below w.heap.size w w') : Mom w' b d s z l := Blk.below h hb

theorem wordN_le (l : List UInt8) : wordN l ≤ l.length := by
  unfold wordN
  split
  · omega
  · have : ∀ l : List UInt8, Lib.indexAny l [32, 9] ≤ l.length := by
      intro l
      induction l with
      | nil => simp [Lib.indexAny]
      | cons c r ih =>
        simp only [Lib.indexAny, List.length_cons]
        split
        · omega
        · split <;> omega
    have := this l
    omega

set_option maxHeartbeats 1000000 in
theorem takeWord_any (b : Nat) (d s z : Int) (l : List UInt8) (w : World) (hM : Mom w b d s z (bts l)) (hl : l.length ≤ 281474976710656) (hx : IxAny (l.dropWhile blB)) :
    Calls Tryd.prog 28 #[.pointer (some ⟨b, 0, none⟩)] w fun e w' => e = .returned (.string (bts (wordR l).1)) ∧ Mom w' b d s z (bts (wordR l).2) ∧ Below b w w' := by
  have hdl := dropB_len l
  have hblt : b < w.heap.size := Blk.lt hM
  have c3 : w.cell? ⟨b, 3, none⟩ = some (.string (bts l)) := (Blk.cell hM 3).trans rfl
  have HT := hide (trimLeft_any l w)
  have HM := hide hM
  have HX := hide hx
  unfold wordR
  clear hM hx
  obtain ⟨L, hL⟩ : ∃ L, L = l.dropWhile blB := ⟨_, rfl⟩
  rw [← hL] at HT HX hdl ⊢
  clear hL
  go_enter Tryd.func28, Tryd.ntmps28
  go_wp2_with fail
  refine (unhide HT).mono ?_
  rintro e w1 ⟨rfl, hb1⟩
  have hM1 := (unhide HM).below hb1
  have f3 := Blk.frozen hM1 3
  have c3' : w1.cell? ⟨b, 3, none⟩ = some (.string (bts l)) := (Blk.cell hM1 3).trans rfl
  have HM2 := hide (hM1.left (bts L))
  have HB2 := hide (setB (hb1.mono (Nat.le_of_lt hblt)) 3 (.string (bts L)))
  clear HT HM c3 hb1 hM1
  have c4 := (Blk.cell (unhide HM2) 3).trans (rfl : _ = some (Value.string (bts L)))
  go_wp2_with fail
  generalize w1.setCell ⟨b, 3, none⟩ (.string (bts L)) = w2 at HM2 HB2 c4 ⊢
  clear c3' f3
  refine (unhide HX _).mono ?_
  rintro e w3 ⟨rfl, hb3⟩
  have HM3 := hide ((unhide HM2).below hb3)
  have HB3 := hide ((unhide HB2).trans (hb3.mono (Nat.le_of_lt (Blk.lt (unhide HM2)))))
  clear HM2 HB2 c4 hb3 HX
  have c5 : w3.cell? ⟨b, 3, none⟩ = some (.string (bts L)) := (Blk.cell (unhide HM3) 3).trans rfl
  have hsz : (bts L).size = L.length := size_bts L
  have HK := hide (take_any b d s z (bts L) (wordN L) w3 (unhide HM3) (by omega) (by have := wordN_le L; omega))
  rw [toList_bts] at HK
  have HM4 := hide ((unhide HM3).left (bts (L.drop (wordN L))))
  have HB4 := hide (setB (unhide HB3) 3 (.string (bts (L.drop (wordN L)))))
  by_cases hneg : Lib.indexAny L [32, 9] < 0
  · have hn : wordN L = L.length := by unfold wordN; rw [if_pos hneg]
    rw [hn, List.take_length, List.drop_length] at HK
    rw [hn, List.drop_length] at HM4 HB4
    have HN := hide hn
    clear hn
    generalize Lib.indexAny L [32, 9] = i at hneg ⊢
    go_wp2_with fail
    refine (unhide HK).mono ?_
    rintro e _ ⟨rfl, rfl⟩
    go_wp2
    go_ret
    exact ⟨by rw [unhide HN, List.take_length]; rfl, by rw [unhide HN, List.drop_length]; exact unhide HM4, unhide HB4⟩
  · have hn : Lib.indexAny L [32, 9] = (wordN L : Int) := by unfold wordN; rw [if_neg hneg]; omega
    rw [hn]
    have hneg' : ¬ (wordN L : Int) < 0 := by omega
    clear hn hneg
    obtain ⟨k, hk⟩ : ∃ k, wordN L = k := ⟨_, rfl⟩
    rw [hk] at HK HM4 HB4 hneg' ⊢
    have HN := hide hk
    clear hk
    go_wp2_with fail
    refine (unhide HK).mono ?_
    rintro e _ ⟨rfl, rfl⟩
    go_wp2
    go_ret
    exact ⟨by rw [unhide HN]; rfl, by rw [unhide HN]; exact unhide HM4, unhide HB4⟩

/-- A mail's year, with what it leaves out. -/
def fullR (y n : Nat) : Nat := if n = 2 ∧ y < 50 then y + 2000 else if n < 4 then y + 1900 else y

set_option maxHeartbeats 1000000 in
theorem fullYear_any (y n : Nat) (w : World) (hy : y ≤ 100000) (hn : n ≤ 100000) :
    Calls Tryd.prog 31 #[.int .i64 (y : Int), .int .i64 (n : Int)] w fun e w' => e = .returned (.int .i64 (fullR y n : Int)) ∧ w' = w := by
  unfold fullR
  by_cases h2 : n = 2
  · subst h2
    by_cases h50 : y < 50
    · rw [if_pos ⟨rfl, h50⟩]
      have h50' : (y : Int) < 50 := by omega
      go_enter Tryd.func31, Tryd.ntmps31
      go_wp2
      go_ret
      exact ⟨ret_int (by omega), rfl⟩
    · rw [if_neg (fun h => h50 h.2), if_pos (by omega)]
      have h50' : ¬ (y : Int) < 50 := by omega
      go_enter Tryd.func31, Tryd.ntmps31
      go_wp2
      go_ret
      exact ⟨ret_int (by omega), rfl⟩
  · have h2' : ((n : Int) == 2) = false := by rw [beq_eq_false_iff_ne]; omega
    rw [if_neg (fun h => h2 h.1)]
    by_cases h4 : n < 4
    · rw [if_pos h4]
      have h4' : (n : Int) < 4 := by omega
      go_enter Tryd.func31, Tryd.ntmps31
      go_wp2
      go_ret
      exact ⟨ret_int (by omega), rfl⟩
    · rw [if_neg h4]
      have h4' : ¬ (n : Int) < 4 := by omega
      go_enter Tryd.func31, Tryd.ntmps31
      go_wp2
      go_ret
      exact ⟨rfl, rfl⟩

end Go.Proofs.YtoegfnonfmcnbaaDoor
