/-
  What strings.Cut at one byte, the moment's takeWord, date.fullYear and date.Mail do, over this seat's program.
-/
import Derived.Test.YtdallfakfhajdaaGreatDoorBnd6
import Derived.Shelf.Strings.SlTrimAscii
set_option linter.unusedVariables false
namespace Go.Proofs.YtdallfakfhajdaaGreatDoor
open Go.RowKit Go.Proofs.Dcl

/-- A blank. -/
def blB (c : UInt8) : Bool := ([32, 9] : List UInt8).contains c
/-- How many bytes a word has. -/
def wordN (l : List UInt8) : Nat := if Lib.indexAny l [32, 9] < 0 then l.length else (Lib.indexAny l [32, 9]).toNat
/-- A word between blanks, and what is behind it. -/
def wordR (l : List UInt8) : List UInt8 × List UInt8 := ((l.dropWhile blB).take (wordN (l.dropWhile blB)), (l.dropWhile blB).drop (wordN (l.dropWhile blB)))
theorem dropB_len (l : List UInt8) : (l.dropWhile blB).length ≤ l.length := (List.dropWhile_sublist (p := blB) (l := l)).length_le
theorem wordR_len (l : List UInt8) : (wordR l).1.length ≤ l.length ∧ (wordR l).2.length ≤ l.length := by
  have := dropB_len l
  simp only [wordR, List.length_take, List.length_drop]
  omega

/-- What strings.IndexAny tells of blanks in a text. -/
def IxAny (l : List UInt8) : Prop := ∀ W, Calls Tryz.prog 109 #[.string (bts l), .string ⟨#[32, 9]⟩] W fun e w' => e = .returned (.int .i64 (Lib.indexAny l [32, 9])) ∧ Below W.heap.size W w'
theorem ixAny_ascii (l : List UInt8) (h : ∀ c ∈ l, c.toNat < 128) (hl : l.length ≤ 4294967280) : IxAny l := by
  intro W
  have := Tryz.strings_IndexAny_laid (bts l) ⟨#[32, 9]⟩ W (by rw [size_bts]; omega) (by decide) (by rw [toList_bts]; intro j b hb; exact h b (List.mem_of_getElem? hb)) (ascii_of_all (by decide))
  rw [toList_bts] at this
  exact this

theorem trimLeft_any (l : List UInt8) (w : World) :
    Calls Tryz.prog 108 #[.string (bts l), .string ⟨#[32, 9]⟩] w fun e w' => e = .returned (.string (bts (l.dropWhile blB))) ∧ Below w.heap.size w w' := by
  have h := Any.strings_TrimLeft_laid Tryz.lays161 (by kernel_rfl) (bts l) ⟨#[32, 9]⟩ w (by decide) (ascii_of_all (by decide))
  rw [toList_bts] at h
  exact h

theorem Mom.below {w w' : World} {b : Nat} {d s z : Int} {l : ByteArray} (h : Mom w b d s z l) (hb : Below w.heap.size w w') : Mom w' b d s z l := Blk.below h hb

theorem wordN_le (l : List UInt8) : wordN l ≤ l.length := by
  unfold wordN
  split
  · omega
  · have : ∀ l : List UInt8, Lib.indexAny l [32, 9] ≤ l.length := by
      intro l
      induction l with
      | nil => simp [Lib.indexAny]
      | cons c r ih =>
        simp only [Lib.indexAny, List.length_cons]
        split
        · omega
        · split <;> omega
    have := this l
    omega

set_option maxHeartbeats 1000000 in
theorem takeWord_any (b : Nat) (d s z : Int) (l : List UInt8) (w : World) (hM : Mom w b d s z (bts l)) (hl : l.length ≤ 281474976710656) (hx : IxAny (l.dropWhile blB)) :
    Calls Tryz.prog 62 #[.pointer (some ⟨b, 0, none⟩)] w fun e w' => e = .returned (.string (bts (wordR l).1)) ∧ Mom w' b d s z (bts (wordR l).2) ∧ Below b w w' := by
  have hdl := dropB_len l
  have hblt : b < w.heap.size := Blk.lt hM
  have c3 : w.cell? ⟨b, 3, none⟩ = some (.string (bts l)) := (Blk.cell hM 3).trans rfl
  have HT := hide (trimLeft_any l w)
  have HM := hide hM
  have HX := hide hx
  unfold wordR
  clear hM hx
  obtain ⟨L, hL⟩ : ∃ L, L = l.dropWhile blB := ⟨_, rfl⟩
  rw [← hL] at HT HX hdl ⊢
  clear hL
  go_enter Tryz.func62, Tryz.ntmps62
  go_wp2_with fail
  refine (unhide HT).mono ?_
  rintro e w1 ⟨rfl, hb1⟩
  have hM1 := (unhide HM).below hb1
  have f3 := Blk.frozen hM1 3
  have c3' : w1.cell? ⟨b, 3, none⟩ = some (.string (bts l)) := (Blk.cell hM1 3).trans rfl
  have HM2 := hide (hM1.left (bts L))
  have HB2 := hide (setB (hb1.mono (Nat.le_of_lt hblt)) 3 (.string (bts L)))
  clear HT HM c3 hb1 hM1
  have c4 := (Blk.cell (unhide HM2) 3).trans (rfl : _ = some (Value.string (bts L)))
  go_wp2_with fail
  generalize w1.setCell ⟨b, 3, none⟩ (.string (bts L)) = w2 at HM2 HB2 c4 ⊢
  clear c3' f3
  refine (unhide HX _).mono ?_
  rintro e w3 ⟨rfl, hb3⟩
  have HM3 := hide ((unhide HM2).below hb3)
  have HB3 := hide ((unhide HB2).trans (hb3.mono (Nat.le_of_lt (Blk.lt (unhide HM2)))))
  clear HM2 HB2 c4 hb3 HX
  have c5 : w3.cell? ⟨b, 3, none⟩ = some (.string (bts L)) := (Blk.cell (unhide HM3) 3).trans rfl
  have hsz : (bts L).size = L.length := size_bts L
  have HK := hide (take_any b d s z (bts L) (wordN L) w3 (unhide HM3) (by omega) (by have := wordN_le L; omega))
  rw [toList_bts] at HK
  have HM4 := hide ((unhide HM3).left (bts (L.drop (wordN L))))
  have HB4 := hide (setB (unhide HB3) 3 (.string (bts (L.drop (wordN L)))))
  by_cases hneg : Lib.indexAny L [32, 9] < 0
  · have hn : wordN L = L.length := by unfold wordN; rw [if_pos hneg]
    rw [hn, List.take_length, List.drop_length] at HK
    rw [hn, List.drop_length] at HM4 HB4
    have HN := hide hn
    clear hn
    generalize Lib.indexAny L [32, 9] = i at hneg ⊢
    go_wp2_with fail
    refine (unhide HK).mono ?_
    rintro e _ ⟨rfl, rfl⟩
    go_wp2
    go_ret
    exact ⟨by rw [unhide HN, List.take_length]; rfl, by rw [unhide HN, List.drop_length]; exact unhide HM4, unhide HB4⟩
  · have hn : Lib.indexAny L [32, 9] = (wordN L : Int) := by unfold wordN; rw [if_neg hneg]; omega
    rw [hn]
    have hneg' : ¬ (wordN L : Int) < 0 := by omega
    clear hn hneg
    obtain ⟨k, hk⟩ : ∃ k, wordN L = k := ⟨_, rfl⟩
    rw [hk] at HK HM4 HB4 hneg' ⊢
    have HN := hide hk
    clear hk
    go_wp2_with fail
    refine (unhide HK).mono ?_
    rintro e _ ⟨rfl, rfl⟩
    go_wp2
    go_ret
    exact ⟨by rw [unhide HN]; rfl, by rw [unhide HN]; exact unhide HM4, unhide HB4⟩

/-- A mail's year, with what it leaves out. -/
def fullR (y n : Nat) : Nat := if n = 2 ∧ y < 50 then y + 2000 else if n < 4 then y + 1900 else y

set_option maxHeartbeats 1000000 in
theorem fullYear_any (y n : Nat) (w : World) (hy : y ≤ 100000) (hn : n ≤ 100000) :
    Calls Tryz.prog 65 #[.int .i64 (y : Int), .int .i64 (n : Int)] w fun e w' => e = .returned (.int .i64 (fullR y n : Int)) ∧ w' = w := by
  unfold fullR
  by_cases h2 : n = 2
  · subst h2
    by_cases h50 : y < 50
    · rw [if_pos ⟨rfl, h50⟩]
      have h50' : (y : Int) < 50 := by omega
      go_enter Tryz.func65, Tryz.ntmps65
      go_wp2
      go_ret
      exact ⟨ret_int (by omega), rfl⟩
    · rw [if_neg (fun h => h50 h.2), if_pos (by omega)]
      have h50' : ¬ (y : Int) < 50 := by omega
      go_enter Tryz.func65, Tryz.ntmps65
      go_wp2
      go_ret
      exact ⟨ret_int (by omega), rfl⟩
  · have h2' : ((n : Int) == 2) = false := by rw [beq_eq_false_iff_ne]; omega
    rw [if_neg (fun h => h2 h.1)]
    by_cases h4 : n < 4
    · rw [if_pos h4]
      have h4' : (n : Int) < 4 := by omega
      go_enter Tryz.func65, Tryz.ntmps65
      go_wp2
      go_ret
      exact ⟨ret_int (by omega), rfl⟩
    · rw [if_neg h4]
      have h4' : ¬ (n : Int) < 4 := by omega
      go_enter Tryz.func65, Tryz.ntmps65
      go_wp2
      go_ret
      exact ⟨rfl, rfl⟩

end Go.Proofs.YtdallfakfhajdaaGreatDoor

/-
  What date.Mail does, over this seat's program.
-/
set_option linter.unusedVariables false
namespace Go.Proofs.YtdallfakfhajdaaGreatDoor
open Go.RowKit Go.Proofs.Dcl

/-- What is behind the first comma, if there is one. -/
def commaR (l : List UInt8) : List UInt8 := match cutAt 44 l with
  | some p => p.2
  | none => l
def ml3 (d m : Nat) (w : List UInt8) : Option Int := match numR w 2 4 with
  | none => none
  | some y => if vldB (fullR y w.length) m d then some (num (fullR y w.length) m d) else none
def ml2 (d : Nat) (p : List UInt8 × List UInt8) : Option Int := if monR p.1 = 0 then none else ml3 d (monR p.1) (wordR p.2).1
def ml1 (p : List UInt8 × List UInt8) : Option Int := match numR p.1 1 2 with
  | none => none
  | some d => ml2 d (wordR p.2)
/-- The day of a mail's Date. -/
def mailR (l : List UInt8) : Option Int := ml1 (wordR (commaR l))

theorem comma_suffix (l : List UInt8) : commaR l <:+ l := by
  unfold commaR
  have := index_cut 44 l
  cases h : cutAt 44 l with
  | none => exact List.suffix_refl _
  | some p =>
    rw [h] at this
    obtain ⟨_, h2⟩ := this
    exact ⟨p.1 ++ [44], by rw [List.append_assoc]; exact h2.symm⟩
theorem word_suffix (l : List UInt8) : (wordR l).2 <:+ l := (List.drop_suffix _ _).trans (List.dropWhile_suffix _)

theorem numR_le {l : List UInt8} {a b n : Nat} (h : numR l a b = some n) : l.length ≤ b ∧ n < 10 ^ b := by
  unfold numR at h
  split at h
  · cases h
  · rename_i hlen
    have hl : l.length ≤ b := by omega
    have := numA_bound l 0 n h
    have h2 : (10 : Nat) ^ l.length ≤ 10 ^ b := Nat.pow_le_pow_right (by omega) hl
    exact ⟨hl, by omega⟩

/-- A mail's Date at work. -/
structure MT (w W : World) (l : List UInt8) : Prop where
  mom : Mom W w.heap.size 0 0 0 (bts l)
  bel : Below w.heap.size w W
  len : l.length ≤ 140737488355328
  ix : ∀ t, t <:+ l → IxAny t

theorem mWord {w W : World} {l : List UInt8} (h : MT w W l) :
    Calls Tryz.prog 62 #[.pointer (some ⟨w.heap.size, 0, none⟩)] W fun e w' => e = .returned (.string (bts (wordR l).1)) ∧ MT w w' (wordR l).2 := by
  refine (takeWord_any w.heap.size 0 0 0 l W h.mom (by have := h.len; omega) (h.ix _ (List.dropWhile_suffix _))).mono ?_
  rintro e w' ⟨rfl, h1, h2⟩
  exact ⟨rfl, h1, h.bel.trans h2, by have := wordR_len l; have := h.len; omega, fun t ht => h.ix t (ht.trans (word_suffix l))⟩

def JMl (w : World) (L : List UInt8) (a' : Act) (w' : World) : Prop :=
  ∃ u : Nat → Value, a' = { tmps := #[u 0, u 1, u 2, u 3, u 4, u 5, u 6, u 7, u 8, u 9, u 10, u 11, u 12, u 13, u 14, u 15, u 16, u 17, u 18, u 19, u 20, u 21, u 22, u 23, u 24, u 25, u 26, u 27, u 28, u 29, u 30, u 31, u 32, u 33, u 34, u 35, u 36, u 37, u 38, u 39, u 40, u 41, u 42, u 43, u 44, u 45, u 46, u 47, u 48, u 49, u 50, u 51, u 52, u 53, u 54, u 55, u 56, u 57, u 58, u 59, u 60], defers := [] } ∧ Hid (mailR L = none) ∧ Hid (Below w.heap.size w w')
theorem JMl.mk {w : World} {L : List UInt8} {a' : Act} {w' : World} (ha : a' = { tmps := #[a'.tmps.getD 0 undef, a'.tmps.getD 1 undef, a'.tmps.getD 2 undef, a'.tmps.getD 3 undef, a'.tmps.getD 4 undef, a'.tmps.getD 5 undef, a'.tmps.getD 6 undef, a'.tmps.getD 7 undef, a'.tmps.getD 8 undef, a'.tmps.getD 9 undef, a'.tmps.getD 10 undef, a'.tmps.getD 11 undef, a'.tmps.getD 12 undef, a'.tmps.getD 13 undef, a'.tmps.getD 14 undef, a'.tmps.getD 15 undef, a'.tmps.getD 16 undef, a'.tmps.getD 17 undef, a'.tmps.getD 18 undef, a'.tmps.getD 19 undef, a'.tmps.getD 20 undef, a'.tmps.getD 21 undef, a'.tmps.getD 22 undef, a'.tmps.getD 23 undef, a'.tmps.getD 24 undef, a'.tmps.getD 25 undef, a'.tmps.getD 26 undef, a'.tmps.getD 27 undef, a'.tmps.getD 28 undef, a'.tmps.getD 29 undef, a'.tmps.getD 30 undef, a'.tmps.getD 31 undef, a'.tmps.getD 32 undef, a'.tmps.getD 33 undef, a'.tmps.getD 34 undef, a'.tmps.getD 35 undef, a'.tmps.getD 36 undef, a'.tmps.getD 37 undef, a'.tmps.getD 38 undef, a'.tmps.getD 39 undef, a'.tmps.getD 40 undef, a'.tmps.getD 41 undef, a'.tmps.getD 42 undef, a'.tmps.getD 43 undef, a'.tmps.getD 44 undef, a'.tmps.getD 45 undef, a'.tmps.getD 46 undef, a'.tmps.getD 47 undef, a'.tmps.getD 48 undef, a'.tmps.getD 49 undef, a'.tmps.getD 50 undef, a'.tmps.getD 51 undef, a'.tmps.getD 52 undef, a'.tmps.getD 53 undef, a'.tmps.getD 54 undef, a'.tmps.getD 55 undef, a'.tmps.getD 56 undef, a'.tmps.getD 57 undef, a'.tmps.getD 58 undef, a'.tmps.getD 59 undef, a'.tmps.getD 60 undef], defers := [] }) (h : mailR L = none) (hp : Below w.heap.size w w') : JMl w L a' w' :=
  ⟨fun i => a'.tmps.getD i undef, ha, h, hp⟩

set_option maxHeartbeats 4000000 in
set_option maxRecDepth 100000 in
theorem mail_any (L : List UInt8) (w : World) (ht : LTab w) (hs : L.length ≤ 140737488355328) (hx : ∀ t, t <:+ L → IxAny t) :
    Calls Tryz.prog 25 #[.string (bts L)] w fun e w' => e = .returned (numV (mailR L) 7) ∧ Below w.heap.size w w' := by
  have hm0 := mom_new w (bts L)
  have hb0 : Below w.heap.size w (w.alloc (.cells #[.int .i64 0, .int .i64 0, .int .i64 0, .string (bts L)] 94)) := (Below.refl _ w).alloc (Nat.le_refl _) _
  have HC := hide (fun W => cut1_any 44 (bts L) W (by rw [size_bts]; omega))
  rw [toList_bts] at HC
  have HTB := hide ht
  have HM0 := hide hm0
  have HB0 := hide hb0
  have HIX := hide hx
  clear hm0 hb0 hx ht
  go_enter Tryz.func25, Tryz.ntmps25
  go_wp2_with fail
  refine wp_scope_out 0 (JMl w L) (by rfl) ?_ ?_
  · go_wp2_with fail
    refine (unhide HC _).mono ?_
    clear HC
    rintro e W ⟨rfl, q, rfl⟩
    have hcm := comma_suffix L
    have HX0 : Hid (mailR L = ml1 (wordR (commaR L))) := hide rfl
    unfold commaR at hcm HX0
    cases hc : cutAt 44 L with
    | none =>
      rw [hc] at hcm HX0
      simp only at hcm HX0
      have HP : Hid (MT w ((w.alloc (.cells #[.int .i64 0, .int .i64 0, .int .i64 0, .string (bts L)] 94)).drewN q) L) := hide ⟨unhide HM0, drewB (unhide HB0) q, hs, unhide HIX⟩
      clear HM0 HB0 HIX hc hcm
      generalize (w.alloc (.cells #[.int .i64 0, .int .i64 0, .int .i64 0, .string (bts L)] 94)).drewN q = W0 at HP ⊢
      obtain ⟨l0, hl0⟩ : ∃ l0, l0 = L := ⟨_, rfl⟩
      rw [← hl0] at HP
      rw [show wordR L = wordR l0 by rw [hl0]] at HX0
      clear hl0
      go_wp2_with fail
      refine (mWord (unhide HP)).mono ?_
      clear HP
      rintro e W1 ⟨rfl, hp⟩
      obtain ⟨x1, l1, hw1⟩ : ∃ x1 l1, wordR l0 = (x1, l1) := ⟨_, _, rfl⟩
      rw [hw1] at HX0 hp
      simp only [hw1]
      simp only at hp
      have HP := hide hp
      clear hp hw1
      have HN1 := hide (number_any (bts x1) 1 2 W1 (by omega) (by omega))
      rw [toList_bts] at HN1
      go_wp2_with fail
      refine (unhide HN1).mono ?_
      clear HN1
      rintro e W1 ⟨rfl, rfl⟩
      cases hn : numR x1 1 2 with
      | none =>
        simp only [optV]
        have HN : Hid (mailR L = none) := hide (by rw [unhide HX0]; unfold ml1; simp only [hn])
        have HF := hide (unhide HP).bel
        clear HP
        go_wp2
        refine wp_goto ?_
        exact ⟨rfl, JMl.mk rfl (unhide HN) (unhide HF)⟩
      | some d =>
        simp only [optV]
        have HX1 : Hid (mailR L = ml2 d (wordR l1)) := hide (by rw [unhide HX0]; unfold ml1; simp only [hn])
        clear hn HX0
        have hl1 := (unhide HP).len
        go_wp2_with fail
        refine (mWord (unhide HP)).mono ?_
        clear HP
        rintro e W2 ⟨rfl, hp⟩
        obtain ⟨x2, l2, hw2⟩ : ∃ x2 l2, wordR l1 = (x2, l2) := ⟨_, _, rfl⟩
        have hxl : x2.length ≤ l1.length := by have := (wordR_len l1).1; rw [hw2] at this; exact this
        rw [hw2] at HX1 hp
        simp only [hw2]
        simp only at hp
        have HL2 := hide hp.len
        have HP := hide hp
        clear hp hw2
        have HN1 := hide (monthOf_any (bts x2) W2 (by rw [size_bts]; omega))
        rw [toList_bts] at HN1
        go_wp2_with fail
        refine (unhide HN1).mono ?_
        clear HN1
        rintro e _ ⟨rfl, q2, rfl⟩
        have HP2 : Hid (MT w (W2.drewN q2) l2) := hide ⟨(unhide HP).mom.drew q2, drewB (unhide HP).bel q2, (unhide HP).len, (unhide HP).ix⟩
        clear HP
        have HP := HP2
        clear HP2
        generalize W2.drewN q2 = W3 at HP ⊢
        have hmle := monR_le x2
        have HX2 : Hid (mailR L = if monR x2 = 0 then none else ml3 d (monR x2) (wordR l2).1) := HX1
        clear HX1 hxl hl1
        generalize monR x2 = m at HX2 hmle ⊢
        by_cases hm0 : m = 0
        · subst hm0
          simp only [monV, if_true]
          have HN : Hid (mailR L = none) := hide (by rw [unhide HX2, if_pos rfl])
          have HF := hide (unhide HP).bel
          clear HP
          go_wp2
          refine wp_goto ?_
          exact ⟨rfl, JMl.mk rfl (unhide HN) (unhide HF)⟩
        rw [if_neg hm0] at HX2
        rw [show monV m = .tuple #[.int .i64 (m : Int), .bool true] by simp [monV, hm0]]
        go_wp2_with fail
        refine (mWord (unhide HP)).mono ?_
        clear HP
        rintro e W4 ⟨rfl, hp⟩
        obtain ⟨x3, l3, hw3⟩ : ∃ x3 l3, wordR l2 = (x3, l3) := ⟨_, _, rfl⟩
        rw [hw3] at HX2 hp
        simp only [hw3]
        simp only at hp
        have HP := hide hp
        clear hp hw3
        have HN1 := hide (number_any (bts x3) 2 4 W4 (by omega) (by omega))
        rw [toList_bts] at HN1
        go_wp2_with fail
        refine (unhide HN1).mono ?_
        clear HN1
        rintro e W4 ⟨rfl, rfl⟩
        cases hn : numR x3 2 4 with
        | none =>
          simp only [optV]
          have HN : Hid (mailR L = none) := hide (by rw [unhide HX2]; unfold ml3; simp only [hn])
          have HF := hide (unhide HP).bel
          clear HP
          go_wp2
          refine wp_goto ?_
          exact ⟨rfl, JMl.mk rfl (unhide HN) (unhide HF)⟩
        | some y =>
          simp only [optV]
          obtain ⟨hl4, hy4⟩ := numR_le hn
          have HX3 : Hid (mailR L = if vldB (fullR y x3.length) m d then some (num (fullR y x3.length) m d) else none) := hide (by rw [unhide HX2]; unfold ml3; simp only [hn])
          clear hn HX2
          have hsz : (bts x3).size = x3.length := size_bts x3
          have HFY := hide (fun W => fullYear_any y x3.length W (by omega) (by omega))
          go_wp2_with fail
          refine (unhide HFY _).mono ?_
          clear HFY
          rintro e W4 ⟨rfl, rfl⟩
          generalize fullR y x3.length = Y at HX3 ⊢
          have HD := hide (day_any (Y : Int) (m : Int) (d : Int) _ ((unhide HTB).below (unhide HP).bel))
          go_wp2_with fail
          refine (unhide HD).mono ?_
          clear HD
          rintro e W4 ⟨rfl, rfl⟩
          cases hv : vldB (Y : Int) (m : Int) (d : Int)
          · rw [dayV_f hv]
            rw [hv] at HX3
            clear hv
            have HN : Hid (mailR L = none) := hide (by rw [unhide HX3]; rfl)
            have HF := hide (unhide HP).bel
            clear HP
            go_wp2
            refine wp_goto ?_
            exact ⟨rfl, JMl.mk rfl (unhide HN) (unhide HF)⟩
          · rw [dayV_t hv]
            rw [hv] at HX3
            clear hv
            have HN : Hid (mailR L = some (num Y m d)) := hide (by rw [unhide HX3]; rfl)
            have HF := hide (unhide HP).bel
            clear HP HX3
            go_wp2
            (try simp only [Exit.inBlock, Exit.then])
            (try simp only [Exit.jump])
            go_ret2
            exact ⟨by rw [unhide HN]; rfl, unhide HF⟩
    | some p =>
      obtain ⟨pn, l0⟩ := p
      rw [hc] at hcm HX0
      simp only at hcm HX0
      have f3 := Blk.frozen (unhide HM0) 3
      have c3 : (w.alloc (.cells #[.int .i64 0, .int .i64 0, .int .i64 0, .string (bts L)] 94)).cell? ⟨w.heap.size, 3, none⟩ = some (.string (bts L)) := (Blk.cell (unhide HM0) 3).trans rfl
      have HP : Hid (MT w (((w.alloc (.cells #[.int .i64 0, .int .i64 0, .int .i64 0, .string (bts L)] 94)).drewN q).setCell ⟨w.heap.size, 3, none⟩ (.string (bts l0))) l0) := hide ⟨((unhide HM0).drew q).left _, setB (drewB (unhide HB0) q) 3 _, by have := hcm.length_le; omega, fun t h => unhide HIX t (h.trans hcm)⟩
      clear HM0 HB0 HIX hc hcm
      go_wp2_with fail
      generalize ((w.alloc (.cells #[.int .i64 0, .int .i64 0, .int .i64 0, .string (bts L)] 94)).drewN q).setCell ⟨w.heap.size, 3, none⟩ (.string (bts l0)) = W0 at HP ⊢
      clear f3 c3
      refine (mWord (unhide HP)).mono ?_
      clear HP
      rintro e W1 ⟨rfl, hp⟩
      obtain ⟨x1, l1, hw1⟩ : ∃ x1 l1, wordR l0 = (x1, l1) := ⟨_, _, rfl⟩
      rw [hw1] at HX0 hp
      simp only [hw1]
      simp only at hp
      have HP := hide hp
      clear hp hw1
      have HN1 := hide (number_any (bts x1) 1 2 W1 (by omega) (by omega))
      rw [toList_bts] at HN1
      go_wp2_with fail
      refine (unhide HN1).mono ?_
      clear HN1
      rintro e W1 ⟨rfl, rfl⟩
      cases hn : numR x1 1 2 with
      | none =>
        simp only [optV]
        have HN : Hid (mailR L = none) := hide (by rw [unhide HX0]; unfold ml1; simp only [hn])
        have HF := hide (unhide HP).bel
        clear HP
        go_wp2
        refine wp_goto ?_
        exact ⟨rfl, JMl.mk rfl (unhide HN) (unhide HF)⟩
      | some d =>
        simp only [optV]
        have HX1 : Hid (mailR L = ml2 d (wordR l1)) := hide (by rw [unhide HX0]; unfold ml1; simp only [hn])
        clear hn HX0
        have hl1 := (unhide HP).len
        go_wp2_with fail
        refine (mWord (unhide HP)).mono ?_
        clear HP
        rintro e W2 ⟨rfl, hp⟩
        obtain ⟨x2, l2, hw2⟩ : ∃ x2 l2, wordR l1 = (x2, l2) := ⟨_, _, rfl⟩
        have hxl : x2.length ≤ l1.length := by have := (wordR_len l1).1; rw [hw2] at this; exact this
        rw [hw2] at HX1 hp
        simp only [hw2]
        simp only at hp
        have HL2 := hide hp.len
        have HP := hide hp
        clear hp hw2
        have HN1 := hide (monthOf_any (bts x2) W2 (by rw [size_bts]; omega))
        rw [toList_bts] at HN1
        go_wp2_with fail
        refine (unhide HN1).mono ?_
        clear HN1
        rintro e _ ⟨rfl, q2, rfl⟩
        have HP2 : Hid (MT w (W2.drewN q2) l2) := hide ⟨(unhide HP).mom.drew q2, drewB (unhide HP).bel q2, (unhide HP).len, (unhide HP).ix⟩
        clear HP
        have HP := HP2
        clear HP2
        generalize W2.drewN q2 = W3 at HP ⊢
        have hmle := monR_le x2
        have HX2 : Hid (mailR L = if monR x2 = 0 then none else ml3 d (monR x2) (wordR l2).1) := HX1
        clear HX1 hxl hl1
        generalize monR x2 = m at HX2 hmle ⊢
        by_cases hm0 : m = 0
        · subst hm0
          simp only [monV, if_true]
          have HN : Hid (mailR L = none) := hide (by rw [unhide HX2, if_pos rfl])
          have HF := hide (unhide HP).bel
          clear HP
          go_wp2
          refine wp_goto ?_
          exact ⟨rfl, JMl.mk rfl (unhide HN) (unhide HF)⟩
        rw [if_neg hm0] at HX2
        rw [show monV m = .tuple #[.int .i64 (m : Int), .bool true] by simp [monV, hm0]]
        go_wp2_with fail
        refine (mWord (unhide HP)).mono ?_
        clear HP
        rintro e W4 ⟨rfl, hp⟩
        obtain ⟨x3, l3, hw3⟩ : ∃ x3 l3, wordR l2 = (x3, l3) := ⟨_, _, rfl⟩
        rw [hw3] at HX2 hp
        simp only [hw3]
        simp only at hp
        have HP := hide hp
        clear hp hw3
        have HN1 := hide (number_any (bts x3) 2 4 W4 (by omega) (by omega))
        rw [toList_bts] at HN1
        go_wp2_with fail
        refine (unhide HN1).mono ?_
        clear HN1
        rintro e W4 ⟨rfl, rfl⟩
        cases hn : numR x3 2 4 with
        | none =>
          simp only [optV]
          have HN : Hid (mailR L = none) := hide (by rw [unhide HX2]; unfold ml3; simp only [hn])
          have HF := hide (unhide HP).bel
          clear HP
          go_wp2
          refine wp_goto ?_
          exact ⟨rfl, JMl.mk rfl (unhide HN) (unhide HF)⟩
        | some y =>
          simp only [optV]
          obtain ⟨hl4, hy4⟩ := numR_le hn
          have HX3 : Hid (mailR L = if vldB (fullR y x3.length) m d then some (num (fullR y x3.length) m d) else none) := hide (by rw [unhide HX2]; unfold ml3; simp only [hn])
          clear hn HX2
          have hsz : (bts x3).size = x3.length := size_bts x3
          have HFY := hide (fun W => fullYear_any y x3.length W (by omega) (by omega))
          go_wp2_with fail
          refine (unhide HFY _).mono ?_
          clear HFY
          rintro e W4 ⟨rfl, rfl⟩
          generalize fullR y x3.length = Y at HX3 ⊢
          have HD := hide (day_any (Y : Int) (m : Int) (d : Int) _ ((unhide HTB).below (unhide HP).bel))
          go_wp2_with fail
          refine (unhide HD).mono ?_
          clear HD
          rintro e W4 ⟨rfl, rfl⟩
          cases hv : vldB (Y : Int) (m : Int) (d : Int)
          · rw [dayV_f hv]
            rw [hv] at HX3
            clear hv
            have HN : Hid (mailR L = none) := hide (by rw [unhide HX3]; rfl)
            have HF := hide (unhide HP).bel
            clear HP
            go_wp2
            refine wp_goto ?_
            exact ⟨rfl, JMl.mk rfl (unhide HN) (unhide HF)⟩
          · rw [dayV_t hv]
            rw [hv] at HX3
            clear hv
            have HN : Hid (mailR L = some (num Y m d)) := hide (by rw [unhide HX3]; rfl)
            have HF := hide (unhide HP).bel
            clear HP HX3
            go_wp2
            (try simp only [Exit.inBlock, Exit.then])
            (try simp only [Exit.jump])
            go_ret2
            exact ⟨by rw [unhide HN]; rfl, unhide HF⟩
  · rintro a' w' ⟨u, rfl, HN, HB⟩
    go_wp2
    (try simp only [Exit.inBlock, Exit.then])
    (try simp only [Exit.jump])
    go_ret2
    exact ⟨by rw [unhide HN]; rfl, unhide HB⟩

end Go.Proofs.YtdallfakfhajdaaGreatDoor

/-
  A day that is written, with spaces for its dashes, as a mail's Date: plain mathematics, and what IndexAny tells of its pieces.
-/
set_option linter.unusedVariables false
namespace Go.Proofs.YtdallfakfhajdaaGreatDoor
open Go.RowKit Go.Proofs.Dcl

theorem dg_dig (n : Nat) (h : n < 10) : digB (dg n) = true := by unfold digB; rw [dg_nat n h]; simp; omega
theorem numA_dg (n acc : Nat) (r : List UInt8) (h : n < 10) : numA acc (dg n :: r) = numA (acc * 10 + n) r := by
  conv => lhs; unfold numA
  rw [dg_dig n h, dg_nat n h]
  simp only [if_true]
  rw [show 48 + n - 48 = n by omega]
theorem num_two (n : Nat) (h : n < 100) : numR (twoL n) 2 2 = some n := by
  unfold numR twoL
  rw [if_neg (by simp), numA_dg _ _ _ (by omega), numA_dg _ _ _ (by omega)]
  simp [numA]; omega
theorem num_four (y : Nat) (h : y < 10000) : numR (twoL (y / 100) ++ twoL (y % 100)) 4 4 = some y := by
  unfold numR twoL
  rw [if_neg (by simp)]
  simp only [List.cons_append, List.nil_append]
  rw [numA_dg _ _ _ (by omega), numA_dg _ _ _ (by omega), numA_dg _ _ _ (by omega), numA_dg _ _ _ (by omega)]
  simp [numA]; omega
theorem num_four' (y : Nat) (h : y < 10000) : numR (twoL (y / 100) ++ twoL (y % 100)) 2 4 = some y := by
  have := num_four y h
  unfold numR at *
  rw [if_neg (by simp [twoL])] at this ⊢
  exact this
theorem mon_name (k : Nat) (h : k < 12) : monR (nmL k) = k + 1 := by
  have : k = 0 ∨ k = 1 ∨ k = 2 ∨ k = 3 ∨ k = 4 ∨ k = 5 ∨ k = 6 ∨ k = 7 ∨ k = 8 ∨ k = 9 ∨ k = 10 ∨ k = 11 := by omega
  rcases this with rfl | rfl | rfl | rfl | rfl | rfl | rfl | rfl | rfl | rfl | rfl | rfl <;> decide +kernel
theorem num_one (d : Nat) (h : d < 10) : numR [dg d] 1 1 = some d := by
  unfold numR
  rw [if_neg (by simp), numA_dg _ _ _ h]
  simp [numA]
theorem dg_ne (n : Nat) (c : UInt8) (h : n < 10) (hc : c.toNat < 48 ∨ 57 < c.toNat) : dg n ≠ c := by
  intro e
  have := dg_nat n h
  rw [e] at this
  omega
def dsh (c : UInt8) : UInt8 := if c = 45 then 32 else c
theorem index_word (ds r : List UInt8) (h : ∀ c ∈ ds, blB c = false) : Lib.indexAny (ds ++ 32 :: r) [32, 9] = ds.length := by
  induction ds with
  | nil => simp [Lib.indexAny]
  | cons c t ih =>
    have hc := h c (by simp)
    have ht := ih (fun x hx => h x (by simp [hx]))
    simp only [List.cons_append, Lib.indexAny]
    unfold blB at hc
    rw [hc, ht]
    simp only [Bool.false_eq_true, if_false, List.length_cons]
    rw [if_neg (by simp <;> omega)]
    omega
theorem word_of (ds r : List UInt8) (h : ∀ c ∈ ds, blB c = false) (h0 : ds ≠ []) : wordR (32 :: (ds ++ 32 :: r)) = (ds, 32 :: r) := by
  have hdw : (32 :: (ds ++ 32 :: r)).dropWhile blB = ds ++ 32 :: r := by
    rw [List.dropWhile_cons_of_pos (by decide)]
    cases ds with
    | nil => exact absurd rfl h0
    | cons c t => rw [List.cons_append, List.dropWhile_cons_of_neg (by rw [h c (by simp)]; simp)]
  unfold wordR
  rw [hdw]
  have hn : wordN (ds ++ 32 :: r) = ds.length := by
    unfold wordN
    rw [index_word ds r h, if_neg (by omega)]
    omega
  rw [hn, List.take_left', List.drop_left']
  · rfl
  · rfl
theorem dg_bl (n : Nat) (h : n < 10) : blB (dg n) = false := by
  have h1 := dg_ne n 32 h (by decide)
  have h2 := dg_ne n 9 h (by decide)
  unfold blB
  simp [h1, h2]
theorem dsh_dg (n : Nat) (h : n < 10) : dsh (dg n) = dg n := by unfold dsh; rw [if_neg (dg_ne n 45 h (by decide))]
theorem dsh_two (n : Nat) (h : n < 100) : (twoL n).map dsh = twoL n := by simp [twoL, dsh_dg (n / 10) (by omega), dsh_dg (n % 10) (by omega)]
theorem two_bl (n : Nat) (h : n < 100) : ∀ c ∈ twoL n, blB c = false := by
  intro c hc
  simp only [twoL, List.mem_cons, List.not_mem_nil, or_false] at hc
  rcases hc with rfl | rfl
  · exact dg_bl _ (by omega)
  · exact dg_bl _ (by omega)
theorem name_map (k : Nat) (h : k < 12) : (nmL k).map dsh = nmL k ∧ (∀ c ∈ nmL k, blB c = false) ∧ ∀ c ∈ nmL k, c.toNat < 128 := by
  have : k = 0 ∨ k = 1 ∨ k = 2 ∨ k = 3 ∨ k = 4 ∨ k = 5 ∨ k = 6 ∨ k = 7 ∨ k = 8 ∨ k = 9 ∨ k = 10 ∨ k = 11 := by omega
  rcases this with rfl | rfl | rfl | rfl | rfl | rfl | rfl | rfl | rfl | rfl | rfl | rfl <;> decide +kernel
theorem day_map (y m d : Nat) (hv : vldB y m d = true) : (dayT y m d).map dsh = (if 10 ≤ d then twoL d else [dg d]) ++ 32 :: (nmL (m - 1) ++ 32 :: (twoL (y / 100) ++ twoL (y % 100))) := by
  obtain ⟨y1, y2, m1, m2, d1, d2⟩ := vld_iff.1 hv
  have d3 := dim_le y m
  unfold dayT
  simp only [List.map_append, (name_map (m - 1) (by omega)).1, dsh_two (y / 100) (by omega), dsh_two (y % 100) (by omega), List.map_cons, List.map_nil]
  rw [dsh_dg (d % 10) (by omega), show dsh 45 = 32 from rfl]
  by_cases h : 10 ≤ d
  · rw [if_pos h, if_pos h]
    simp only [List.map_cons, List.map_nil, dsh_dg (d / 10) (by omega : d / 10 < 10)]
    simp [twoL]
  · rw [if_neg h, if_neg h, show d % 10 = d by omega]
    simp
theorem index_end (ds : List UInt8) (h : ∀ c ∈ ds, blB c = false) : Lib.indexAny ds [32, 9] = -1 := by
  induction ds with
  | nil => rfl
  | cons c t ih =>
    have hc := h c (by simp)
    have ht := ih (fun x hx => h x (by simp [hx]))
    simp only [Lib.indexAny]
    unfold blB at hc
    rw [hc, ht]
    simp
theorem word_end (ds : List UInt8) (h : ∀ c ∈ ds, blB c = false) (h0 : ds ≠ []) : wordR (32 :: ds) = (ds, []) := by
  have hdw : (32 :: ds).dropWhile blB = ds := by
    rw [List.dropWhile_cons_of_pos (by decide)]
    cases ds with
    | nil => exact absurd rfl h0
    | cons c t => rw [List.dropWhile_cons_of_neg (by rw [h c (by simp)]; simp)]
  unfold wordR
  rw [hdw]
  have hn : wordN ds = ds.length := by
    unfold wordN
    rw [index_end ds h, if_pos (by omega)]
  rw [hn, List.take_length, List.drop_length]
/-- A day that is written, as a mail's Date. -/
theorem mail_day2 (y m d : Nat) (hv : vldB y m d = true) : mailR ([120, 44, 32] ++ (dayT y m d).map dsh) = some (num y m d) := by
  obtain ⟨y1, y2, m1, m2, d1, d2⟩ := vld_iff.1 hv
  have d3 := dim_le y m
  have hm : m - 1 < 12 := by omega
  obtain ⟨_, hnb, _⟩ := name_map (m - 1) hm
  have hmon := mon_name (m - 1) hm
  rw [show m - 1 + 1 = m by omega] at hmon
  have hc : commaR ([120, 44, 32] ++ (dayT y m d).map dsh) = 32 :: ((if 10 ≤ d then twoL d else [dg d]) ++ 32 :: (nmL (m - 1) ++ 32 :: (twoL (y / 100) ++ twoL (y % 100)))) := by
    rw [day_map y m d hv]
    unfold commaR
    simp [cutAt]
  have hnum : numR (if 10 ≤ d then twoL d else [dg d]) 1 2 = some d := by
    by_cases h : 10 ≤ d
    · rw [if_pos h]
      have := num_two d (by omega)
      unfold numR at *
      rw [if_neg (by simp [twoL])] at this ⊢
      exact this
    · rw [if_neg h]
      have := num_one d (by omega)
      unfold numR at *
      rw [if_neg (by simp)] at this ⊢
      exact this
  have hdb : ∀ c ∈ (if 10 ≤ d then twoL d else [dg d]), blB c = false := by
    by_cases h : 10 ≤ d
    · rw [if_pos h]; exact two_bl d (by omega)
    · rw [if_neg h]
      intro c hc
      simp only [List.mem_cons, List.not_mem_nil, or_false] at hc
      subst hc
      exact dg_bl d (by omega)
  have hd0 : (if 10 ≤ d then twoL d else [dg d]) ≠ [] := by split <;> simp [twoL]
  have hn0 : nmL (m - 1) ≠ [] := by
    intro e
    have := nmL_len (m - 1) hm
    rw [e] at this
    cases this
  have hyb : ∀ c ∈ twoL (y / 100) ++ twoL (y % 100), blB c = false := by
    intro c hc
    rcases List.mem_append.1 hc with h | h
    · exact two_bl _ (by omega) c h
    · exact two_bl _ (by omega) c h
  have hfull : fullR y (twoL (y / 100) ++ twoL (y % 100)).length = y := by simp [fullR, twoL]
  unfold mailR
  rw [hc, word_of _ _ hdb hd0]
  unfold ml1
  simp only [hnum]
  rw [word_of _ _ hnb hn0]
  unfold ml2
  simp only [hmon]
  rw [if_neg (by omega), word_end _ hyb (by simp [twoL])]
  unfold ml3
  simp only [num_four' y (by omega), hfull, hv, if_true]

/-- All of it is ASCII. -/
theorem day_ascii2 (y m d : Nat) (hv : vldB y m d = true) : ([120, 44, 32] ++ (dayT y m d).map dsh).all (fun b => decide (b.toNat < 128)) = true := by
  obtain ⟨y1, y2, m1, m2, d1, d2⟩ := vld_iff.1 hv
  have d3 := dim_le y m
  rw [day_map y m d hv, List.all_eq_true]
  have hdg : ∀ n, n < 10 → (dg n).toNat < 128 := fun n h => by rw [dg_nat n h]; omega
  have htw : ∀ n, n < 100 → ∀ c ∈ twoL n, c.toNat < 128 := by
    intro n hn c hc
    simp only [twoL, List.mem_cons, List.not_mem_nil, or_false] at hc
    rcases hc with rfl | rfl
    · exact hdg _ (by omega)
    · exact hdg _ (by omega)
  have hnm := (name_map (m - 1) (by omega)).2.2
  intro c hc
  rw [decide_eq_true_eq]
  simp only [List.mem_append, List.mem_cons, List.not_mem_nil, or_false] at hc
  rcases hc with (rfl | rfl | rfl) | h | rfl | h | rfl | h | h <;> first | decide | skip
  · split at h
    · exact htw d (by omega) c h
    · simp only [List.mem_cons, List.not_mem_nil, or_false] at h
      subst h; exact hdg d (by omega)
  · exact hnm c h
  · exact htw _ (by omega) c h
  · exact htw _ (by omega) c h

theorem dayT_len (y m d : Nat) (h1 : 1 ≤ m) (h2 : m ≤ 12) : (dayT y m d).length = if 10 ≤ d then 11 else 10 := by
  have := nmL_len (m - 1) (by omega)
  unfold dayT
  split <;> simp [this, twoL]
theorem ix_all2 (l : List UInt8) (h : l.all (fun b => decide (b.toNat < 128)) = true) (hl : l.length ≤ 4294967280) : ∀ t, t <:+ l → IxAny t := fun t ht =>
  ixAny_ascii t (fun c hc => of_decide_eq_true (List.all_eq_true.1 h c (ht.subset hc))) (by have := ht.length_le; omega)
end Go.Proofs.YtdallfakfhajdaaGreatDoor
