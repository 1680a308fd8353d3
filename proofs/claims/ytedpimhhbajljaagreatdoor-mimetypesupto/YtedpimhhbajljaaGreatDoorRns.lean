/-
  Letters as numbers, in plain mathematics: their bytes in UTF-8, the letters that bytes are, the charsets whose letters have one byte; there and back.
-/
import Derived.Lib.DecodeN
import Derived.Lib.RuneBytes
namespace Go.Proofs.Rns
open Go.Lib (decodeN encodeRune encodeRuneZ)

/-- Whether a number is a letter. -/
def isL (n : Int) : Bool := decide (0 ≤ n ∧ n ≤ 1114111 ∧ (n < 55296 ∨ 57343 < n))
/-- A letter, or Bad in its place. -/
def fix (n : Int) : Int := if isL n then n else 65533

/-- A byte of some, 0 behind them. -/
def bAt (l : List UInt8) (i : Nat) : Nat := (l.getD i 0).toNat
theorem bAt_lt (l : List UInt8) (i : Nat) : bAt l i < 256 := (l.getD i 0).toNat_lt

/-- The letter that bytes begin with, and how many bytes it has. -/
def nextL (l : List UInt8) : Nat × Nat := decodeN l.length (bAt l 0) (bAt l 1) (bAt l 2) (bAt l 3)

theorem decodeN_le (n b0 b1 b2 b3 : Nat) (h : 1 ≤ n) : 1 ≤ (decodeN n b0 b1 b2 b3).2 ∧ (decodeN n b0 b1 b2 b3).2 ≤ n := by
  unfold decodeN
  repeat' split
  all_goals simp only
  all_goals omega
theorem nextL_le {l : List UInt8} (h : l ≠ []) : 1 ≤ (nextL l).2 ∧ (nextL l).2 ≤ l.length :=
  decodeN_le _ _ _ _ _ (by cases l <;> simp_all)
theorem decodeN_is (n b0 b1 b2 b3 : Nat) : isL ((decodeN n b0 b1 b2 b3).1 : Int) = true := by
  unfold decodeN
  repeat' split
  all_goals (simp only [isL, decide_eq_true_eq]; omega)
theorem nextL_is (l : List UInt8) : isL ((nextL l).1 : Int) = true := decodeN_is _ _ _ _ _
theorem nextL_plain {c : UInt8} {r : List UInt8} (h : c.toNat < 128) : nextL (c :: r) = (c.toNat, 1) := by
  unfold nextL decodeN
  rw [if_pos (by simpa [bAt] using h)]
  rfl

/-- All letters; f bounds how many. -/
def lettersF : Nat → List UInt8 → List Nat
  | 0, _ => []
  | _ + 1, [] => []
  | f + 1, c :: r => (nextL (c :: r)).1 :: lettersF f ((c :: r).drop (nextL (c :: r)).2)
/-- All letters that bytes are. -/
def lettersL (l : List UInt8) : List Nat := lettersF l.length l

theorem lettersF_enough : ∀ (f g : Nat) (l : List UInt8), l.length ≤ f → l.length ≤ g → lettersF f l = lettersF g l
  | 0, g, l, h, _ => by
    have : l = [] := List.eq_nil_of_length_eq_zero (by omega)
    subst this
    cases g <;> rfl
  | f + 1, 0, l, _, h => by
    have : l = [] := List.eq_nil_of_length_eq_zero (by omega)
    subst this
    rfl
  | f + 1, g + 1, [], _, _ => rfl
  | f + 1, g + 1, c :: r, hf, hg => by
    have hn := nextL_le (l := c :: r) (by simp)
    simp only [lettersF]
    rw [lettersF_enough f g _ (by rw [List.length_drop]; omega) (by rw [List.length_drop]; omega)]

theorem lettersL_nil : lettersL [] = [] := rfl
theorem lettersL_cons {l : List UInt8} (h : l ≠ []) : lettersL l = (nextL l).1 :: lettersL (l.drop (nextL l).2) := by
  cases l with
  | nil => exact absurd rfl h
  | cons c r =>
    have hn := nextL_le (l := c :: r) (by simp)
    unfold lettersL
    simp only [List.length_cons, lettersF]
    rw [lettersF_enough r.length ((c :: r).drop (nextL (c :: r)).2).length _ (by rw [List.length_drop, List.length_cons]; omega) (Nat.le_refl _)]

theorem lettersF_len : ∀ (f : Nat) (l : List UInt8), (lettersF f l).length ≤ l.length
  | 0, l => by simp [lettersF]
  | f + 1, [] => by simp [lettersF]
  | f + 1, c :: r => by
    have hn := nextL_le (l := c :: r) (by simp)
    have := lettersF_len f ((c :: r).drop (nextL (c :: r)).2)
    rw [List.length_drop] at this
    simp only [lettersF, List.length_cons] at *
    omega
theorem lettersL_len (l : List UInt8) : (lettersL l).length ≤ l.length := lettersF_len _ _
theorem lettersF_is : ∀ (f : Nat) (l : List UInt8), ∀ n ∈ lettersF f l, isL (n : Int) = true
  | 0, l, n, h => by simp [lettersF] at h
  | f + 1, [], n, h => by simp [lettersF] at h
  | f + 1, c :: r, n, h => by
    simp only [lettersF, List.mem_cons] at h
    rcases h with rfl | h
    · exact nextL_is _
    · exact lettersF_is f _ n h
theorem lettersL_is (l : List UInt8) : ∀ n ∈ lettersL l, isL (n : Int) = true := lettersF_is _ _
theorem lettersL_plain : ∀ l : List UInt8, (∀ c ∈ l, c.toNat < 128) → lettersL l = l.map fun c => c.toNat
  | [], _ => rfl
  | c :: r, h => by
    rw [lettersL_cons (by simp), nextL_plain (h c (by simp))]
    simp only [List.drop_succ_cons, List.drop_zero, List.map_cons]
    rw [lettersL_plain r (fun d hd => h d (by simp [hd]))]

/-- Letters' bytes in UTF-8. -/
def utf8L (l : List Int) : List UInt8 := (l.map encodeRune).flatten
theorem utf8L_append (a b : List Int) : utf8L (a ++ b) = utf8L a ++ utf8L b := by simp [utf8L]

theorem u8 (x : Nat) (h : x < 256) : (x.toUInt8).toNat = x := by
  simp only [Nat.toUInt8, UInt8.toNat_ofNat']
  omega

theorem enc_len (r : Int) : 1 ≤ (encodeRune r).length ∧ (encodeRune r).length ≤ 4 := by
  unfold encodeRune encodeRuneZ
  repeat' split
  all_goals simp

set_option maxRecDepth 100000 in
set_option maxHeartbeats 4000000 in
/-- What was written for a letter is read. -/
theorem next_enc (r : Int) (rest : List UInt8) : nextL (encodeRune r ++ rest) = ((fix r).toNat, (encodeRune r).length) := by
  unfold encodeRune encodeRuneZ fix isL
  by_cases h1 : 0 ≤ r ∧ r ≤ 127
  · rw [if_pos h1]
    simp only [List.map_cons, List.map_nil, List.cons_append, List.nil_append]
    rw [nextL_plain (by rw [u8 _ (by omega)]; omega), u8 _ (by omega), if_pos (by simp only [decide_eq_true_eq]; omega)]
    rfl
  · rw [if_neg h1]
    by_cases h2 : 128 ≤ r ∧ r ≤ 2047
    · rw [if_pos h2, if_pos (by simp only [decide_eq_true_eq]; omega)]
      unfold nextL decodeN bAt
      simp only [List.map_cons, List.map_nil, List.cons_append, List.nil_append, List.getD_cons_zero, List.getD_cons_succ, List.length_cons, List.length_nil]
      rw [u8 _ (by omega), u8 _ (by omega)]
      rw [if_neg (by omega), if_pos (by omega), if_pos (by omega)]
      apply Prod.ext <;> simp only <;> omega
    · rw [if_neg h2]
      by_cases h3 : (2048 ≤ r ∧ r < 55296) ∨ (57343 < r ∧ r ≤ 65535)
      · rw [if_pos h3, if_pos (by simp only [decide_eq_true_eq]; omega)]
        unfold nextL decodeN bAt
        simp only [List.map_cons, List.map_nil, List.cons_append, List.nil_append, List.getD_cons_zero, List.getD_cons_succ, List.length_cons, List.length_nil]
        rw [u8 _ (by omega), u8 _ (by omega), u8 _ (by omega)]
        rw [if_neg (by omega), if_neg (by omega), if_pos (by omega), if_pos (by omega)]
        apply Prod.ext <;> simp only <;> omega
      · rw [if_neg h3]
        by_cases h4 : 65536 ≤ r ∧ r ≤ 1114111
        · rw [if_pos h4, if_pos (by simp only [decide_eq_true_eq]; omega)]
          unfold nextL decodeN bAt
          simp only [List.map_cons, List.map_nil, List.cons_append, List.nil_append, List.getD_cons_zero, List.getD_cons_succ, List.length_cons, List.length_nil]
          rw [u8 _ (by omega), u8 _ (by omega), u8 _ (by omega), u8 _ (by omega)]
          rw [if_neg (by omega), if_neg (by omega), if_neg (by omega), if_pos (by omega), if_pos (by omega)]
          apply Prod.ext <;> simp only <;> omega
        · rw [if_neg h4, if_neg (by simp only [decide_eq_true_eq]; omega)]
          unfold nextL decodeN bAt
          simp only [List.map_cons, List.map_nil, List.cons_append, List.nil_append, List.getD_cons_zero, List.getD_cons_succ, List.length_cons, List.length_nil]
          simp only [show ((239 : Int).toNat.toUInt8).toNat = 239 from rfl, show ((191 : Int).toNat.toUInt8).toNat = 191 from rfl, show ((189 : Int).toNat.toUInt8).toNat = 189 from rfl]
          rw [if_neg (by decide), if_neg (by intro h; exact absurd h.1 (by decide)), if_pos ⟨by decide, ⟨by omega, by decide⟩, ⟨by omega, by decide⟩⟩, if_pos (by decide)]
          rfl

theorem letters_utf8 : ∀ l : List Int, lettersL (utf8L l) = l.map fun r => (fix r).toNat
  | [] => rfl
  | r :: l => by
    have hl := enc_len r
    have e : utf8L (r :: l) = encodeRune r ++ utf8L l := rfl
    rw [e, lettersL_cons (by intro h; have := congrArg List.length h; rw [List.length_append, List.length_nil] at this; omega), next_enc]
    simp only [List.drop_left', List.map_cons]
    rw [letters_utf8 l]
theorem utf8L_len : ∀ l : List Int, (utf8L l).length ≤ 4 * l.length
  | [] => by simp [utf8L]
  | r :: l => by
    have := enc_len r
    have := utf8L_len l
    have e : utf8L (r :: l) = encodeRune r ++ utf8L l := rfl
    rw [e, List.length_append, List.length_cons]
    omega

/-- The letters of 80 to 9f in WINDOWS-1252. -/
def winT : List Nat := [8364, 65533, 8218, 402, 8222, 8230, 8224, 8225, 710, 8240, 352, 8249, 338, 65533, 381, 65533, 65533, 8216, 8217, 8220, 8221, 8226, 8211, 8212, 732, 8482, 353, 8250, 339, 65533, 382, 376]
/-- The letters from a0 on in ISO-8859-15 that are not the bytes' numbers. -/
def lat9T : List Nat := [0, 0, 0, 0, 8364, 0, 352, 0, 353, 0, 0, 0, 0, 0, 0, 0, 0, 0, 0, 0, 381, 0, 0, 0, 382, 0, 0, 0, 338, 339, 376]
/-- A byte's letter, in a charset that is not UTF-8. -/
def ofB (c b : Nat) : Nat :=
  if b < 128 then b else if c = 1 then 65533 else if c = 5 ∧ b < 160 then winT.getD (b - 128) 0
  else if c = 4 ∧ 160 ≤ b ∧ b < 191 ∧ lat9T.getD (b - 160) 0 ≠ 0 then lat9T.getD (b - 160) 0 else b
/-- The way back. -/
def inv (c n : Nat) : Nat :=
  if n < 128 then n else if c = 5 then (if 160 ≤ n ∧ n < 256 then n else 128 + min 127 (winT.findIdx (· == n)))
  else if c = 4 then (if n < 256 then n else 160 + min 95 (lat9T.findIdx (· == n))) else min n 255
theorem inv_lt (c n : Nat) : inv c n < 256 := by
  unfold inv
  repeat' split
  all_goals omega
theorem inv_fin : ∀ c : Fin 6, c.val ≠ 2 → 1 ≤ c.val → ∀ b : Fin 256, ofB c.val b.val ≠ 65533 → inv c.val (ofB c.val b.val) = b.val := by decide +kernel
theorem inv_of {c b : Nat} (hc : 1 ≤ c ∧ c ≤ 5 ∧ c ≠ 2) (hb : b < 256) (h : ofB c b ≠ 65533) : inv c (ofB c b) = b :=
  inv_fin ⟨c, by omega⟩ hc.2.2 hc.1 ⟨b, hb⟩ h
theorem ofB_is_fin : ∀ c : Fin 6, ∀ b : Fin 256, isL (ofB c.val b.val : Int) = true := by decide +kernel
theorem ofB_is {c b : Nat} (hc : c ≤ 5) (hb : b < 256) : isL (ofB c b : Int) = true := ofB_is_fin ⟨c, by omega⟩ ⟨b, hb⟩
theorem ofB_low {c b : Nat} (h : b < 128) : ofB c b = b := by rw [ofB, if_pos h]

/-- A letter's byte; none, if it has none. -/
def byteR (c : Nat) (n : Int) : Option Nat := if n = 65533 then none else if (ofB c (inv c n.toNat) : Int) = n then some (inv c n.toNat) else none
theorem byteR_hit {c b : Nat} {n : Int} (hc : 1 ≤ c ∧ c ≤ 5 ∧ c ≠ 2) (hb : b < 256) (h : (ofB c b : Int) = n) (hn : n ≠ 65533) : byteR c n = some b := by
  subst h
  have := inv_of hc hb (by omega)
  unfold byteR
  rw [if_neg hn, Int.toNat_natCast, this, if_pos rfl]
theorem byteR_miss {c : Nat} {n : Int} (h : ∀ b, b < 256 → (ofB c b : Int) ≠ n) : byteR c n = none := by
  unfold byteR
  split
  · rfl
  · rw [if_neg (h _ (inv_lt _ _))]
theorem byteR_lt {c b : Nat} {n : Int} (h : byteR c n = some b) : b < 256 ∧ (ofB c b : Int) = n := by
  unfold byteR at h
  split at h
  · simp at h
  · split at h
    · simp only [Option.some.injEq] at h
      subst h
      exact ⟨inv_lt _ _, ‹_›⟩
    · simp at h

/-- A letter's bytes in a charset; none, if it has none. -/
def encOne (c : Nat) (n : Int) : Option (List UInt8) := if c = 2 then (if isL n then some (encodeRune n) else none) else (byteR c n).map fun b => [UInt8.ofNat b]
/-- Letters' bytes; none, if one has none. -/
def encL (c : Nat) : List Int → Option (List UInt8)
  | [] => some []
  | n :: r => match encOne c n with
    | none => none
    | some a => (encL c r).map (a ++ ·)
/-- Bytes' letters. -/
def decL (c : Nat) (l : List UInt8) : List Nat := if c = 2 then lettersL l else l.map fun b => ofB c b.toNat
/-- What Encode tells. -/
def encR (c : Nat) (l : List Int) : List UInt8 × Nat := if 1 ≤ c ∧ c ≤ 5 then (match encL c l with | some s => (s, 0) | none => ([], 7)) else ([], 14)
/-- What Decode tells. -/
def decR (c : Nat) (l : List UInt8) : List Nat × Nat := if 1 ≤ c ∧ c ≤ 5 then (decL c l, 0) else ([], 14)

theorem encOne_len {c : Nat} {n : Int} {a : List UInt8} (h : encOne c n = some a) : a.length ≤ 4 := by
  unfold encOne at h
  split at h
  · split at h
    · simp only [Option.some.injEq] at h; subst h; exact (enc_len n).2
    · simp at h
  · obtain ⟨b, _, rfl⟩ := Option.map_eq_some_iff.1 h
    simp
theorem encL_two : ∀ (l : List Int) (s : List UInt8), encL 2 l = some s → s = utf8L l ∧ ∀ n ∈ l, isL n = true
  | [], s, h => by simp [encL] at h; subst h; exact ⟨rfl, by simp⟩
  | n :: r, s, h => by
    simp only [encL, encOne, if_true] at h
    by_cases hn : isL n = true
    · rw [if_pos hn] at h
      obtain ⟨t, ht, rfl⟩ := Option.map_eq_some_iff.1 h
      have ih := encL_two r t ht
      refine ⟨by rw [ih.1]; rfl, fun m hm => ?_⟩
      rcases List.mem_cons.1 hm with rfl | hm
      · exact hn
      · exact ih.2 m hm
    · rw [if_neg hn] at h; simp at h
theorem encL_one {c : Nat} (hc : c ≠ 2) : ∀ (l : List Int) (s : List UInt8), encL c l = some s → (s.map fun b => (ofB c b.toNat : Int)) = l
  | [], s, h => by simp [encL] at h; subst h; rfl
  | n :: r, s, h => by
    simp only [encL, encOne, if_neg hc] at h
    cases hb : byteR c n with
    | none => rw [hb] at h; simp at h
    | some b =>
      rw [hb] at h
      simp only [Option.map_some] at h
      obtain ⟨t, ht, rfl⟩ := Option.map_eq_some_iff.1 h
      have ih := encL_one hc r t ht
      have hl := byteR_lt hb
      simp only [List.cons_append, List.nil_append, List.map_cons, ih]
      congr 1
      rw [show (UInt8.ofNat b).toNat = b by simp; omega]
      exact hl.2
/-- Numbers as they are told. -/
def ints (l : List Nat) : List Int := l.map Int.ofNat
theorem fix_is {n : Int} (h : isL n = true) : ((fix n).toNat : Int) = n := by
  unfold fix
  rw [if_pos h]
  simp only [isL, decide_eq_true_eq] at h
  omega
theorem ints_fix : ∀ l : List Int, (∀ n ∈ l, isL n = true) → ints (l.map fun r => (fix r).toNat) = l
  | [], _ => rfl
  | n :: r, h => by
    have ih := ints_fix r (fun m hm => h m (by simp [hm]))
    have hn := fix_is (h n (by simp))
    unfold ints at ih ⊢
    rw [List.map_cons, List.map_cons, ih]
    exact congrArg (· :: r) hn
/-- What is encoded is decoded. -/
theorem dec_enc {c : Nat} {l : List Int} {s : List UInt8} (h : encL c l = some s) : ints (decL c s) = l := by
  unfold decL
  by_cases hc : c = 2
  · subst hc
    rw [if_pos rfl]
    obtain ⟨rfl, hi⟩ := encL_two l s h
    rw [letters_utf8]
    exact ints_fix l hi
  · rw [if_neg hc]
    unfold ints
    rw [List.map_map]
    exact encL_one hc l s h
end Go.Proofs.Rns
