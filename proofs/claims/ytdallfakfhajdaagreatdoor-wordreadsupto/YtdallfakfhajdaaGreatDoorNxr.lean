/-
  The document's way to read a letter of UTF-8, in plain mathematics: it is the letter that the bytes begin with.
-/
import Derived.Test.YtdallfakfhajdaaGreatDoorRns
namespace Go.Proofs.Nxr
open Go.Proofs.Rns
open Go.Lib (decodeN encodeRune encodeRuneZ)

/-- How many bytes a first byte asks for, and what it is of the number. -/
def manyR (c : Nat) : Nat := if 240 ≤ c ∧ c < 248 then 4 else if 224 ≤ c ∧ c < 240 then 3 else if 192 ≤ c ∧ c < 224 then 2 else 1
def leadR (c : Nat) : Nat := if 240 ≤ c ∧ c < 248 then c - 240 else if 224 ≤ c ∧ c < 240 then c - 224 else if 192 ≤ c ∧ c < 224 then c - 192 else c
/-- The number behind k + 1 bytes. -/
def numR (s : List UInt8) : Nat → Nat
  | 0 => leadR (bAt s 0)
  | k + 1 => 64 * numR s k + bAt s (k + 1) % 64
/-- Whether the number is a letter, and the bytes are its bytes. -/
def okR (s : List UInt8) : Prop := manyR (bAt s 0) ≤ s.length ∧ isL (numR s (manyR (bAt s 0) - 1) : Int) = true ∧ encodeRune (numR s (manyR (bAt s 0) - 1) : Int) = s.take (manyR (bAt s 0))

theorem u8eq {x : Int} {a : UInt8} (h : 0 ≤ x ∧ x < 256) : x.toNat.toUInt8 = a ↔ x = (a.toNat : Int) := by
  have ha := a.toNat_lt
  constructor
  · intro e
    have := u8 x.toNat (by omega)
    rw [e] at this
    omega
  · intro e
    apply UInt8.toNat_inj.mp
    rw [u8 x.toNat (by omega)]
    omega
theorem enc1 {n : Int} (h : 0 ≤ n ∧ n ≤ 127) : encodeRune n = [n.toNat.toUInt8] := by
  unfold encodeRune encodeRuneZ
  rw [if_pos h]; rfl
theorem enc2 {n : Int} (h : 128 ≤ n ∧ n ≤ 2047) : encodeRune n = [(192 + n / 64).toNat.toUInt8, (128 + n % 64).toNat.toUInt8] := by
  unfold encodeRune encodeRuneZ
  rw [if_neg (by omega), if_pos h]; rfl
theorem enc3 {n : Int} (h : (2048 ≤ n ∧ n < 55296) ∨ (57343 < n ∧ n ≤ 65535)) : encodeRune n = [(224 + n / 4096).toNat.toUInt8, (128 + n / 64 % 64).toNat.toUInt8, (128 + n % 64).toNat.toUInt8] := by
  unfold encodeRune encodeRuneZ
  rw [if_neg (by omega), if_neg (by omega), if_pos h]; rfl
theorem enc4 {n : Int} (h : 65536 ≤ n ∧ n ≤ 1114111) : encodeRune n = [(240 + n / 262144).toNat.toUInt8, (128 + n / 4096 % 64).toNat.toUInt8, (128 + n / 64 % 64).toNat.toUInt8, (128 + n % 64).toNat.toUInt8] := by
  unfold encodeRune encodeRuneZ
  rw [if_neg (by omega), if_neg (by omega), if_neg (by omega), if_pos h]; rfl

theorem many_pos (c : Nat) : 1 ≤ manyR c ∧ manyR c ≤ 4 := by
  unfold manyR
  repeat' split
  all_goals omega
/-- Where it is so, that is the letter. -/
theorem next_ok {s : List UInt8} (h : okR s) : nextL s = (numR s (manyR (bAt s 0) - 1), manyR (bAt s 0)) := by
  obtain ⟨h1, h2, h3⟩ := h
  have hs : s = encodeRune (numR s (manyR (bAt s 0) - 1) : Int) ++ s.drop (manyR (bAt s 0)) := by rw [h3, List.take_append_drop]
  have hl : (encodeRune (numR s (manyR (bAt s 0) - 1) : Int)).length = manyR (bAt s 0) := by rw [h3, List.length_take]; omega
  have hn := next_enc (numR s (manyR (bAt s 0) - 1) : Int) (s.drop (manyR (bAt s 0)))
  rw [← hs, hl] at hn
  rw [hn]
  unfold fix
  rw [if_pos h2]
  simp

theorem ok1 {s : List UInt8} (h0 : s ≠ []) (h : bAt s 0 < 128) : okR s := by
  have hm : manyR (bAt s 0) = 1 := by unfold manyR; rw [if_neg (by omega), if_neg (by omega), if_neg (by omega)]
  unfold okR
  rw [hm]
  have hn : numR s (1 - 1) = bAt s 0 := by show numR s 0 = _; simp only [numR, leadR]; rw [if_neg (by omega), if_neg (by omega), if_neg (by omega)]
  rw [hn]
  cases s with
  | nil => exact absurd rfl h0
  | cons a0 r =>
    have e0 : bAt (a0 :: r) 0 = a0.toNat := rfl
    rw [e0] at h ⊢
    refine ⟨by simp, by unfold isL; exact decide_eq_true (by omega), ?_⟩
    rw [enc1 (by omega)]
    show [_] = [a0]
    rw [List.cons.injEq]
    exact ⟨(u8eq (by omega)).mpr rfl, rfl⟩
theorem ok2 {s : List UInt8} (h : bAt s 0 / 32 = 6 ∧ (1 < s.length ∧ bAt s 1 / 64 = 2)) (hv : bAt s 0 % 32 * 64 + bAt s 1 % 64 ≥ 128) : okR s := by
  have hb1 := bAt_lt s 1
  have hm : manyR (bAt s 0) = 2 := by unfold manyR; rw [if_neg (by omega), if_neg (by omega), if_pos (by omega)]
  unfold okR
  rw [hm]
  have hn : numR s (2 - 1) = bAt s 0 % 32 * 64 + bAt s 1 % 64 := by
    simp only [numR, leadR, show 2 - 1 = 1 from rfl, Nat.zero_add]; rw [if_neg (by omega), if_neg (by omega), if_pos (by omega)]; omega
  rw [hn]
  rcases s with _ | ⟨a0, _ | ⟨a1, r⟩⟩
  · exact absurd h.2.1 (by simp)
  · exact absurd h.2.1 (by simp)
  · clear hm hn
    have e0 : bAt (a0 :: a1 :: r) 0 = a0.toNat := rfl
    have e1 : bAt (a0 :: a1 :: r) 1 = a1.toNat := rfl
    simp only [e0, e1] at h hv hb1 ⊢
    refine ⟨by simp, by unfold isL; exact decide_eq_true (by omega), ?_⟩
    rw [enc2 (by omega)]
    show [_, _] = [a0, a1]
    simp only [List.cons.injEq, and_true]
    exact ⟨(u8eq (by omega)).mpr (by omega), (u8eq (by omega)).mpr (by omega)⟩
theorem ok3 {s : List UInt8} (h : bAt s 0 / 16 = 14 ∧ (1 < s.length ∧ bAt s 1 / 64 = 2) ∧ (2 < s.length ∧ bAt s 2 / 64 = 2))
    (hv : bAt s 0 % 16 * 4096 + bAt s 1 % 64 * 64 + bAt s 2 % 64 ≥ 2048 ∧ (bAt s 0 % 16 * 4096 + bAt s 1 % 64 * 64 + bAt s 2 % 64 < 55296 ∨ (57344 ≤ bAt s 0 % 16 * 4096 + bAt s 1 % 64 * 64 + bAt s 2 % 64 ∧ bAt s 0 % 16 * 4096 + bAt s 1 % 64 * 64 + bAt s 2 % 64 ≤ 1114111))) : okR s := by
  have hb1 := bAt_lt s 1
  have hb2 := bAt_lt s 2
  have hm : manyR (bAt s 0) = 3 := by unfold manyR; rw [if_neg (by omega), if_pos (by omega)]
  unfold okR
  rw [hm]
  have hn : numR s (3 - 1) = bAt s 0 % 16 * 4096 + bAt s 1 % 64 * 64 + bAt s 2 % 64 := by
    show numR s (0 + 1 + 1) = _
    simp only [numR, leadR]; rw [if_neg (by omega), if_pos (by omega)]; simp only [Nat.zero_add, Nat.reduceAdd]; omega
  rw [hn]
  rcases s with _ | ⟨a0, _ | ⟨a1, _ | ⟨a2, r⟩⟩⟩
  · exact absurd h.2.2.1 (by simp)
  · exact absurd h.2.2.1 (by simp)
  · exact absurd h.2.2.1 (by simp)
  · clear hm hn
    have e0 : bAt (a0 :: a1 :: a2 :: r) 0 = a0.toNat := rfl
    have e1 : bAt (a0 :: a1 :: a2 :: r) 1 = a1.toNat := rfl
    have e2 : bAt (a0 :: a1 :: a2 :: r) 2 = a2.toNat := rfl
    simp only [e0, e1, e2] at h hv hb1 hb2 ⊢
    refine ⟨by simp, by unfold isL; exact decide_eq_true (by omega), ?_⟩
    rw [enc3 (by omega)]
    show [_, _, _] = [a0, a1, a2]
    simp only [List.cons.injEq, and_true]
    exact ⟨(u8eq (by omega)).mpr (by omega), (u8eq (by omega)).mpr (by omega), (u8eq (by omega)).mpr (by omega)⟩
theorem ok4 {s : List UInt8} (h : bAt s 0 / 8 = 30 ∧ (1 < s.length ∧ bAt s 1 / 64 = 2) ∧ (2 < s.length ∧ bAt s 2 / 64 = 2) ∧ (3 < s.length ∧ bAt s 3 / 64 = 2))
    (hv : bAt s 0 % 8 * 262144 + bAt s 1 % 64 * 4096 + bAt s 2 % 64 * 64 + bAt s 3 % 64 ≥ 65536) (hw : bAt s 0 % 8 * 262144 + bAt s 1 % 64 * 4096 + bAt s 2 % 64 * 64 + bAt s 3 % 64 ≤ 1114111) : okR s := by
  have hb1 := bAt_lt s 1
  have hb2 := bAt_lt s 2
  have hb3 := bAt_lt s 3
  have hm : manyR (bAt s 0) = 4 := by unfold manyR; rw [if_pos (by omega)]
  unfold okR
  rw [hm]
  have hn : numR s (4 - 1) = bAt s 0 % 8 * 262144 + bAt s 1 % 64 * 4096 + bAt s 2 % 64 * 64 + bAt s 3 % 64 := by
    show numR s (0 + 1 + 1 + 1) = _
    simp only [numR, leadR]; rw [if_pos (by omega)]; simp only [Nat.zero_add, Nat.reduceAdd]; omega
  rw [hn]
  rcases s with _ | ⟨a0, _ | ⟨a1, _ | ⟨a2, _ | ⟨a3, r⟩⟩⟩⟩
  · exact absurd h.2.2.2.1 (by simp)
  · exact absurd h.2.2.2.1 (by simp)
  · exact absurd h.2.2.2.1 (by simp)
  · exact absurd h.2.2.2.1 (by simp)
  · clear hm hn
    have e0 : bAt (a0 :: a1 :: a2 :: a3 :: r) 0 = a0.toNat := rfl
    have e1 : bAt (a0 :: a1 :: a2 :: a3 :: r) 1 = a1.toNat := rfl
    have e2 : bAt (a0 :: a1 :: a2 :: a3 :: r) 2 = a2.toNat := rfl
    have e3 : bAt (a0 :: a1 :: a2 :: a3 :: r) 3 = a3.toNat := rfl
    simp only [e0, e1, e2, e3] at h hv hw hb1 hb2 hb3 ⊢
    refine ⟨by simp, by unfold isL; exact decide_eq_true (by omega), ?_⟩
    rw [enc4 (by omega)]
    show [_, _, _, _] = [a0, a1, a2, a3]
    simp only [List.cons.injEq, and_true]
    exact ⟨(u8eq (by omega)).mpr (by omega), (u8eq (by omega)).mpr (by omega), (u8eq (by omega)).mpr (by omega), (u8eq (by omega)).mpr (by omega)⟩
/-- Where it is not so, there is none. -/
theorem next_no {s : List UInt8} (h0 : s ≠ []) (h : ¬ okR s) : nextL s = (65533, 1) := by
  unfold nextL decodeN
  split
  · rename_i h1; exact absurd (ok1 h0 h1) h
  · split
    · rename_i h2
      split
      · rename_i hv; exact absurd (ok2 h2 hv) h
      · rfl
    · split
      · rename_i h3
        split
        · rename_i hv; exact absurd (ok3 h3 hv) h
        · rfl
      · split
        · rename_i h4
          split
          · rename_i hv; exact absurd (ok4 h4 hv.1 (by omega)) h
          · rfl
        · rfl
end Go.Proofs.Nxr
