/-
  Numbers as few bytes, in plain mathematics: the bytes of a number, what bytes begin with, and that the two are each other's way back.
-/
namespace Go.Proofs.Num

/-- A number's bytes: seven bits a byte, the lowest first; f bounds how many. -/
def putF : Nat → Nat → List UInt8
  | 0, n => [UInt8.ofNat n]
  | f + 1, n => if n < 128 then [UInt8.ofNat n] else UInt8.ofNat (n % 128 + 128) :: putF f (n / 128)

/-- A number's bytes. -/
def putL (n : Nat) : List UInt8 := putF n n

theorem putF_enough : ∀ (f g n : Nat), n ≤ f → n ≤ g → putF f n = putF g n := by
  intro f
  induction f with
  | zero =>
    intro g n hf hg
    have : n = 0 := by omega
    subst this
    cases g <;> simp [putF]
  | succ f ih =>
    intro g n hf hg
    cases g with
    | zero =>
      have : n = 0 := by omega
      subst this
      simp [putF]
    | succ g =>
      simp only [putF]
      by_cases h : n < 128
      · simp [h]
      · rw [if_neg h, if_neg h, ih g (n / 128) (by omega) (by omega)]

/-- What a list of bytes begins with, read from place i on with n read so far: the number, how many bytes it has, the error's number. -/
def scanFrom : List UInt8 → Nat → Nat → Nat × Nat × Nat
  | [], _, _ => (0, 0, 5)
  | b :: r, i, n =>
    if i = 9 ∧ 1 < b.toNat then (0, 0, 7)
    else if 128 ≤ b.toNat then scanFrom r (i + 1) (n + b.toNat % 128 * 2 ^ (7 * i))
    else if b.toNat = 0 ∧ 0 < i then (0, 0, 7)
    else (n + b.toNat % 128 * 2 ^ (7 * i), i + 1, 0)

def scanL (s : List UInt8) : Nat × Nat × Nat := scanFrom s 0 0

theorem putL_small {n : Nat} (h : n < 128) : putL n = [UInt8.ofNat n] := by
  unfold putL
  cases n with
  | zero => rfl
  | succ n => simp [putF, h]
theorem putL_big {n : Nat} (h : 128 ≤ n) : putL n = UInt8.ofNat (n % 128 + 128) :: putL (n / 128) := by
  unfold putL
  obtain ⟨m, rfl⟩ : ∃ m, n = m + 1 := ⟨n - 1, by omega⟩
  rw [putF, if_neg (by omega), putF_enough m ((m + 1) / 128) ((m + 1) / 128) (by omega) (by omega)]

theorem putL_pos (n : Nat) : 0 < (putL n).length := by
  by_cases h : n < 128
  · simp [putL_small h]
  · simp [putL_big (show 128 ≤ n by omega)]

/-- A number below 128^k has at most k bytes, and one from 128^k on has more. -/
theorem putL_len (k : Nat) : ∀ n, (putL n).length ≤ k + 1 ↔ n < 2 ^ (7 * (k + 1)) := by
  induction k with
  | zero =>
    intro n
    by_cases h : n < 128
    · simp [putL_small h, h]
    · have := putL_pos (n / 128)
      simp only [putL_big (show 128 ≤ n by omega), List.length_cons]
      constructor
      · intro h'; omega
      · intro h'; exact absurd h' h
  | succ k ih =>
    intro n
    have e : 2 ^ (7 * (k + 1 + 1)) = 128 * 2 ^ (7 * (k + 1)) := by rw [show 7 * (k + 1 + 1) = 7 + 7 * (k + 1) by omega, Nat.pow_add]
    by_cases h : n < 128
    · have hp : 0 < 2 ^ (7 * (k + 1)) := Nat.two_pow_pos _
      simp only [putL_small h, List.length_cons, List.length_nil]
      constructor
      · intro _; omega
      · intro _; omega
    · have := ih (n / 128)
      simp only [putL_big (show 128 ≤ n by omega), List.length_cons]
      rw [e]
      constructor
      · intro h'; have := this.1 (by omega); omega
      · intro h'; have := this.2 (by omega); omega

theorem putL_len10 {n : Nat} (h : n < 18446744073709551616) : (putL n).length ≤ 10 := by
  have := (putL_len 9 n).2 (Nat.lt_of_lt_of_le h (by decide))
  omega

/-- What is put is scanned, whatever stands behind it. -/
theorem scanFrom_put (r : List UInt8) : ∀ (m i n : Nat), i ≤ 9 → m * 2 ^ (7 * i) + n < 18446744073709551616 → (0 < m ∨ i = 0) →
    scanFrom (putL m ++ r) i n = (n + m * 2 ^ (7 * i), i + (putL m).length, 0) := by
  intro m
  induction m using Nat.strongRecOn with
  | _ m ih =>
    intro i n hi hm hz
    have e9 : i = 9 → m ≤ 1 := by
      intro h; subst h
      have : (2 : Nat) ^ (7 * 9) = 9223372036854775808 := by decide
      rw [this] at hm; omega
    by_cases h : m < 128
    · rw [putL_small h]
      have ht : (UInt8.ofNat m).toNat = m := by simp [Nat.mod_eq_of_lt (show m < 256 by omega)]
      simp only [List.cons_append, List.nil_append, scanFrom, ht, List.length_cons, List.length_nil]
      rw [if_neg (by intro hh; have := e9 hh.1; omega), if_neg (by omega), if_neg (by omega), Nat.mod_eq_of_lt h]
    · have hb : 128 ≤ m := by omega
      rw [putL_big hb]
      have ht : (UInt8.ofNat (m % 128 + 128)).toNat = m % 128 + 128 := by simp [Nat.mod_eq_of_lt (show m % 128 + 128 < 256 by omega)]
      simp only [List.cons_append, scanFrom, ht, List.length_cons]
      have hi9 : i ≠ 9 := by intro hh; have := e9 hh; omega
      rw [if_neg (by intro hh; exact hi9 hh.1), if_pos (by omega)]
      have e : 2 ^ (7 * (i + 1)) = 128 * 2 ^ (7 * i) := by rw [show 7 * (i + 1) = 7 + 7 * i by omega, Nat.pow_add]
      have em : m / 128 * (128 * 2 ^ (7 * i)) + m % 128 * 2 ^ (7 * i) = m * 2 ^ (7 * i) := by
        rw [← Nat.mul_assoc, ← Nat.add_mul]
        congr 1
        omega
      have emod : (m % 128 + 128) % 128 = m % 128 := by omega
      rw [emod, ih (m / 128) (by omega) (i + 1) _ (by omega) (by rw [e]; omega) (by omega), e]
      simp only [Prod.mk.injEq, and_true]
      exact ⟨by omega, by omega⟩

theorem scanL_put (n : Nat) (r : List UInt8) (h : n < 18446744073709551616) : scanL (putL n ++ r) = (n, (putL n).length, 0) := by
  have := scanFrom_put r n 0 0 (by omega) (by simpa using h) (Or.inr rfl)
  simpa [scanL] using this

/-- What is scanned well has its bytes. -/
theorem scanFrom_ok : ∀ (s : List UInt8) (i n m k : Nat), i ≤ 9 → n < 2 ^ (7 * i) → scanFrom s i n = (m, k, 0) →
    ∃ q r, m = n + q * 2 ^ (7 * i) ∧ s = putL q ++ r ∧ k = i + (putL q).length ∧ m < 18446744073709551616 ∧ k ≤ 10 ∧ (0 < q ∨ i = 0) := by
  intro s
  induction s with
  | nil => intro i n m k _ _ h; simp [scanFrom] at h
  | cons b r ih =>
    intro i n m k hi hn h
    have hb : b.toNat < 256 := b.toNat_lt
    have e : 2 ^ (7 * (i + 1)) = 128 * 2 ^ (7 * i) := by rw [show 7 * (i + 1) = 7 + 7 * i by omega, Nat.pow_add]
    have hp : 2 ^ (7 * i) ≤ 2 ^ (7 * 9) := Nat.pow_le_pow_right (by decide) (by omega)
    have h63 : (2 : Nat) ^ (7 * 9) = 9223372036854775808 := by decide
    simp only [scanFrom] at h
    by_cases h9 : i = 9 ∧ 1 < b.toNat
    · simp [h9] at h
    · rw [if_neg h9] at h
      by_cases h128 : 128 ≤ b.toNat
      · rw [if_pos h128] at h
        have hi8 : i ≤ 8 := by
          rcases Nat.lt_or_ge i 9 with h' | h'
          · omega
          · exact absurd ⟨by omega, by omega⟩ h9
        have hmul : b.toNat % 128 * 2 ^ (7 * i) ≤ 127 * 2 ^ (7 * i) := Nat.mul_le_mul_right _ (by omega)
        obtain ⟨q, r', hm, hr, hk, hlt, hk10, hq⟩ := ih (i + 1) _ m k (by omega) (by rw [e]; omega) h
        have hq0 : 0 < q := by omega
        refine ⟨b.toNat % 128 + 128 * q, r', ?_, ?_, ?_, hlt, hk10, by omega⟩
        · rw [hm, e, Nat.add_mul, show 128 * q * 2 ^ (7 * i) = q * (128 * 2 ^ (7 * i)) by rw [Nat.mul_comm 128 q, Nat.mul_assoc]]
          omega
        · rw [putL_big (show 128 ≤ b.toNat % 128 + 128 * q by omega), show (b.toNat % 128 + 128 * q) % 128 + 128 = b.toNat by omega, show (b.toNat % 128 + 128 * q) / 128 = q by omega, hr]
          simp
        · rw [putL_big (show 128 ≤ b.toNat % 128 + 128 * q by omega), show (b.toNat % 128 + 128 * q) / 128 = q by omega, hk]
          simp; omega
      · rw [if_neg h128] at h
        by_cases hz : b.toNat = 0 ∧ 0 < i
        · simp [hz] at h
        · rw [if_neg hz] at h
          simp only [Prod.mk.injEq] at h
          obtain ⟨hm, hk, _⟩ := h
          have hbm : b.toNat % 128 = b.toNat := Nat.mod_eq_of_lt (by omega)
          rw [hbm] at hm
          refine ⟨b.toNat, r, hm.symm, ?_, ?_, ?_, by omega, by omega⟩
          · rw [putL_small (by omega)]; simp
          · rw [putL_small (by omega)]; simp; omega
          · rcases Nat.lt_or_ge i 9 with h' | h'
            · have hp8 : 2 ^ (7 * i) ≤ 2 ^ (7 * 8) := Nat.pow_le_pow_right (by decide) (by omega)
              have h56 : (2 : Nat) ^ (7 * 8) = 72057594037927936 := by decide
              have hmul : b.toNat * 2 ^ (7 * i) ≤ 127 * 2 ^ (7 * i) := Nat.mul_le_mul_right _ (by omega)
              omega
            · have hi9 : i = 9 := by omega
              have hb1 : b.toNat ≤ 1 := by
                rcases Nat.lt_or_ge 1 b.toNat with h'' | h''
                · exact absurd ⟨hi9, h''⟩ h9
                · exact h''
              have hmul : b.toNat * 2 ^ (7 * i) ≤ 1 * 2 ^ (7 * i) := Nat.mul_le_mul_right _ hb1
              omega

theorem scanL_ok {s : List UInt8} {m k : Nat} (h : scanL s = (m, k, 0)) : s = putL m ++ s.drop k ∧ k = (putL m).length ∧ m < 18446744073709551616 ∧ k ≤ 10 := by
  obtain ⟨q, r, hm, hr, hk, hlt, hk10, _⟩ := scanFrom_ok s 0 0 m k (by omega) (by simp) h
  have : m = q := by simpa using hm
  subst this
  have hk' : k = (putL m).length := by omega
  refine ⟨?_, hk', hlt, hk10⟩
  rw [hk', hr]
  simp

/-- With an error nothing else is told. -/
theorem scanFrom_no : ∀ (s : List UInt8) (i n : Nat), (scanFrom s i n).2.2 = 0 ∨ scanFrom s i n = (0, 0, 5) ∨ scanFrom s i n = (0, 0, 7) := by
  intro s
  induction s with
  | nil => intro i n; right; left; rfl
  | cons b r ih =>
    intro i n
    simp only [scanFrom]
    split
    · right; right; rfl
    · split
      · exact ih _ _
      · split
        · right; right; rfl
        · left; rfl

theorem scanL_no (s : List UInt8) : (scanL s).2.2 = 0 ∨ scanL s = (0, 0, 5) ∨ scanL s = (0, 0, 7) := scanFrom_no s 0 0
theorem scanL_le (s : List UInt8) : (scanL s).2.1 ≤ s.length ∧ (scanL s).2.1 ≤ 10 ∧ (scanL s).1 < 18446744073709551616 := by
  rcases scanL_no s with h | h | h
  · obtain ⟨m, k, hmk⟩ : ∃ m k, scanL s = (m, k, 0) := ⟨(scanL s).1, (scanL s).2.1, by rw [← h]⟩
    have := scanL_ok hmk
    rw [hmk]
    refine ⟨?_, this.2.2.2, this.2.2.1⟩
    have hl := congrArg List.length this.1
    simp at hl
    have := putL_pos m
    simp only
    omega
  · rw [h]; simp
  · rw [h]; simp
end Go.Proofs.Num
