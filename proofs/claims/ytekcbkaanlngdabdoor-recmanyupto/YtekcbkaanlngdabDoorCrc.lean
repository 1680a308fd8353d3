/-
  The sum of bytes (CRC-32), in plain mathematics: bit by bit, by four bits at once, and that another byte gives another sum.
-/
namespace Go.Proofs.Crc

/-- One bit. -/
def step1 (r : Nat) : Nat := if r % 2 = 1 then (r / 2) ^^^ 3988292384 else r / 2

/-- k bits. -/
def stepK : Nat → Nat → Nat
  | 0, r => r
  | k + 1, r => stepK k (step1 r)

theorem xor_half (a b : Nat) : (a ^^^ b) / 2 = (a / 2) ^^^ (b / 2) := by
  apply Nat.eq_of_testBit_eq
  intro i
  simp [← Nat.testBit_succ]

theorem xor_odd (a b : Nat) : (a ^^^ b) % 2 = (a % 2 + b % 2) % 2 := by
  have h := Nat.testBit_xor a b 0
  rw [Nat.testBit_zero, Nat.testBit_zero, Nat.testBit_zero] at h
  have h2 := Nat.mod_two_eq_zero_or_one (a ^^^ b)
  rcases Nat.mod_two_eq_zero_or_one a with ha | ha <;> rcases Nat.mod_two_eq_zero_or_one b with hb | hb <;> rcases h2 with hc | hc <;> simp_all

theorem step1_xor (a b : Nat) : step1 (a ^^^ b) = step1 a ^^^ step1 b := by
  unfold step1
  rw [xor_half, xor_odd]
  rcases Nat.mod_two_eq_zero_or_one a with ha | ha <;> rcases Nat.mod_two_eq_zero_or_one b with hb | hb <;> simp [ha, hb]
  · rw [Nat.xor_assoc]
  · rw [Nat.xor_assoc, Nat.xor_comm (b / 2), ← Nat.xor_assoc]
  · rw [Nat.xor_assoc, ← Nat.xor_assoc 3988292384, Nat.xor_comm 3988292384 (b / 2), Nat.xor_assoc, Nat.xor_self, Nat.xor_zero]

theorem stepK_xor (k : Nat) : ∀ a b, stepK k (a ^^^ b) = stepK k a ^^^ stepK k b := by
  induction k with
  | zero => intro a b; rfl
  | succ k ih => intro a b; simp only [stepK]; rw [step1_xor, ih]

theorem step1_two (q b : Nat) (hb : b < 2) : step1 (2 * q + b) = q ^^^ step1 b := by
  unfold step1
  have h1 : (2 * q + b) / 2 = q := by omega
  have h2 : (2 * q + b) % 2 = b := by omega
  rw [h1, h2]
  rcases Nat.lt_or_ge b 1 with h | h
  · have : b = 0 := by omega
    subst this; simp
  · have : b = 1 := by omega
    subst this; simp

theorem stepK_split (k : Nat) : ∀ q c, c < 2 ^ k → stepK k (2 ^ k * q + c) = q ^^^ stepK k c := by
  induction k with
  | zero => intro q c hc; simp at hc; subst hc; simp [stepK]
  | succ k ih =>
    intro q c hc
    have e : 2 ^ (k + 1) = 2 * 2 ^ k := by rw [Nat.pow_succ, Nat.mul_comm]
    have h1 : 2 ^ (k + 1) * q + c = 2 * (2 ^ k * q + c / 2) + c % 2 := by rw [e, Nat.mul_assoc]; omega
    have h2 : stepK (k + 1) c = stepK k (c / 2 ^^^ step1 (c % 2)) := by
      rw [stepK, ← step1_two (c / 2) (c % 2) (by omega)]
      congr 2
      omega
    rw [h1, stepK, step1_two _ _ (by omega), stepK_xor, ih q (c / 2) (by rw [e] at hc; omega), h2, stepK_xor, Nat.xor_assoc]

/-- What four bits come to. -/
def tab (c : Nat) : Nat := stepK 4 c

theorem step4 (r : Nat) : stepK 4 r = (r / 16) ^^^ tab (r % 16) := by
  have := stepK_split 4 (r / 16) (r % 16) (by omega)
  rw [show 2 ^ 4 * (r / 16) + r % 16 = r by omega] at this
  exact this

theorem stepK_add (a : Nat) : ∀ b r, stepK (a + b) r = stepK b (stepK a r) := by
  induction a with
  | zero => intro b r; simp [stepK]
  | succ a ih => intro b r; rw [show a + 1 + b = (a + b) + 1 by omega, stepK, stepK, ih]

/-- A byte. -/
def stepB (r : Nat) (b : UInt8) : Nat := stepK 8 (r ^^^ b.toNat)

theorem stepB_two (r : Nat) (b : UInt8) : stepB r b = stepK 4 (stepK 4 (r ^^^ b.toNat)) := by
  unfold stepB; rw [← stepK_add 4 4]

def crcFrom (r : Nat) (l : List UInt8) : Nat := l.foldl stepB r
def sumL (l : List UInt8) : Nat := 4294967295 - crcFrom 4294967295 l

theorem crcFrom_append (r : Nat) (a b : List UInt8) : crcFrom r (a ++ b) = crcFrom (crcFrom r a) b := by simp [crcFrom, List.foldl_append]
theorem crcFrom_cons (r : Nat) (c : UInt8) (l : List UInt8) : crcFrom r (c :: l) = crcFrom (stepB r c) l := rfl

theorem step1_lt {r : Nat} (h : r < 4294967296) : step1 r < 4294967296 := by
  unfold step1
  split
  · exact Nat.xor_lt_two_pow (n := 32) (by omega) (by decide)
  · omega
theorem stepK_lt (k : Nat) : ∀ {r : Nat}, r < 4294967296 → stepK k r < 4294967296 := by
  induction k with
  | zero => intro r h; exact h
  | succ k ih => intro r h; exact ih (step1_lt h)
theorem xorByte_lt {r : Nat} (b : UInt8) (h : r < 4294967296) : r ^^^ b.toNat < 4294967296 := Nat.xor_lt_two_pow (n := 32) h (by have := b.toNat_lt; omega)
theorem stepB_lt {r : Nat} (b : UInt8) (h : r < 4294967296) : stepB r b < 4294967296 := stepK_lt 8 (xorByte_lt b h)
theorem crcFrom_lt (l : List UInt8) : ∀ {r : Nat}, r < 4294967296 → crcFrom r l < 4294967296 := by
  induction l with
  | nil => intro r h; exact h
  | cons c l ih => intro r h; exact ih (stepB_lt c h)
theorem sumL_lt (l : List UInt8) : sumL l < 4294967296 := by unfold sumL; omega

/-- The document's way, bit by bit: with the byte's bits yet to come put to what there is. -/
def bitR (b k : Nat) (r : Nat) : Nat := if (r ^^^ (b / 2 ^ k)) % 2 = 1 then (r / 2) ^^^ 3988292384 else r / 2

theorem bitR_step (b k r : Nat) : bitR b k r ^^^ (b / 2 ^ (k + 1)) = step1 (r ^^^ (b / 2 ^ k)) := by
  unfold bitR step1
  have h : b / 2 ^ (k + 1) = b / 2 ^ k / 2 := by rw [Nat.pow_succ, Nat.div_div_eq_div_mul]
  rw [xor_half, h]
  split
  · rw [Nat.xor_assoc, Nat.xor_comm 3988292384, ← Nat.xor_assoc]
  · rfl

/-- After k bits of the byte b. -/
def bitsR (b : Nat) : Nat → Nat → Nat
  | 0, r => r
  | k + 1, r => bitR b k (bitsR b k r)

theorem bitsR_eq (b r : Nat) : ∀ k, bitsR b k r ^^^ (b / 2 ^ k) = stepK k (r ^^^ b) := by
  intro k
  have gen : ∀ k x, stepK (k + 1) x = step1 (stepK k x) := by
    intro k
    induction k with
    | zero => intro x; rfl
    | succ k ih => intro x; rw [stepK, ih, stepK]
  induction k with
  | zero => simp [bitsR, stepK]
  | succ k ih => rw [bitsR, bitR_step, ih, gen]

theorem bitsR_byte (b : UInt8) (r : Nat) : bitsR b.toNat 8 r = stepB r b := by
  have h := bitsR_eq b.toNat r 8
  rw [show b.toNat / 2 ^ 8 = 0 by have := b.toNat_lt; omega, Nat.xor_zero] at h
  exact h

/-! Another byte gives another sum. -/
theorem step1_top {r : Nat} (h : r < 4294967296) : step1 r / 2147483648 = r % 2 := by
  unfold step1
  have hd : ∀ a b : Nat, (a ^^^ b) / 2147483648 = (a / 2147483648) ^^^ (b / 2147483648) := by
    intro a b
    have e : (2147483648 : Nat) = 2 ^ 31 := by decide
    rw [e]
    simp only [← Nat.shiftRight_eq_div_pow]
    exact Nat.shiftRight_xor_distrib
  split
  · rename_i ho
    rw [hd, show r / 2 / 2147483648 = 0 by omega, show (3988292384 : Nat) / 2147483648 = 1 by decide, ho]
    rfl
  · omega

theorem step1_inj {a b : Nat} (ha : a < 4294967296) (hb : b < 4294967296) (h : step1 a = step1 b) : a = b := by
  have t := step1_top ha
  rw [h, step1_top hb] at t
  unfold step1 at h
  rw [t] at h
  have hh : a / 2 = b / 2 := by
    split at h
    · have := congrArg (· ^^^ 3988292384) h
      simpa [Nat.xor_assoc] using this
    · exact h
  omega

theorem stepK_inj (k : Nat) : ∀ {a b : Nat}, a < 4294967296 → b < 4294967296 → stepK k a = stepK k b → a = b := by
  induction k with
  | zero => intro a b _ _ h; exact h
  | succ k ih => intro a b ha hb h; exact step1_inj ha hb (ih (step1_lt ha) (step1_lt hb) h)

theorem xor_right_inj {a b c : Nat} (h : a ^^^ c = b ^^^ c) : a = b := by
  have := congrArg (· ^^^ c) h
  simpa [Nat.xor_assoc] using this
theorem xor_left_inj {a b c : Nat} (h : c ^^^ a = c ^^^ b) : a = b := by
  rw [Nat.xor_comm c a, Nat.xor_comm c b] at h
  exact xor_right_inj h

theorem crcFrom_inj (l : List UInt8) : ∀ {a b : Nat}, a < 4294967296 → b < 4294967296 → crcFrom a l = crcFrom b l → a = b := by
  induction l with
  | nil => intro a b _ _ h; exact h
  | cons c l ih =>
    intro a b ha hb h
    have := ih (stepB_lt c ha) (stepB_lt c hb) h
    exact xor_right_inj (stepK_inj 8 (xorByte_lt c ha) (xorByte_lt c hb) this)

/-- Bytes that part in one place have other sums. -/
theorem sumL_turned (p q : List UInt8) (x y : UInt8) (h : x ≠ y) : sumL (p ++ x :: q) ≠ sumL (p ++ y :: q) := by
  intro he
  unfold sumL at he
  have h1 := crcFrom_lt (p ++ x :: q) (r := 4294967295) (by omega)
  have h2 := crcFrom_lt (p ++ y :: q) (r := 4294967295) (by omega)
  have h3 : crcFrom 4294967295 (p ++ x :: q) = crcFrom 4294967295 (p ++ y :: q) := by omega
  rw [crcFrom_append, crcFrom_append, crcFrom_cons, crcFrom_cons] at h3
  have hp := crcFrom_lt p (r := 4294967295) (by omega)
  have h4 := crcFrom_inj q (stepB_lt x hp) (stepB_lt y hp) h3
  have h5 := stepK_inj 8 (xorByte_lt x hp) (xorByte_lt y hp) h4
  exact h (UInt8.toNat_inj.1 (xor_left_inj h5))
end Go.Proofs.Crc
