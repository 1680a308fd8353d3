/-
  Numbers as few bytes, in plain mathematics: the bytes of a number, what bytes begin with, and that the two are each other's way back.
-/
namespace Go.Proofs.Num

/-- A number's bytes: seven bits a byte, the lowest first; f bounds how many. -/
def putF : Nat → Nat → List UInt8
  | 0, n => [UInt8.ofNat n]
  | f + 1, n => if n < 128 then [UInt8.ofNat n] else UInt8.ofNat (n % 128 + 128) :: putF f (n / 128)

/-- A number's bytes. -/
def putL (n : Nat) : List UInt8 := putF n n

theorem putF_enough : ∀ (f g n : Nat), n ≤ f → n ≤ g → putF f n = putF g n := by
  intro f
  induction f with
  | zero =>
    intro g n hf hg
    have : n = 0 := by omega
    subst this
    cases g <;> simp [putF]
  | succ f ih =>
    intro g n hf hg
    cases g with
    | zero =>
      have : n = 0 := by omega
      subst this
      simp [putF]
    | succ g =>
      simp only [putF]
      by_cases h : n < 128
      · simp [h]
      · rw [if_neg h, if_neg h, ih g (n / 128) (by omega) (by omega)]

/-- What a list of bytes begins with, read from place i on with n read so far: the number, how many bytes it has, the error's number. -/
def scanFrom : List UInt8 → Nat → Nat → Nat × Nat × Nat
  | [], _, _ => (0, 0, 5)
  | b :: r, i, n =>
    if i = 9 ∧ 1 < b.toNat then (0, 0, 7)
    else if 128 ≤ b.toNat then scanFrom r (i + 1) (n + b.toNat % 128 * 2 ^ (7 * i))
    else if b.toNat = 0 ∧ 0 < i then (0, 0, 7)
    else (n + b.toNat % 128 * 2 ^ (7 * i), i + 1, 0)

def scanL (s : List UInt8) : Nat × Nat × Nat := scanFrom s 0 0

theorem putL_small {n : Nat} (h : n < 128) : putL n = [UInt8.ofNat n] := by
  unfold putL
  cases n with
  | zero => rfl
  | succ n => simp [putF, h]
theorem putL_big {n : Nat} (h : 128 ≤ n) : putL n = UInt8.ofNat (n % 128 + 128) :: putL (n / 128) := by
  unfold putL
  obtain ⟨m, rfl⟩ : ∃ m, n = m + 1 := ⟨n - 1, by omega⟩
  rw [putF, if_neg (by omega), putF_enough m ((m + 1) / 128) ((m + 1) / 128) (by omega) (by omega)]

theorem putL_pos (n : Nat) : 0 < (putL n).length := by
  by_cases h : n < 128
  · simp [putL_small h]
  · simp [putL_big (show 128 ≤ n by omega)]

/-- A number below 128^k has at most k bytes, and one from 128^k on has more. -/
theorem putL_len (k : Nat) : ∀ n, (putL n).length ≤ k + 1 ↔ n < 2 ^ (7 * (k + 1)) := by
  induction k with
  | zero =>
    intro n
    by_cases h : n < 128
    · simp [putL_small h, h]
    · have := putL_pos (n / 128)
      simp only [putL_big (show 128 ≤ n by omega), List.length_cons]
      constructor
      · intro h'; omega
      · intro h'; exact absurd h' h
  | succ k ih =>
    intro n
    have e : 2 ^ (7 * (k + 1 + 1)) = 128 * 2 ^ (7 * (k + 1)) := by rw [show 7 * (k + 1 + 1) = 7 + 7 * (k + 1) by omega, Nat.pow_add]
    by_cases h : n < 128
    · have hp : 0 < 2 ^ (7 * (k + 1)) := Nat.two_pow_pos _
      simp only [putL_small h, List.length_cons, List.length_nil]
      constructor
      · intro _; omega
      · intro _; omega
    · have := ih (n / 128)
      simp only [putL_big (show 128 ≤ n by omega), List.length_cons]
      rw [e]
      constructor
      · intro h'; have := this.1 (by omega); omega
      · intro h'; have := this.2 (by omega); omega

theorem putL_len10 {n : Nat} (h : n < 18446744073709551616) : (putL n).length ≤ 10 := by
  have := (putL_len 9 n).2 (Nat.lt_of_lt_of_le h (by decide))
  omega

/-- What is put is scanned, whatever stands behind it. -/
theorem scanFrom_put (r : List UInt8) : ∀ (m i n : Nat), i ≤ 9 → m * 2 ^ (7 * i) + n < 18446744073709551616 → (0 < m ∨ i = 0) →
    scanFrom (putL m ++ r) i n = (n + m * 2 ^ (7 * i), i + (putL m).length, 0) := by
  intro m
  induction m using Nat.strongRecOn with
  | _ m ih =>
    intro i n hi hm hz
    have e9 : i = 9 → m ≤ 1 := by
      intro h; subst h
      have : (2 : Nat) ^ (7 * 9) = 9223372036854775808 := by decide
      rw [this] at hm; omega
    by_cases h : m < 128
    · rw [putL_small h]
      have ht : (UInt8.ofNat m).toNat = m := by simp [Nat.mod_eq_of_lt (show m < 256 by omega)]
      simp only [List.cons_append, List.nil_append, scanFrom, ht, List.length_cons, List.length_nil]
      rw [if_neg (by intro hh; have := e9 hh.1; omega), if_neg (by omega), if_neg (by omega), Nat.mod_eq_of_lt h]
    · have hb : 128 ≤ m := by omega
      rw [putL_big hb]
      have ht : (UInt8.ofNat (m % 128 + 128)).toNat = m % 128 + 128 := by simp [Nat.mod_eq_of_lt (show m % 128 + 128 < 256 by omega)]
      simp only [List.cons_append, scanFrom, ht, List.length_cons]
      have hi9 : i ≠ 9 := by intro hh; have := e9 hh; omega
      rw [if_neg (by intro hh; exact hi9 hh.1), if_pos (by omega)]
      have e : 2 ^ (7 * (i + 1)) = 128 * 2 ^ (7 * i) := by rw [show 7 * (i + 1) = 7 + 7 * i by omega, Nat.pow_add]
      have em : m / 128 * (128 * 2 ^ (7 * i)) + m % 128 * 2 ^ (7 * i) = m * 2 ^ (7 * i) := by
        rw [← Nat.mul_assoc, ← Nat.add_mul]
        congr 1
        omega
      have emod : (m % 128 + 128) % 128 = m % 128 := by omega
      rw [emod, ih (m / 128) (by omega) (i + 1) _ (by omega) (by rw [e]; omega) (by omega), e]
      simp only [Prod.mk.injEq, and_true]
      exact ⟨by omega, by omega⟩

theorem scanL_put (n : Nat) (r : List UInt8) (h : n < 18446744073709551616) : scanL (putL n ++ r) = (n, (putL n).length, 0) := by
  have := scanFrom_put r n 0 0 (by omega) (by simpa using h) (Or.inr rfl)
  simpa [scanL] using this

/-- What is scanned well has its bytes. -/
theorem scanFrom_ok : ∀ (s : List UInt8) (i n m k : Nat), i ≤ 9 → n < 2 ^ (7 * i) → scanFrom s i n = (m, k, 0) →
    ∃ q r, m = n + q * 2 ^ (7 * i) ∧ s = putL q ++ r ∧ k = i + (putL q).length ∧ m < 18446744073709551616 ∧ k ≤ 10 ∧ (0 < q ∨ i = 0) := by
  intro s
  induction s with
  | nil => intro i n m k _ _ h; simp [scanFrom] at h
  | cons b r ih =>
    intro i n m k hi hn h
    have hb : b.toNat < 256 := b.toNat_lt
    have e : 2 ^ (7 * (i + 1)) = 128 * 2 ^ (7 * i) := by rw [show 7 * (i + 1) = 7 + 7 * i by omega, Nat.pow_add]
    have hp : 2 ^ (7 * i) ≤ 2 ^ (7 * 9) := Nat.pow_le_pow_right (by decide) (by omega)
    have h63 : (2 : Nat) ^ (7 * 9) = 9223372036854775808 := by decide
    simp only [scanFrom] at h
    by_cases h9 : i = 9 ∧ 1 < b.toNat
    · simp [h9] at h
    · rw [if_neg h9] at h
      by_cases h128 : 128 ≤ b.toNat
      · rw [if_pos h128] at h
        have hi8 : i ≤ 8 := by
          rcases Nat.lt_or_ge i 9 with h' | h'
          · omega
          · exact absurd ⟨by omega, by omega⟩ h9
        have hmul : b.toNat % 128 * 2 ^ (7 * i) ≤ 127 * 2 ^ (7 * i) := Nat.mul_le_mul_right _ (by omega)
        obtain ⟨q, r', hm, hr, hk, hlt, hk10, hq⟩ := ih (i + 1) _ m k (by omega) (by rw [e]; omega) h
        have hq0 : 0 < q := by omega
        refine ⟨b.toNat % 128 + 128 * q, r', ?_, ?_, ?_, hlt, hk10, by omega⟩
        · rw [hm, e, Nat.add_mul, show 128 * q * 2 ^ (7 * i) = q * (128 * 2 ^ (7 * i)) by rw [Nat.mul_comm 128 q, Nat.mul_assoc]]
          omega
        · rw [putL_big (show 128 ≤ b.toNat % 128 + 128 * q by omega), show (b.toNat % 128 + 128 * q) % 128 + 128 = b.toNat by omega, show (b.toNat % 128 + 128 * q) / 128 = q by omega, hr]
          simp
        · rw [putL_big (show 128 ≤ b.toNat % 128 + 128 * q by omega), show (b.toNat % 128 + 128 * q) / 128 = q by omega, hk]
          simp; omega
      · rw [if_neg h128] at h
        by_cases hz : b.toNat = 0 ∧ 0 < i
        · simp [hz] at h
        · rw [if_neg hz] at h
          simp only [Prod.mk.injEq] at h
          obtain ⟨hm, hk, _⟩ := h
          have hbm : b.toNat % 128 = b.toNat := Nat.mod_eq_of_lt (by omega)
          rw [hbm] at hm
          refine ⟨b.toNat, r, hm.symm, ?_, ?_, ?_, by omega, by omega⟩
          · rw [putL_small (by omega)]; simp
          · rw [putL_small (by omega)]; simp; omega
          · rcases Nat.lt_or_ge i 9 with h' | h'
            · have hp8 : 2 ^ (7 * i) ≤ 2 ^ (7 * 8) := Nat.pow_le_pow_right (by decide) (by omega)
              have h56 : (2 : Nat) ^ (7 * 8) = 72057594037927936 := by decide
              have hmul : b.toNat * 2 ^ (7 * i) ≤ 127 * 2 ^ (7 * i) := Nat.mul_le_mul_right _ (by omega)
              omega
            · have hi9 : i = 9 := by omega
              have hb1 : b.toNat ≤ 1 := by
                rcases Nat.lt_or_ge 1 b.toNat with h'' | h''
                · exact absurd ⟨hi9, h''⟩ h9
                · exact h''
              have hmul : b.toNat * 2 ^ (7 * i) ≤ 1 * 2 ^ (7 * i) := Nat.mul_le_mul_right _ hb1
              omega

theorem scanL_ok {s : List UInt8} {m k : Nat} (h : scanL s = (m, k, 0)) : s = putL m ++ s.drop k ∧ k = (putL m).length ∧ m < 18446744073709551616 ∧ k ≤ 10 := by
  obtain ⟨q, r, hm, hr, hk, hlt, hk10, _⟩ := scanFrom_ok s 0 0 m k (by omega) (by simp) h
  have : m = q := by simpa using hm
  subst this
  have hk' : k = (putL m).length := by omega
  refine ⟨?_, hk', hlt, hk10⟩
  rw [hk', hr]
  simp

/-- With an error nothing else is told. -/
theorem scanFrom_no : ∀ (s : List UInt8) (i n : Nat), (scanFrom s i n).2.2 = 0 ∨ scanFrom s i n = (0, 0, 5) ∨ scanFrom s i n = (0, 0, 7) := by
  intro s
  induction s with
  | nil => intro i n; right; left; rfl
  | cons b r ih =>
    intro i n
    simp only [scanFrom]
    split
    · right; right; rfl
    · split
      · exact ih _ _
      · split
        · right; right; rfl
        · left; rfl

theorem scanL_no (s : List UInt8) : (scanL s).2.2 = 0 ∨ scanL s = (0, 0, 5) ∨ scanL s = (0, 0, 7) := scanFrom_no s 0 0
theorem scanL_le (s : List UInt8) : (scanL s).2.1 ≤ s.length ∧ (scanL s).2.1 ≤ 10 ∧ (scanL s).1 < 18446744073709551616 := by
  rcases scanL_no s with h | h | h
  · obtain ⟨m, k, hmk⟩ : ∃ m k, scanL s = (m, k, 0) := ⟨(scanL s).1, (scanL s).2.1, by rw [← h]⟩
    have := scanL_ok hmk
    rw [hmk]
    refine ⟨?_, this.2.2.2, this.2.2.1⟩
    have hl := congrArg List.length this.1
    simp at hl
    have := putL_pos m
    simp only
    omega
  · rw [h]; simp
  · rw [h]; simp
end Go.Proofs.Num

/-
  Dictionaries in plain mathematics: their bytes, what bytes begin with, and that the two are each other's way back.
-/
set_option linter.unusedVariables false
namespace Go.Proofs.Dct
open Go.Proofs.Num

/-- An entry: its key and its data. -/
abbrev EntL := Nat × List UInt8
def szE (e : EntL) : Nat × Nat := (e.1, e.2.length)
/-- The bytes of entries without their data. -/
def heads : Nat → List (Nat × Nat) → List UInt8
  | _, [] => []
  | least, (k, n) :: r => putL (k - least) ++ (putL n ++ heads (k + 1) r)
def datas (l : List EntL) : List UInt8 := l.flatMap (·.2)
/-- Whether keys rise, from one on. -/
def rises : Nat → List Nat → Bool
  | _, [] => true
  | least, k :: r => decide (least ≤ k) && rises (k + 1) r
def keysE (l : List EntL) : List Nat := l.map (·.1)
def writeD (l : List EntL) : List UInt8 × Nat :=
  if rises 0 (keysE l) = true then if l.length ≤ 65536 then (putL l.length ++ (heads 0 (l.map szE) ++ datas l), 0) else ([], 15) else ([], 12)

/-- Reading the entries without their data. -/
def readHF (s : List UInt8) : Nat → List (Nat × Nat) → Nat → Nat → Except Nat (List (Nat × Nat) × Nat)
  | 0, acc, _, p => .ok (acc, p)
  | c + 1, acc, least, p =>
    if (scanL (s.drop p)).2.2 ≠ 0 then .error (scanL (s.drop p)).2.2
    else if 18446744073709551615 < least + (scanL (s.drop p)).1 then .error 7
    else if (scanL (s.drop (p + (scanL (s.drop p)).2.1))).2.2 ≠ 0 then .error (scanL (s.drop (p + (scanL (s.drop p)).2.1))).2.2
    else readHF s c (acc ++ [(least + (scanL (s.drop p)).1, (scanL (s.drop (p + (scanL (s.drop p)).2.1))).1)]) (least + (scanL (s.drop p)).1 + 1) (p + (scanL (s.drop p)).2.1 + (scanL (s.drop (p + (scanL (s.drop p)).2.1))).2.1)
/-- Reading the data. -/
def readTF (s : List UInt8) : List (Nat × Nat) → List EntL → Nat → Option (List EntL × Nat)
  | [], acc, p => some (acc, p)
  | (k, n) :: r, acc, p => if s.length - p < n then none else readTF s r (acc ++ [(k, (s.drop p).take n)]) (p + n)
def readE (s : List UInt8) : Except Nat (List (Nat × Nat) × Nat) :=
  if (scanL s).2.2 ≠ 0 then .error (scanL s).2.2 else if 65536 < (scanL s).1 then .error 15 else readHF s (scanL s).1 [] 0 (scanL s).2.1
def readD (s : List UInt8) : Except Nat (List EntL × Nat) :=
  match readE s with
  | .error e => .error e
  | .ok (hs, p) => match readTF s hs [] p with
    | none => .error 5
    | some x => .ok x

theorem readHF_err1 {s : List UInt8} {c m z e least p : Nat} {acc : List (Nat × Nat)} (h : scanL (s.drop p) = (m, z, e)) (he : e ≠ 0) : readHF s (c + 1) acc least p = .error e := by
  rw [readHF, h, if_pos he]
theorem readHF_code {s : List UInt8} {c m z least p : Nat} {acc : List (Nat × Nat)} (h : scanL (s.drop p) = (m, z, 0)) (he : 18446744073709551615 < least + m) : readHF s (c + 1) acc least p = .error 7 := by
  rw [readHF, h, if_neg (by simp), if_pos he]
theorem readHF_err2 {s : List UInt8} {c m z n z2 e least p : Nat} {acc : List (Nat × Nat)} (h : scanL (s.drop p) = (m, z, 0)) (hl : ¬ 18446744073709551615 < least + m) (h2 : scanL (s.drop (p + z)) = (n, z2, e)) (he : e ≠ 0) : readHF s (c + 1) acc least p = .error e := by
  rw [readHF, h, if_neg (by simp), if_neg hl]
  simp only [h2]
  rw [if_pos he]
theorem readHF_step {s : List UInt8} {c m z n z2 least p : Nat} {acc : List (Nat × Nat)} (h : scanL (s.drop p) = (m, z, 0)) (hl : ¬ 18446744073709551615 < least + m) (h2 : scanL (s.drop (p + z)) = (n, z2, 0)) : readHF s (c + 1) acc least p = readHF s c (acc ++ [(least + m, n)]) (least + m + 1) (p + z + z2) := by
  rw [readHF, h, if_neg (by simp), if_neg hl]
  simp only [h2]
  rw [if_neg (by simp)]

theorem scan_take : ∀ (s : List UInt8) (i n : Nat), i ≤ 9 → scanFrom (s.take (10 - i)) i n = scanFrom s i n := by
  intro s
  induction s with
  | nil => intro i n _; simp
  | cons b r ih =>
    intro i n hi
    obtain ⟨k, hk⟩ : ∃ k, 10 - i = k + 1 := ⟨9 - i, by omega⟩
    rw [hk, List.take_succ_cons]
    simp only [scanFrom]
    by_cases h9 : i = 9 ∧ 1 < b.toNat
    · rw [if_pos h9, if_pos h9]
    · rw [if_neg h9, if_neg h9]
      by_cases h128 : 128 ≤ b.toNat
      · rw [if_pos h128, if_pos h128]
        have hi8 : i ≤ 8 := by
          rcases Nat.lt_or_ge i 9 with h' | h'
          · omega
          · exact absurd ⟨by omega, by omega⟩ h9
        have := ih (i + 1) (n + b.toNat % 128 * 2 ^ (7 * i)) (by omega)
        rw [show 10 - (i + 1) = k by omega] at this
        exact this
      · rw [if_neg h128, if_neg h128]
/-- Ten bytes tell all. -/
theorem scanL_take (s : List UInt8) : scanL (s.take 10) = scanL s := scan_take s 0 0 (by omega)

theorem heads_append_len (least : Nat) : ∀ l : List (Nat × Nat), (∀ p ∈ l, p.1 ≤ 18446744073709551615 ∧ p.2 ≤ 18446744073709551615) → (heads least l).length ≤ 20 * l.length := by
  intro l
  induction l generalizing least with
  | nil => intro _; simp [heads]
  | cons p r ih =>
    intro h
    obtain ⟨k, n⟩ := p
    have h1 := h (k, n) (by simp)
    have h2 := ih (k + 1) (fun q hq => h q (by simp [hq]))
    have h3 := putL_len10 (n := k - least) (by have := h1.1; simp only at this; omega)
    have h4 := putL_len10 (n := n) (by have := h1.2; simp only at this; omega)
    simp only [heads, List.length_append, List.length_cons]
    omega

theorem readHF_heads (post : List UInt8) : ∀ (l : List (Nat × Nat)) (least : Nat) (acc : List (Nat × Nat)) (pre : List UInt8), rises least (l.map (·.1)) = true → (∀ p ∈ l, p.1 ≤ 18446744073709551615 ∧ p.2 ≤ 18446744073709551615) →
    readHF (pre ++ (heads least l ++ post)) l.length acc least pre.length = .ok (acc ++ l, pre.length + (heads least l).length) := by
  intro l
  induction l with
  | nil => intro least acc pre _ _; simp [readHF, heads]
  | cons p r ih =>
    intro least acc pre hr hb
    obtain ⟨k, n⟩ := p
    simp only [List.map_cons, rises, Bool.and_eq_true, decide_eq_true_eq] at hr
    have hkn := hb (k, n) (by simp)
    simp only at hkn
    have e1 : (pre ++ (heads least ((k, n) :: r) ++ post)).drop pre.length = putL (k - least) ++ (putL n ++ heads (k + 1) r ++ post) := by
      rw [List.drop_left]; simp [heads]
    have e2 : (pre ++ (heads least ((k, n) :: r) ++ post)).drop (pre.length + (putL (k - least)).length) = putL n ++ (heads (k + 1) r ++ post) := by
      rw [← List.drop_drop, e1, List.drop_left]; simp
    have s1 := scanL_put (k - least) (putL n ++ heads (k + 1) r ++ post) (by omega)
    have s2 := scanL_put n (heads (k + 1) r ++ post) (by omega)
    rw [← e1] at s1
    rw [← e2] at s2
    rw [List.length_cons, readHF_step s1 (by omega) s2, show least + (k - least) = k by omega]
    have e3 : pre ++ (heads least ((k, n) :: r) ++ post) = (pre ++ putL (k - least) ++ putL n) ++ (heads (k + 1) r ++ post) := by simp [heads]
    rw [e3]
    have := ih (k + 1) (acc ++ [(k, n)]) (pre ++ putL (k - least) ++ putL n) hr.2 (fun q hq => hb q (by simp [hq]))
    rw [show pre.length + (putL (k - least)).length + (putL n).length = (pre ++ putL (k - least) ++ putL n).length by simp; omega, this]
    simp [heads]
    omega

theorem datas_cons (e : EntL) (l : List EntL) : datas (e :: l) = e.2 ++ datas l := by simp [datas]
theorem readTF_datas (post : List UInt8) : ∀ (l acc : List EntL) (pre : List UInt8), readTF (pre ++ (datas l ++ post)) (l.map szE) acc pre.length = some (acc ++ l, pre.length + (datas l).length) := by
  intro l
  induction l with
  | nil => intro acc pre; simp [readTF, datas]
  | cons e r ih =>
    intro acc pre
    obtain ⟨k, d⟩ := e
    simp only [List.map_cons, szE, readTF]
    rw [if_neg (by simp [datas_cons])]
    have e1 : ((pre ++ (datas ((k, d) :: r) ++ post)).drop pre.length).take d.length = d := by
      rw [List.drop_left, datas_cons]; simp
    have e3 : pre ++ (datas ((k, d) :: r) ++ post) = (pre ++ d) ++ (datas r ++ post) := by simp [datas_cons]
    rw [e1, e3]
    have := ih (acc ++ [(k, d)]) (pre ++ d)
    simp only [List.length_append] at this
    rw [this, datas_cons]
    simp
    omega

/-- Entries such as a program can hold. -/
def FitL (l : List EntL) : Prop := ∀ e ∈ l, e.1 ≤ 18446744073709551615 ∧ e.2.length ≤ 18446744073709551615
theorem fit_sz {l : List EntL} (h : FitL l) : ∀ p ∈ l.map szE, p.1 ≤ 18446744073709551615 ∧ p.2 ≤ 18446744073709551615 := by
  intro p hp
  obtain ⟨e, he, rfl⟩ := List.mem_map.1 hp
  exact h e he
theorem keys_sz (l : List EntL) : (l.map szE).map (·.1) = keysE l := by simp [keysE, szE]

theorem write_ok {l : List EntL} {t : List UInt8} (h : writeD l = (t, 0)) : rises 0 (keysE l) = true ∧ l.length ≤ 65536 ∧ t = putL l.length ++ (heads 0 (l.map szE) ++ datas l) := by
  unfold writeD at h
  split at h
  · rename_i h1
    split at h
    · rename_i h2
      exact ⟨h1, h2, (Prod.mk.inj h).1.symm⟩
    · have := (Prod.mk.inj h).2; omega
  · have := (Prod.mk.inj h).2; omega
theorem write_no {l : List EntL} {t : List UInt8} {c : Nat} (h : writeD l = (t, c)) (hc : c ≠ 0) : t = [] := by
  unfold writeD at h
  split at h
  · split at h
    · have := (Prod.mk.inj h).2; omega
    · exact (Prod.mk.inj h).1.symm
  · exact (Prod.mk.inj h).1.symm

/-- What is written is read, whatever stands behind it. -/
theorem read_written {l : List EntL} {t : List UInt8} (s : List UInt8) (hf : FitL l) (h : writeD l = (t, 0)) : readD (t ++ s) = .ok (l, t.length) := by
  obtain ⟨h1, h2, rfl⟩ := write_ok h
  have e0 : putL l.length ++ (heads 0 (l.map szE) ++ datas l) ++ s = putL l.length ++ (heads 0 (l.map szE) ++ (datas l ++ s)) := by simp
  have hs := scanL_put l.length (heads 0 (l.map szE) ++ (datas l ++ s)) (by omega)
  have hh := readHF_heads (datas l ++ s) (l.map szE) 0 [] (putL l.length) (by rw [keys_sz]; exact h1) (fit_sz hf)
  have hE : readE (putL l.length ++ (heads 0 (l.map szE) ++ (datas l ++ s))) = .ok (l.map szE, (putL l.length).length + (heads 0 (l.map szE)).length) := by
    unfold readE
    rw [hs, if_neg (by simp), if_neg (by simp only; omega)]
    rw [List.length_map] at hh
    simpa using hh
  unfold readD
  rw [e0, hE]
  simp only
  have e1 : putL l.length ++ (heads 0 (l.map szE) ++ (datas l ++ s)) = (putL l.length ++ heads 0 (l.map szE)) ++ (datas l ++ s) := by simp
  have ht := readTF_datas s l [] (putL l.length ++ heads 0 (l.map szE))
  rw [List.length_append] at ht
  rw [e1, ht]
  simp
  omega

theorem rises_mono : ∀ (l : List Nat) (a b : Nat), a ≤ b → rises b l = true → rises a l = true := by
  intro l a b h
  cases l with
  | nil => simp [rises]
  | cons k r => simp only [rises, Bool.and_eq_true, decide_eq_true_eq]; rintro ⟨h1, h2⟩; exact ⟨by omega, h2⟩

theorem drop_scan {s : List UInt8} {p m z : Nat} (h : scanL (s.drop p) = (m, z, 0)) : s.drop p = putL m ++ s.drop (p + z) ∧ m ≤ 18446744073709551615 ∧ p + z ≤ s.length ∧ 1 ≤ z := by
  obtain ⟨h1, h2, h3, _⟩ := scanL_ok h
  rw [List.drop_drop] at h1
  have hl := congrArg List.length h1
  have hp := putL_pos m
  simp only [List.length_append, List.length_drop] at hl
  exact ⟨h1, by omega, by omega, by omega⟩

theorem readHF_ok (s : List UInt8) : ∀ (c : Nat) (acc : List (Nat × Nat)) (least p : Nat) (h : List (Nat × Nat)) (q : Nat), p ≤ s.length → readHF s c acc least p = .ok (h, q) →
    ∃ hs, h = acc ++ hs ∧ hs.length = c ∧ rises least (hs.map (·.1)) = true ∧ (∀ x ∈ hs, x.1 ≤ 18446744073709551615 ∧ x.2 ≤ 18446744073709551615) ∧ s.drop p = heads least hs ++ s.drop q ∧ q ≤ s.length ∧ p + 2 * c ≤ q := by
  intro c
  induction c with
  | zero =>
    intro acc least p h q hp he
    simp only [readHF, Except.ok.injEq, Prod.mk.injEq] at he
    obtain ⟨rfl, rfl⟩ := he
    exact ⟨[], by simp, rfl, rfl, by simp, by simp [heads], hp, by omega⟩
  | succ c ih =>
    intro acc least p h q hp he
    obtain ⟨m, z, e, h1⟩ : ∃ m z e, scanL (s.drop p) = (m, z, e) := ⟨_, _, _, rfl⟩
    by_cases he0 : e = 0
    · subst he0
      by_cases hl : 18446744073709551615 < least + m
      · rw [readHF_code h1 hl] at he; cases he
      · obtain ⟨n, z2, e2, h2⟩ : ∃ n z2 e2, scanL (s.drop (p + z)) = (n, z2, e2) := ⟨_, _, _, rfl⟩
        by_cases he2 : e2 = 0
        · subst he2
          rw [readHF_step h1 hl h2] at he
          obtain ⟨a1, a2, a3, a4⟩ := drop_scan h1
          obtain ⟨b1, b2, b3, b4⟩ := drop_scan h2
          obtain ⟨hs, r1, r2, r3, r4, r5, r6, r7⟩ := ih _ _ _ h q b3 he
          refine ⟨(least + m, n) :: hs, by rw [r1]; simp, by simp [r2], ?_, ?_, ?_, r6, by omega⟩
          · simp only [List.map_cons, rises, r3, Bool.and_true, decide_eq_true_eq]; omega
          · intro x hx
            rcases List.mem_cons.1 hx with rfl | hx
            · exact ⟨by simp only; omega, b2⟩
            · exact r4 x hx
          · rw [a1, b1, r5]
            simp [heads]
        · rw [readHF_err2 h1 hl h2 he2] at he; cases he
    · rw [readHF_err1 h1 he0] at he; cases he

theorem readTF_ok (s : List UInt8) : ∀ (hs : List (Nat × Nat)) (acc : List EntL) (p : Nat) (l : List EntL) (q : Nat), p ≤ s.length → readTF s hs acc p = some (l, q) →
    ∃ es, l = acc ++ es ∧ es.map szE = hs ∧ s.drop p = datas es ++ s.drop q ∧ q ≤ s.length ∧ q = p + (datas es).length := by
  intro hs
  induction hs with
  | nil =>
    intro acc p l q hp he
    simp only [readTF, Option.some.injEq, Prod.mk.injEq] at he
    obtain ⟨rfl, rfl⟩ := he
    exact ⟨[], by simp, rfl, by simp [datas], hp, by simp [datas]⟩
  | cons x r ih =>
    intro acc p l q hp he
    obtain ⟨k, n⟩ := x
    simp only [readTF] at he
    split at he
    · cases he
    · rename_i hn
      obtain ⟨es, r1, r2, r3, r4, r5⟩ := ih _ _ l q (by omega) he
      have hl : ((s.drop p).take n).length = n := by rw [List.length_take, List.length_drop]; omega
      refine ⟨(k, (s.drop p).take n) :: es, by rw [r1]; simp, by simp [szE, r2, hl], ?_, r4, ?_⟩
      · rw [datas_cons, List.append_assoc, ← r3, ← List.drop_drop]
        exact (List.take_append_drop n (s.drop p)).symm
      · rw [datas_cons, List.length_append, r5]
        simp only [hl]
        omega

theorem readE_ok {s : List UInt8} {hs : List (Nat × Nat)} {p : Nat} (h : readE s = .ok (hs, p)) : hs.length ≤ 65536 ∧ rises 0 (hs.map (·.1)) = true ∧ (∀ x ∈ hs, x.1 ≤ 18446744073709551615 ∧ x.2 ≤ 18446744073709551615) ∧ s = putL hs.length ++ (heads 0 hs ++ s.drop p) ∧ p ≤ s.length ∧ 2 * hs.length ≤ p := by
  unfold readE at h
  obtain ⟨m, z, e, h1⟩ : ∃ m z e, scanL s = (m, z, e) := ⟨_, _, _, rfl⟩
  rw [h1] at h
  by_cases he : e = 0
  · subst he
    rw [if_neg (by simp)] at h
    by_cases hm : 65536 < m
    · rw [if_pos hm] at h; cases h
    · rw [if_neg hm] at h
      have h1' : scanL (s.drop 0) = (m, z, 0) := by simpa using h1
      obtain ⟨a1, a2, a3, a4⟩ := drop_scan h1'
      rw [Nat.zero_add, List.drop_zero] at a1
      obtain ⟨hs', r1, r2, r3, r4, r5, r6, r7⟩ := readHF_ok s m [] 0 z hs p (by omega) h
      have : hs = hs' := by simpa using r1
      subst this
      refine ⟨by omega, r3, r4, ?_, r6, by omega⟩
      rw [r2, ← r5, ← a1]
  · rw [if_pos he] at h; cases h

/-- What is read is written with its bytes. -/
theorem read_ok {s : List UInt8} {l : List EntL} {q : Nat} (h : readD s = .ok (l, q)) : writeD l = (s.take q, 0) ∧ q ≤ s.length ∧ FitL l ∧ l.length ≤ 65536 ∧ (datas l).length ≤ s.length ∧ 2 * l.length ≤ s.length := by
  unfold readD at h
  split at h
  · cases h
  · rename_i hs p hE
    split at h
    · cases h
    · rename_i x hT
      simp only [Except.ok.injEq] at h
      subst h
      obtain ⟨a1, a2, a3, a4, a5, a6⟩ := readE_ok hE
      obtain ⟨es, r1, r2, r3, r4, r5⟩ := readTF_ok s hs [] p l q a5 hT
      have : l = es := by simpa using r1
      subst this
      subst r2
      rw [List.length_map] at a1 a4 a6
      rw [keys_sz] at a2
      have hw : writeD l = (putL l.length ++ (heads 0 (l.map szE) ++ datas l), 0) := by
        unfold writeD; rw [if_pos a2, if_pos a1]
      have hfull : s = (putL l.length ++ (heads 0 (l.map szE) ++ datas l)) ++ s.drop q := by
        rw [List.append_assoc, List.append_assoc, ← r3]; exact a4
      refine ⟨?_, r4, ?_, a1, by omega, by omega⟩
      · rw [hw]
        have hlen := congrArg List.length hfull
        simp only [List.length_append, List.length_drop] at hlen
        have : (putL l.length ++ (heads 0 (l.map szE) ++ datas l)).length = q := by
          simp only [List.length_append]; omega
        congr 1
        have h2 := congrArg (List.take q) hfull
        rw [← this, List.take_left, this] at h2
        exact h2.symm
      · intro e he
        exact a3 (szE e) (List.mem_map_of_mem he)
theorem szE_fst (e : EntL) : (szE e).1 = e.1 := rfl
theorem readE_err_code {s : List UInt8} {e : Nat} (h : readE s = .error e) : e ≠ 0 := by
  unfold readE at h
  have go : ∀ (c : Nat) (acc : List (Nat × Nat)) (least p : Nat), readHF s c acc least p = .error e → e ≠ 0 := by
    intro c
    induction c with
    | zero => intro acc least p h; simp [readHF] at h
    | succ c ih =>
      intro acc least p h
      rw [readHF] at h
      split at h
      · rename_i h1; injection h with h; rw [← h]; exact h1
      · split at h
        · injection h with h; omega
        · split at h
          · rename_i h1; injection h with h; rw [← h]; exact h1
          · exact ih _ _ _ h
  split at h
  · rename_i h1; injection h with h; rw [← h]; exact h1
  · split at h
    · injection h with h; omega
    · exact go _ _ _ _ h
theorem readD_err_code {s : List UInt8} {e : Nat} (h : readD s = .error e) : e ≠ 0 := by
  unfold readD at h
  split at h
  · rename_i h1; injection h with h; subst h; exact readE_err_code h1
  · split at h
    · injection h with h; omega
    · cases h
end Go.Proofs.Dct

/-
  More of dictionaries in plain mathematics: keys that rise, place by place; bytes that are put together entry by entry.
-/
set_option linter.unusedVariables false
namespace Go.Proofs.Dct
open Go.Proofs.Num

theorem rises_iff : ∀ (ks : List Nat) (least : Nat), rises least ks = true ↔ (∀ h : 0 < ks.length, least ≤ ks[0]) ∧ ∀ (j : Nat) (h : j + 1 < ks.length), ks[j] < ks[j + 1] := by
  intro ks
  induction ks with
  | nil => intro least; simp [rises]
  | cons k r ih =>
    intro least
    simp only [rises, Bool.and_eq_true, decide_eq_true_eq, ih]
    constructor
    · rintro ⟨h1, h2, h3⟩
      refine ⟨fun _ => h1, fun j h => ?_⟩
      cases j with
      | zero =>
        have := h2 (by simpa using h)
        simp only [List.getElem_cons_zero, List.getElem_cons_succ]
        omega
      | succ j =>
        simp only [List.getElem_cons_succ]
        exact h3 j (by simpa using h)
    · rintro ⟨h1, h2⟩
      refine ⟨h1 (by simp), fun h => ?_, fun j h => ?_⟩
      · have := h2 0 (by simpa using h)
        simp only [List.getElem_cons_zero, List.getElem_cons_succ] at this
        omega
      · have := h2 (j + 1) (by simpa using h)
        simpa using this

/-- The least key behind some. -/
def lastL (least : Nat) (l : List (Nat × Nat)) : Nat := match l.getLast? with
  | none => least
  | some p => p.1 + 1
theorem lastL_nil (least : Nat) : lastL least [] = least := rfl
theorem lastL_snoc (least : Nat) (l : List (Nat × Nat)) (p : Nat × Nat) : lastL least (l ++ [p]) = p.1 + 1 := by simp [lastL]
theorem lastL_cons (least : Nat) (p : Nat × Nat) (l : List (Nat × Nat)) : lastL least (p :: l) = lastL (p.1 + 1) l := by
  unfold lastL
  cases l with
  | nil => rfl
  | cons q r =>
    rw [List.getLast?_cons_cons]
    rw [List.getLast?_eq_some_getLast (List.cons_ne_nil q r)]
theorem heads_snoc : ∀ (l : List (Nat × Nat)) (least : Nat) (p : Nat × Nat), heads least (l ++ [p]) = heads least l ++ (putL (p.1 - lastL least l) ++ putL p.2) := by
  intro l
  induction l with
  | nil => intro least p; obtain ⟨k, n⟩ := p; simp [heads, lastL_nil]
  | cons x r ih =>
    intro least p
    obtain ⟨k, n⟩ := x
    rw [List.cons_append, heads, heads, ih, lastL_cons]
    simp
theorem datas_snoc (l : List EntL) (e : EntL) : datas (l ++ [e]) = datas l ++ e.2 := by simp [datas]
theorem rises_last {l : List (Nat × Nat)} {p : Nat × Nat} (h : rises 0 ((l ++ [p]).map (·.1)) = true) : lastL 0 l ≤ p.1 := by
  have go : ∀ (l : List (Nat × Nat)) (least : Nat), rises least ((l ++ [p]).map (·.1)) = true → lastL least l ≤ p.1 := by
    intro l
    induction l with
    | nil => intro least h; simpa [rises, lastL_nil] using h
    | cons x r ih =>
      intro least h
      simp only [List.cons_append, List.map_cons, rises, Bool.and_eq_true] at h
      rw [lastL_cons]
      exact ih _ h.2
  exact go l 0 h
theorem rises_take {ks : List Nat} {least : Nat} (h : rises least ks = true) (k : Nat) : rises least (ks.take k) = true := by
  rw [rises_iff] at h ⊢
  refine ⟨fun h0 => ?_, fun j hj => ?_⟩
  · have := h.1 (by rw [List.length_take] at h0; omega)
    simpa using this
  · have := h.2 j (by rw [List.length_take] at hj; omega)
    simpa using this
theorem writeD_order {l : List EntL} (h : ¬ rises 0 (keysE l) = true) : writeD l = ([], 12) := by unfold writeD; rw [if_neg h]
theorem writeD_long {l : List EntL} (h : rises 0 (keysE l) = true) (hl : ¬ l.length ≤ 65536) : writeD l = ([], 15) := by unfold writeD; rw [if_pos h, if_neg hl]
theorem writeD_done {l : List EntL} (h : rises 0 (keysE l) = true) (hl : l.length ≤ 65536) : writeD l = (putL l.length ++ (heads 0 (l.map szE) ++ datas l), 0) := by unfold writeD; rw [if_pos h, if_pos hl]
end Go.Proofs.Dct

/-
  A mail's header in plain mathematics: lines, names, values; a header's fields, a header's text; there and back.
-/
namespace Go.Proofs.Hed

/-- Where the first line feed is. -/
def lfAt : List UInt8 → Option Nat
  | [] => none
  | c :: r => if c = 10 then some 0 else (lfAt r).map (· + 1)
/-- A line without a carriage return at its end. -/
def noCr (l : List UInt8) : List UInt8 := if l.getLast? = some 13 then l.dropLast else l
/-- The first line, without its end. -/
def lineOf (s : List UInt8) : List UInt8 := match lfAt s with | none => s | some i => noCr (s.take i)
/-- How many bytes it has with its end. -/
def lineN (s : List UInt8) : Nat := match lfAt s with | none => s.length | some i => i + 1
/-- A space or a tab. -/
def isB (c : UInt8) : Bool := c == 32 || c == 9
/-- Whether a line goes on with the one ahead. -/
def goesOn : List UInt8 → Bool
  | [] => false
  | c :: _ => isB c
/-- Without spaces and tabs at the ends. -/
def trimL (l : List UInt8) : List UInt8 := (l.reverse.dropWhile isB).reverse.dropWhile isB
/-- A byte of a name. -/
def nameB (c : UInt8) : Bool := decide (33 ≤ c.toNat ∧ c.toNat ≤ 126 ∧ c ≠ 58)
def isNm (l : List UInt8) : Bool := l.all nameB && !l.isEmpty
/-- Ahead of the first colon, and behind it. -/
def colon : List UInt8 → Option (List UInt8 × List UInt8)
  | [] => none
  | c :: r => if c = 58 then some ([], r) else (colon r).map fun p => (c :: p.1, p.2)
/-- Lines that go on: what they are, and how many bytes; f bounds how many. -/
def contF : Nat → List UInt8 → List UInt8 × Nat
  | 0, _ => ([], 0)
  | f + 1, s => if goesOn (lineOf s) then let r := contF f (s.drop (lineN s)); (lineOf s ++ r.1, lineN s + r.2) else ([], 0)
def contL (s : List UInt8) : List UInt8 × Nat := contF s.length s
/-- A header's fields, all of them, and where the body begins. -/
def parseF : Nat → List UInt8 → List (List UInt8 × List UInt8) × Nat
  | 0, _ => ([], 0)
  | f + 1, s =>
    if lineOf s = [] then ([], lineN s)
    else match colon (lineOf s) with
      | none => ([], 0)
      | some (n, v) =>
        if isNm n then
          let c := contL (s.drop (lineN s))
          let r := parseF f (s.drop (lineN s + c.2))
          ((n, trimL (v ++ c.1)) :: r.1, lineN s + c.2 + r.2)
        else ([], 0)
def parseL (s : List UInt8) : List (List UInt8 × List UInt8) × Nat := parseF (s.length + 1) s

theorem lfAt_lt : ∀ {s : List UInt8} {i : Nat}, lfAt s = some i → i < s.length
  | [], i, h => by simp [lfAt] at h
  | c :: r, i, h => by
    simp only [lfAt] at h
    split at h
    · simp at h; subst h; simp
    · simp only [Option.map_eq_some_iff] at h
      obtain ⟨k, hk, rfl⟩ := h
      have := lfAt_lt hk
      simp; omega
theorem lineN_le (s : List UInt8) : lineN s ≤ s.length := by
  unfold lineN
  split
  · exact Nat.le_refl _
  · rename_i h; have := lfAt_lt h; omega
theorem lineN_pos {s : List UInt8} (h : s ≠ []) : 1 ≤ lineN s := by
  unfold lineN
  split
  · cases s with | nil => exact absurd rfl h | cons c r => simp
  · omega
theorem line_ne {s : List UInt8} (h : lineOf s ≠ []) : s ≠ [] := by
  rintro rfl
  exact h rfl
theorem noCr_len (l : List UInt8) : (noCr l).length ≤ l.length := by
  unfold noCr
  split <;> simp
theorem lineOf_len (s : List UInt8) : (lineOf s).length ≤ lineN s := by
  unfold lineOf lineN
  split
  · exact Nat.le_refl _
  · rename_i i h
    have := noCr_len (s.take i)
    simp only [List.length_take] at this
    omega

theorem contF_le : ∀ (f : Nat) (s : List UInt8), (contF f s).2 ≤ s.length
  | 0, _ => Nat.zero_le _
  | f + 1, s => by
    have h1 := lineN_le s
    have h2 := contF_le f (s.drop (lineN s))
    rw [List.length_drop] at h2
    simp only [contF]
    split <;> simp only <;> omega
theorem goes_ne {s : List UInt8} (h : goesOn (lineOf s) = true) : s ≠ [] := line_ne (by intro e; rw [e] at h; cases h)
theorem contF_enough : ∀ (f g : Nat) (s : List UInt8), s.length ≤ f → s.length ≤ g → contF f s = contF g s
  | 0, g, s, h, _ => by
    have : s = [] := List.eq_nil_of_length_eq_zero (by omega)
    subst this
    cases g with
    | zero => rfl
    | succ g => rfl
  | f + 1, 0, s, _, h => by
    have : s = [] := List.eq_nil_of_length_eq_zero (by omega)
    subst this
    rfl
  | f + 1, g + 1, s, hf, hg => by
    simp only [contF]
    by_cases h : goesOn (lineOf s) = true
    · have := lineN_pos (goes_ne h)
      rw [contF_enough f g (s.drop (lineN s)) (by rw [List.length_drop]; omega) (by rw [List.length_drop]; omega)]
    · rw [if_neg h, if_neg h]
theorem contL_go {s : List UInt8} (h : goesOn (lineOf s) = true) : contL s = (lineOf s ++ (contL (s.drop (lineN s))).1, lineN s + (contL (s.drop (lineN s))).2) := by
  have h1 := lineN_pos (goes_ne h)
  have h0 : s.length ≠ 0 := by have := goes_ne h; simpa using this
  unfold contL
  obtain ⟨k, hk⟩ : ∃ k, s.length = k + 1 := ⟨s.length - 1, by omega⟩
  rw [hk]
  conv => lhs; unfold contF
  rw [if_pos h]
  simp only
  rw [contF_enough k (s.drop (lineN s)).length _ (by rw [List.length_drop]; omega) (Nat.le_refl _)]
theorem contL_stop {s : List UInt8} (h : goesOn (lineOf s) = false) : contL s = ([], 0) := by
  unfold contL
  cases s.length with
  | zero => rfl
  | succ k => unfold contF; rw [h]; rfl
theorem contL_le (s : List UInt8) : (contL s).2 ≤ s.length := contF_le _ _
theorem contF_len : ∀ (f : Nat) (s : List UInt8), (contF f s).1.length ≤ (contF f s).2
  | 0, _ => Nat.le_refl _
  | f + 1, s => by
    have h1 := lineOf_len s
    have h2 := contF_len f (s.drop (lineN s))
    simp only [contF]
    split
    · simp only [List.length_append]; omega
    · simp
theorem contL_len (s : List UInt8) : (contL s).1.length ≤ (contL s).2 := contF_len _ _

theorem parseF_le : ∀ (f : Nat) (s : List UInt8), (parseF f s).2 ≤ s.length
  | 0, _ => Nat.zero_le _
  | f + 1, s => by
    have h1 := lineN_le s
    simp only [parseF]
    split
    · exact h1
    · split
      · simp
      · rename_i n v _
        split
        · have h2 := parseF_le f (s.drop (lineN s + (contL (s.drop (lineN s))).2))
          have h3 := contL_le (s.drop (lineN s))
          rw [List.length_drop] at h2 h3
          simp only
          omega
        · simp
theorem parseL_le (s : List UInt8) : (parseL s).2 ≤ s.length := parseF_le _ _
theorem parseF_enough : ∀ (f g : Nat) (s : List UInt8), s.length < f → s.length < g → parseF f s = parseF g s
  | 0, _, _, h, _ => by omega
  | _ + 1, 0, _, _, h => by omega
  | f + 1, g + 1, s, hf, hg => by
    simp only [parseF]
    by_cases h0 : lineOf s = []
    · rw [if_pos h0, if_pos h0]
    · rw [if_neg h0, if_neg h0]
      have h1 := lineN_pos (line_ne h0)
      have hl := lineN_le s
      split
      · rfl
      · split
        · rw [parseF_enough f g _ (by rw [List.length_drop]; omega) (by rw [List.length_drop]; omega)]
        · rfl
theorem parseL_end {s : List UInt8} (h : lineOf s = []) : parseL s = ([], lineN s) := by
  unfold parseL parseF
  rw [if_pos h]
theorem parseL_none {s : List UInt8} (h : lineOf s ≠ []) (hc : colon (lineOf s) = none) : parseL s = ([], 0) := by
  unfold parseL parseF
  rw [if_neg h, hc]
theorem parseL_no {s n v : List UInt8} (h : lineOf s ≠ []) (hc : colon (lineOf s) = some (n, v)) (hn : isNm n = false) : parseL s = ([], 0) := by
  unfold parseL parseF
  rw [if_neg h, hc]
  simp only [hn]
  rfl
theorem parseL_field {s n v : List UInt8} (h : lineOf s ≠ []) (hc : colon (lineOf s) = some (n, v)) (hn : isNm n = true) :
    parseL s = ((n, trimL (v ++ (contL (s.drop (lineN s))).1)) :: (parseL (s.drop (lineN s + (contL (s.drop (lineN s))).2))).1,
      lineN s + (contL (s.drop (lineN s))).2 + (parseL (s.drop (lineN s + (contL (s.drop (lineN s))).2))).2) := by
  have h1 := lineN_pos (line_ne h)
  have hl := lineN_le s
  have h0 : s.length ≠ 0 := by have := line_ne h; simpa using this
  unfold parseL
  conv => lhs; unfold parseF
  rw [if_neg h, hc]
  simp only [hn, if_true]
  rw [parseF_enough s.length ((s.drop (lineN s + (contL (s.drop (lineN s))).2)).length + 1) _ (by rw [List.length_drop]; omega) (by omega)]

theorem colon_len : ∀ {l n v : List UInt8}, colon l = some (n, v) → n.length + 1 + v.length = l.length
  | [], n, v, h => by simp [colon] at h
  | c :: r, n, v, h => by
    simp only [colon] at h
    split at h
    · simp at h; obtain ⟨rfl, rfl⟩ := h; simp; omega
    · simp only [Option.map_eq_some_iff] at h
      obtain ⟨⟨a, b⟩, hk, hp⟩ := h
      simp at hp
      obtain ⟨rfl, rfl⟩ := hp
      have := colon_len hk
      simp; omega

/-! ### Written -/

/-- A value that may be written. -/
def isVl (v : List UInt8) : Bool := v.all (fun c => c != 10 && c != 13) && (match v with | [] => true | c :: _ => !isB c) && (match v.getLast? with | none => true | some c => !isB c)
def okF (f : List UInt8 × List UInt8) : Bool := isNm f.1 && isVl f.2
/-- A field's line. -/
def fieldL (e : List UInt8) (f : List UInt8 × List UInt8) : List UInt8 := f.1 ++ [58] ++ (if f.2 = [] then [] else 32 :: f.2) ++ e
/-- A header's text, each line with the end e. -/
def textL (e : List UInt8) (l : List (List UInt8 × List UInt8)) : List UInt8 := (l.map (fieldL e)).flatten ++ e
/-- The text that is written, or the error. -/
def writeR (l : List (List UInt8 × List UInt8)) : List UInt8 × Int := if l.all okF then (if l.length ≤ 1024 then (textL [10] l, 0) else ([], 15)) else ([], 2)

/-- The two ends that a line may have. -/
def End (e : List UInt8) : Prop := e = [10] ∨ e = [13, 10]
theorem lfAt_app : ∀ (a r : List UInt8), (∀ c ∈ a, c ≠ 10) → lfAt (a ++ 10 :: r) = some a.length
  | [], r, _ => by simp [lfAt]
  | c :: a, r, h => by
    simp only [List.cons_append, lfAt]
    rw [if_neg (h c (by simp)), lfAt_app a r (fun d hd => h d (by simp [hd]))]
    rfl
theorem noCr_of {a : List UInt8} (h : ∀ c ∈ a, c ≠ 13) : noCr a = a := by
  unfold noCr
  rw [if_neg]
  intro e
  exact h 13 (List.mem_of_getLast? e) rfl
theorem noCr_cr (a : List UInt8) : noCr (a ++ [13]) = a := by simp [noCr]
theorem line_end {e a r : List UInt8} (he : End e) (h10 : ∀ c ∈ a, c ≠ 10) (h13 : ∀ c ∈ a, c ≠ 13) : lineOf (a ++ e ++ r) = a ∧ lineN (a ++ e ++ r) = a.length + e.length := by
  rcases he with rfl | rfl
  · have := lfAt_app a r h10
    unfold lineOf lineN
    rw [show a ++ [10] ++ r = a ++ 10 :: r by simp, this]
    simp [noCr_of h13]
  · have := lfAt_app (a ++ [13]) r (by intro c hc; simp at hc; rcases hc with hc | rfl; exact h10 c hc; decide)
    unfold lineOf lineN
    rw [show a ++ [13, 10] ++ r = (a ++ [13]) ++ 10 :: r by simp, this]
    simp only
    rw [List.take_left' rfl, noCr_cr]
    simp
theorem name_facts {n : List UInt8} (h : isNm n = true) : n ≠ [] ∧ ∀ c ∈ n, c ≠ 10 ∧ c ≠ 13 ∧ c ≠ 58 ∧ isB c = false := by
  simp only [isNm, Bool.and_eq_true, List.all_eq_true] at h
  obtain ⟨h1, h2⟩ := h
  refine ⟨by rintro rfl; simp at h2, fun c hc => ?_⟩
  have := h1 c hc
  simp only [nameB, decide_eq_true_eq] at this
  obtain ⟨ha, hb, hd⟩ := this
  refine ⟨?_, ?_, hd, ?_⟩
  · rintro rfl; simp at ha
  · rintro rfl; simp at ha
  · simp only [isB, Bool.or_eq_false_iff, beq_eq_false_iff_ne]
    constructor
    · rintro rfl; simp at ha
    · rintro rfl; simp at ha
theorem colon_app : ∀ (n r : List UInt8), (∀ c ∈ n, c ≠ 58) → colon (n ++ 58 :: r) = some (n, r)
  | [], r, _ => by simp [colon]
  | c :: n, r, h => by
    simp only [List.cons_append, colon]
    rw [if_neg (h c (by simp)), colon_app n r (fun d hd => h d (by simp [hd]))]
    rfl
theorem trim_val {v : List UInt8} (h : isVl v = true) : trimL v = v ∧ trimL (32 :: v) = v := by
  simp only [isVl, Bool.and_eq_true] at h
  obtain ⟨⟨_, h2⟩, h3⟩ := h
  have e1 : v.dropWhile isB = v := by
    cases v with
    | nil => rfl
    | cons c r => simp at h2; simp [List.dropWhile, h2]
  have e2 : (v.reverse.dropWhile isB) = v.reverse := by
    rw [List.getLast?_eq_head?_reverse] at h3
    cases hr : v.reverse with
    | nil => rfl
    | cons c r => rw [hr] at h3; simp at h3; simp [List.dropWhile, h3]
  constructor
  · unfold trimL; rw [e2, List.reverse_reverse, e1]
  · unfold trimL
    cases v with
    | nil => decide
    | cons c r =>
      have e3 : ((32 :: c :: r).reverse.dropWhile isB) = (32 :: c :: r).reverse := by
        rw [show (32 :: c :: r).reverse = (c :: r).reverse ++ [32] by simp]
        cases hr : (c :: r).reverse with
        | nil => simp at hr
        | cons d q =>
          rw [hr] at e2
          have hd : isB d = false := by
            cases h : isB d with
            | false => rfl
            | true =>
              simp only [List.dropWhile, h] at e2
              have := congrArg List.length e2
              have hl := (List.dropWhile_sublist (p := isB) (l := q)).length_le
              simp at this
              omega
          simp [hd]
      rw [e3, List.reverse_reverse]
      rw [show (32 :: c :: r).dropWhile isB = (c :: r).dropWhile isB by simp [List.dropWhile, isB], e1]
theorem val_facts {v : List UInt8} (h : isVl v = true) : ∀ c ∈ v, c ≠ 10 ∧ c ≠ 13 := by
  simp only [isVl, Bool.and_eq_true, List.all_eq_true] at h
  intro c hc
  have := h.1.1 c hc
  simpa using this

/-- What begins with a text of fields goes on with no line of the one ahead. -/
theorem text_stop {e : List UInt8} (he : End e) (l : List (List UInt8 × List UInt8)) (hl : l.all okF = true) (body : List UInt8) : goesOn (lineOf (textL e l ++ body)) = false := by
  cases l with
  | nil =>
    have := (line_end (a := []) (r := body) he (by simp) (by simp)).1
    simp only [List.nil_append] at this
    simp only [textL, List.map_nil, List.flatten_nil, List.nil_append]
    rw [this]; rfl
  | cons f l =>
    simp only [List.all_cons, Bool.and_eq_true] at hl
    obtain ⟨hf, hl⟩ := hl
    simp only [okF, Bool.and_eq_true] at hf
    obtain ⟨hn, hv⟩ := hf
    obtain ⟨hne, hnc⟩ := name_facts hn
    have hvc := val_facts hv
    have e1 : textL e (f :: l) ++ body = (f.1 ++ [58] ++ (if f.2 = [] then [] else 32 :: f.2)) ++ e ++ (textL e l ++ body) := by simp [textL, fieldL]
    have hm : ∀ c ∈ f.1 ++ [58] ++ (if f.2 = [] then [] else 32 :: f.2), c ≠ 10 ∧ c ≠ 13 := by
      intro c hc
      simp only [List.mem_append, List.mem_singleton] at hc
      rcases hc with (hc | rfl) | hc
      · exact ⟨(hnc c hc).1, (hnc c hc).2.1⟩
      · decide
      · split at hc
        · cases hc
        · simp only [List.mem_cons] at hc
          rcases hc with rfl | hc
          · decide
          · exact hvc c hc
    rw [e1, (line_end he (fun c hc => (hm c hc).1) (fun c hc => (hm c hc).2)).1]
    obtain ⟨n, v⟩ := f
    cases n with
    | nil => exact absurd rfl hne
    | cons c n => simp only [List.cons_append, goesOn]; exact (hnc c (by simp)).2.2.2
/-- What was written is parsed, and the body begins behind it. -/
theorem parse_text {e : List UInt8} (he : End e) : ∀ (l : List (List UInt8 × List UInt8)), l.all okF = true → ∀ body, parseL (textL e l ++ body) = (l, (textL e l).length)
  | [], _, body => by
    have h := line_end (a := []) (r := body) he (by simp) (by simp)
    simp only [List.nil_append] at h
    simp only [textL, List.map_nil, List.flatten_nil, List.nil_append]
    rw [parseL_end h.1, h.2]
    simp
  | f :: l, hl, body => by
    simp only [List.all_cons, Bool.and_eq_true] at hl
    obtain ⟨hf, hl⟩ := hl
    simp only [okF, Bool.and_eq_true] at hf
    obtain ⟨hn, hv⟩ := hf
    obtain ⟨hne, hnc⟩ := name_facts hn
    have hvc := val_facts hv
    have e1 : textL e (f :: l) ++ body = (f.1 ++ [58] ++ (if f.2 = [] then [] else 32 :: f.2)) ++ e ++ (textL e l ++ body) := by simp [textL, fieldL]
    have hm : ∀ c ∈ f.1 ++ [58] ++ (if f.2 = [] then [] else 32 :: f.2), c ≠ 10 ∧ c ≠ 13 := by
      intro c hc
      simp only [List.mem_append, List.mem_singleton] at hc
      rcases hc with (hc | rfl) | hc
      · exact ⟨(hnc c hc).1, (hnc c hc).2.1⟩
      · decide
      · split at hc
        · cases hc
        · simp only [List.mem_cons] at hc
          rcases hc with rfl | hc
          · decide
          · exact hvc c hc
    obtain ⟨h1, h2⟩ := line_end (r := textL e l ++ body) he (fun c hc => (hm c hc).1) (fun c hc => (hm c hc).2)
    have hd : ((f.1 ++ [58] ++ (if f.2 = [] then [] else 32 :: f.2)) ++ e ++ (textL e l ++ body)).drop ((f.1 ++ [58] ++ (if f.2 = [] then [] else 32 :: f.2)).length + e.length) = textL e l ++ body := by
      rw [← List.length_append, List.drop_left]
    have hc : colon (f.1 ++ [58] ++ (if f.2 = [] then [] else 32 :: f.2)) = some (f.1, if f.2 = [] then [] else 32 :: f.2) := by
      rw [List.append_assoc]
      exact colon_app f.1 _ (fun c hc => (hnc c hc).2.2.1)
    have hL : lineOf ((f.1 ++ [58] ++ (if f.2 = [] then [] else 32 :: f.2)) ++ e ++ (textL e l ++ body)) ≠ [] := by rw [h1]; simp
    rw [e1, parseL_field hL (by rw [h1]; exact hc) hn, h2, hd, contL_stop (text_stop he l hl body)]
    simp only [List.append_nil, Nat.add_zero]
    rw [hd, parse_text he l hl body]
    simp only
    have ht : trimL (if f.2 = [] then [] else 32 :: f.2) = f.2 := by
      split
      · rename_i e; rw [e]; rfl
      · exact (trim_val hv).2
    rw [ht]
    apply Prod.ext
    · rfl
    · simp only [textL, List.map_cons, List.flatten_cons, fieldL, List.length_append]
      omega
end Go.Proofs.Hed
