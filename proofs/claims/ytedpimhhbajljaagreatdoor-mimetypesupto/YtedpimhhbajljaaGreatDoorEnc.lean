/-
  Bytes in base64 and quoted-printable, in plain mathematics: how they are written, how they are read, and that the second is the first one's way back.
-/
namespace Go.Proofs.Enc

/-- A letter of base64, by its number. -/
def let64 (n : Nat) : UInt8 := if n < 26 then UInt8.ofNat (65 + n) else if n < 52 then UInt8.ofNat (71 + n) else if n < 62 then UInt8.ofNat (n - 4) else if n = 62 then 43 else 47
/-- A byte's number; 64: it is passed over; 65: it is passed over, and counted. -/
def num64 (c : UInt8) : Nat :=
  if 65 ≤ c.toNat ∧ c.toNat ≤ 90 then c.toNat - 65 else if 97 ≤ c.toNat ∧ c.toNat ≤ 122 then c.toNat - 71 else if 48 ≤ c.toNat ∧ c.toNat ≤ 57 then c.toNat + 4
  else if c.toNat = 43 then 62 else if c.toNat = 47 then 63 else if c.toNat = 10 ∨ c.toNat = 13 ∨ c.toNat = 32 ∨ c.toNat = 9 then 64 else 65

theorem num_let_fin : ∀ n : Fin 64, num64 (let64 n.val) = n.val ∧ let64 n.val ≠ 61 := by decide +kernel
theorem num_let {n : Nat} (h : n < 64) : num64 (let64 n) = n := (num_let_fin ⟨n, h⟩).1
theorem let_ne {n : Nat} (h : n < 64) : let64 n ≠ 61 := (num_let_fin ⟨n, h⟩).2
theorem num_le (c : UInt8) : num64 c ≤ 65 := by
  have := c.toNat_lt
  unfold num64
  repeat' split
  all_goals omega

/-- One to three bytes as four letters. -/
def quad : List UInt8 → List UInt8
  | [] => []
  | [a] => [let64 (a.toNat / 4), let64 (a.toNat % 4 * 16), 61, 61]
  | [a, b] => [let64 (a.toNat / 4), let64 (a.toNat % 4 * 16 + b.toNat / 16), let64 (b.toNat % 16 * 4), 61]
  | a :: b :: c :: _ => [let64 (a.toNat / 4), let64 (a.toNat % 4 * 16 + b.toNat / 16), let64 (b.toNat % 16 * 4 + c.toNat / 64), let64 (c.toNat % 64)]

/-- Bytes in base64. -/
def b64 : List UInt8 → List UInt8
  | a :: b :: c :: r => quad [a, b, c] ++ b64 r
  | l => quad l

theorem b64_length : ∀ l : List UInt8, (b64 l).length = (l.length + 2) / 3 * 4
  | [] => by simp [b64, quad]
  | [a] => by simp [b64, quad]
  | [a, b] => by simp [b64, quad]
  | a :: b :: c :: r => by
    have := b64_length r
    simp [b64, quad, this]
    omega

theorem b64_parts : ∀ (l m : List UInt8), l.length % 3 = 0 → b64 (l ++ m) = b64 l ++ b64 m
  | [], m, _ => by simp [b64, quad]
  | [a], m, h => by simp at h
  | [a, b], m, h => by simp at h
  | a :: b :: c :: r, m, h => by
    have := b64_parts r m (by simp at h; omega)
    simp [b64, this]

theorem b64_quad {l : List UInt8} (h : l.length ≤ 3) : b64 l = quad l := by
  match l, h with
  | [], _ => rfl
  | [a], _ => rfl
  | [a, b], _ => rfl
  | [a, b, c], _ => simp [b64, quad]

/-- What bytes in base64 say, with hv bits pending, that are r; and how many are counted. -/
def from64 : Nat → Nat → List UInt8 → List UInt8 × Nat
  | _, _, [] => ([], 0)
  | hv, r, c :: l =>
    if c = 61 then ([], 0)
    else if num64 c = 65 then ((from64 hv r l).1, (from64 hv r l).2 + 1)
    else if num64 c = 64 then from64 hv r l
    else if hv = 0 then from64 6 (num64 c) l
    else (UInt8.ofNat ((r * 64 + num64 c) / 2 ^ (hv - 2)) :: (from64 (hv - 2) ((r * 64 + num64 c) % 2 ^ (hv - 2)) l).1, (from64 (hv - 2) ((r * 64 + num64 c) % 2 ^ (hv - 2)) l).2)

theorem from_letter {hv r n : Nat} {l : List UInt8} (h : n < 64) : from64 hv r (let64 n :: l) = if hv = 0 then from64 6 n l else (UInt8.ofNat ((r * 64 + n) / 2 ^ (hv - 2)) :: (from64 (hv - 2) ((r * 64 + n) % 2 ^ (hv - 2)) l).1, (from64 (hv - 2) ((r * 64 + n) % 2 ^ (hv - 2)) l).2) := by
  rw [from64, if_neg (let_ne h), num_let h, if_neg (by omega), if_neg (by omega)]

theorem ofNat_eq {n : Nat} {a : UInt8} (h : n = a.toNat) : UInt8.ofNat n = a := by subst h; simp

theorem from_b64 : ∀ l : List UInt8, from64 0 0 (b64 l) = (l, 0)
  | [] => rfl
  | [a] => by
    have ha := a.toNat_lt
    simp only [b64, quad]
    rw [from_letter (by omega), if_pos rfl, from_letter (by omega), if_neg (by decide)]
    simp only [from64, if_true, Prod.mk.injEq, and_true]
    exact congrArg (· :: []) (ofNat_eq (by omega))
  | [a, b] => by
    have ha := a.toNat_lt
    have hb := b.toNat_lt
    simp only [b64, quad]
    rw [from_letter (by omega), if_pos rfl, from_letter (by omega), if_neg (by decide), from_letter (by omega), if_neg (by decide)]
    simp only [from64, if_true, Prod.mk.injEq, and_true, List.cons.injEq]
    exact ⟨ofNat_eq (by omega), ofNat_eq (by omega)⟩
  | a :: b :: c :: r => by
    have ha := a.toNat_lt
    have hb := b.toNat_lt
    have hc := c.toNat_lt
    have ih := from_b64 r
    simp only [b64, quad, List.cons_append, List.nil_append]
    rw [from_letter (by omega), if_pos rfl, from_letter (by omega), if_neg (by decide), from_letter (by omega), if_neg (by decide), from_letter (by omega), if_neg (by decide)]
    have e0 : ∀ x, x % 2 ^ (6 - 2 - 2 - 2) = 0 := by intro x; simp; omega
    simp only [e0, show 6 - 2 - 2 - 2 = 0 from rfl, ih, Prod.mk.injEq, and_true, List.cons.injEq]
    exact ⟨ofNat_eq (by omega), ofNat_eq (by omega), ofNat_eq (by omega)⟩

theorem from_len : ∀ (l : List UInt8) (hv r : Nat), hv % 2 = 0 → 8 * (from64 hv r l).1.length ≤ hv + 6 * l.length
  | [], hv, r, _ => by simp [from64]
  | c :: l, hv, r, h => by
    rw [from64]
    split
    · simp
    · split
      · have := from_len l hv r h; simp; omega
      · split
        · have := from_len l hv r h; simp; omega
        · split
          · have := from_len l 6 (num64 c) rfl; simp; omega
          · have := from_len l (hv - 2) ((r * 64 + num64 c) % 2 ^ (hv - 2)) (by omega); simp; omega

theorem from_cnt : ∀ (l : List UInt8) (hv r : Nat), (from64 hv r l).2 ≤ l.length
  | [], hv, r => by simp [from64]
  | c :: l, hv, r => by
    rw [from64]
    split
    · simp
    · split
      · have := from_cnt l hv r; simp; omega
      · split
        · have := from_cnt l hv r; simp; omega
        · split
          · have := from_cnt l 6 (num64 c); simp; omega
          · have := from_cnt l (hv - 2) ((r * 64 + num64 c) % 2 ^ (hv - 2)); simp; omega

/-- What Strict tells: the bytes, and 0, or the error. -/
def strictR (l : List UInt8) : List UInt8 × Nat := if b64 (from64 0 0 l).1 = l then ((from64 0 0 l).1, 0) else ([], 7)

theorem strict_b64 (l : List UInt8) : strictR (b64 l) = (l, 0) := by
  rw [strictR, from_b64, if_pos rfl]

/-- A digit, by its number. -/
def hx (n : Nat) : UInt8 := if n < 10 then UInt8.ofNat (48 + n) else UInt8.ofNat (55 + n)
/-- A digit's number; 16: it is none. -/
def dig (c : UInt8) : Nat := if 48 ≤ c.toNat ∧ c.toNat ≤ 57 then c.toNat - 48 else if 65 ≤ c.toNat ∧ c.toNat ≤ 70 then c.toNat - 55 else if 97 ≤ c.toNat ∧ c.toNat ≤ 102 then c.toNat - 87 else 16

theorem dig_hx_fin : ∀ n : Fin 16, dig (hx n.val) = n.val ∧ 48 ≤ (hx n.val).toNat ∧ (hx n.val).toNat ≤ 70 := by decide +kernel
theorem dig_hx {n : Nat} (h : n < 16) : dig (hx n) = n := (dig_hx_fin ⟨n, h⟩).1
theorem hx_lo {n : Nat} (h : n < 16) : 48 ≤ (hx n).toNat := (dig_hx_fin ⟨n, h⟩).2.1
theorem hx_hi {n : Nat} (h : n < 16) : (hx n).toNat ≤ 70 := (dig_hx_fin ⟨n, h⟩).2.2
theorem dig_le (c : UInt8) : dig c ≤ 16 := by
  unfold dig
  repeat' split
  all_goals omega

/-- Whether a byte stands for itself, ahead of r. -/
def itself (c : UInt8) (r : List UInt8) : Bool :=
  if c.toNat = 32 then (match r with | [] => false | d :: _ => d.toNat != 10) else if c.toNat = 10 then true else decide (32 < c.toNat ∧ c.toNat ≤ 126 ∧ c.toNat ≠ 61)

/-- What is written for a byte ahead of r. -/
def piece (c : UInt8) (r : List UInt8) : List UInt8 := if itself c r then [c] else [61, hx (c.toNat / 16), hx (c.toNat % 16)]

/-- Bytes quoted-printable. -/
def quo : List UInt8 → List UInt8
  | [] => []
  | c :: r => piece c r ++ quo r

theorem piece_len (c : UInt8) (r : List UInt8) : 1 ≤ (piece c r).length ∧ (piece c r).length ≤ 3 := by
  unfold piece; split <;> simp
theorem quo_len : ∀ l : List UInt8, l.length ≤ (quo l).length ∧ (quo l).length ≤ 3 * l.length
  | [] => by simp [quo]
  | c :: r => by
    have := quo_len r
    have := piece_len c r
    simp [quo]
    omega

/-- A byte that may be written. -/
def plain (c : UInt8) : Prop := (32 ≤ c.toNat ∧ c.toNat ≤ 126) ∨ c.toNat = 10

theorem itself_plain {c : UInt8} {r : List UInt8} (h : itself c r = true) : plain c := by
  unfold itself at h
  unfold plain
  split at h
  · omega
  · split at h
    · omega
    · simp at h; omega

theorem quo_plain : ∀ l : List UInt8, ∀ c ∈ quo l, plain c
  | [], c, h => by simp [quo] at h
  | d :: r, c, h => by
    rw [quo, List.mem_append] at h
    rcases h with h | h
    · have hd := d.toNat_lt
      unfold piece at h
      split at h
      · simp at h; subst h; exact itself_plain ‹_›
      · have h1 := hx_lo (n := d.toNat / 16) (by omega)
        have h2 := hx_hi (n := d.toNat / 16) (by omega)
        have h3 := hx_lo (n := d.toNat % 16) (by omega)
        have h4 := hx_hi (n := d.toNat % 16) (by omega)
        simp at h
        rcases h with rfl | rfl | rfl
        · left; decide
        · left; omega
        · left; omega
    · exact quo_plain r c h

/-- With how many spaces and tabs bytes begin. -/
def blanks : List UInt8 → Nat
  | [] => 0
  | c :: r => if c.toNat = 32 ∨ c.toNat = 9 then blanks r + 1 else 0
/-- How many bytes the end of a line has, with which bytes begin; 3: they begin with none. -/
def lend : List UInt8 → Nat
  | [] => 0
  | [c] => if c.toNat = 10 then 1 else 3
  | c :: d :: _ => if c.toNat = 10 then 1 else if c.toNat = 13 ∧ d.toNat = 10 then 2 else 3
/-- The byte that is coded behind an =; 256: there is none. -/
def coded : List UInt8 → Nat
  | a :: b :: _ => if dig a < 16 ∧ dig b < 16 then dig a * 16 + dig b else 256
  | _ => 256

theorem blanks_le : ∀ l : List UInt8, blanks l ≤ l.length
  | [] => by simp [blanks]
  | c :: r => by
    have := blanks_le r
    simp only [blanks, List.length_cons]
    split <;> omega
theorem coded_len {l : List UInt8} (h : coded l < 256) : 2 ≤ l.length := by
  match l with
  | [] => simp [coded] at h
  | [_] => simp [coded] at h
  | _ :: _ :: _ => simp

/-- What quoted-printable bytes say, and how many are counted; f bounds how many steps there are. -/
def fqF : Nat → List UInt8 → List UInt8 × Nat
  | 0, _ => ([], 0)
  | _ + 1, [] => ([], 0)
  | f + 1, c :: r =>
    if c.toNat = 61 then
      if coded r < 256 then (UInt8.ofNat (coded r) :: (fqF f (r.drop 2)).1, (fqF f (r.drop 2)).2)
      else if lend r < 3 then fqF f (r.drop (lend r))
      else (c :: (fqF f r).1, (fqF f r).2 + 1)
    else if (c.toNat = 32 ∨ c.toNat = 9) ∧ lend (r.drop (blanks r)) < 3 then fqF f (r.drop (blanks r))
    else (c :: (fqF f r).1, (fqF f r).2)

theorem fqF_enough : ∀ (f g : Nat) (l : List UInt8), l.length ≤ f → l.length ≤ g → fqF f l = fqF g l
  | 0, g, l, h, _ => by
    have : l = [] := List.eq_nil_of_length_eq_zero (by omega)
    subst this
    cases g <;> rfl
  | f + 1, 0, l, _, h => by
    have : l = [] := List.eq_nil_of_length_eq_zero (by omega)
    subst this
    rfl
  | f + 1, g + 1, [], _, _ => rfl
  | f + 1, g + 1, c :: r, hf, hg => by
    simp only [List.length_cons] at hf hg
    have h0 := fqF_enough f g r (by omega) (by omega)
    have h1 := fqF_enough f g (r.drop 2) (by simp; omega) (by simp; omega)
    have h2 := fqF_enough f g (r.drop (lend r)) (by simp; omega) (by simp; omega)
    have h3 := fqF_enough f g (r.drop (blanks r)) (by simp; omega) (by simp; omega)
    simp only [fqF, h0, h1, h2, h3]

/-- What quoted-printable bytes say, and how many are counted. -/
def fq (l : List UInt8) : List UInt8 × Nat := fqF l.length l

theorem fq_cons (c : UInt8) (r : List UInt8) : fq (c :: r) =
    if c.toNat = 61 then
      if coded r < 256 then (UInt8.ofNat (coded r) :: (fq (r.drop 2)).1, (fq (r.drop 2)).2)
      else if lend r < 3 then fq (r.drop (lend r))
      else (c :: (fq r).1, (fq r).2 + 1)
    else if (c.toNat = 32 ∨ c.toNat = 9) ∧ lend (r.drop (blanks r)) < 3 then fq (r.drop (blanks r))
    else (c :: (fq r).1, (fq r).2) := by
  unfold fq
  simp only [List.length_cons, fqF]
  rw [fqF_enough r.length (r.drop 2).length (r.drop 2) (by simp) (Nat.le_refl _), fqF_enough r.length (r.drop (lend r)).length (r.drop (lend r)) (by simp) (Nat.le_refl _),
    fqF_enough r.length (r.drop (blanks r)).length (r.drop (blanks r)) (by simp) (Nat.le_refl _)]

/-- Blanks that stand together: nothing, at the end of a line; else themselves. -/
theorem fq_blanks_end : ∀ (c : UInt8) (r : List UInt8), (c.toNat = 32 ∨ c.toNat = 9) → lend (r.drop (blanks r)) < 3 → fq (c :: r) = fq (r.drop (blanks r)) := by
  intro c r hc h
  rw [fq_cons, if_neg (by omega), if_pos ⟨hc, h⟩]
theorem fq_blanks_in : ∀ (l : List UInt8), ¬ lend (l.drop (blanks l)) < 3 → fq l = (l.take (blanks l) ++ (fq (l.drop (blanks l))).1, (fq (l.drop (blanks l))).2)
  | [], h => by simp [blanks, lend] at h
  | c :: r, h => by
    by_cases hc : c.toNat = 32 ∨ c.toNat = 9
    · have hb : blanks (c :: r) = blanks r + 1 := by rw [blanks, if_pos hc]
      rw [hb] at h ⊢
      simp only [List.drop_succ_cons, List.take_succ_cons] at h ⊢
      rw [fq_cons, if_neg (by omega), if_neg (by intro x; exact h x.2), fq_blanks_in r h]
      simp
    · have hb : blanks (c :: r) = 0 := by rw [blanks, if_neg hc]
      rw [hb]
      simp

/-- There is a byte, and it is no line feed. -/
def notLf : List UInt8 → Prop
  | [] => False
  | d :: _ => d.toNat ≠ 10

theorem itself_space {c : UInt8} {r : List UInt8} (h32 : c.toNat = 32) (hi : itself c r = true) : notLf r := by
  unfold itself at hi
  rw [if_pos h32] at hi
  cases r with
  | nil => simp at hi
  | cons e r => simpa [notLf] using hi

theorem lend_quo : ∀ r : List UInt8, notLf r → ¬ lend ((quo r).drop (blanks (quo r))) < 3
  | [], h => h.elim
  | d :: r, h => by
    simp only [notLf] at h
    have hd := d.toNat_lt
    rw [quo]
    unfold piece
    by_cases hi : itself d r = true
    · rw [if_pos hi]
      simp only [List.cons_append, List.nil_append, blanks]
      by_cases h32 : d.toNat = 32
      · have ih := lend_quo r (itself_space h32 hi)
        rw [if_pos (Or.inl h32)]
        simpa using ih
      · have h2 : 32 < d.toNat := by
          unfold itself at hi
          rw [if_neg h32, if_neg h] at hi
          simp at hi
          omega
        rw [if_neg (by omega)]
        simp only [List.drop_zero]
        cases quo r with
        | nil => simp only [lend]; rw [if_neg (by omega)]; omega
        | cons e t => simp only [lend]; rw [if_neg (by omega), if_neg (by omega)]; omega
    · rw [if_neg hi]
      simp [blanks, lend]

theorem fq_quo : ∀ l : List UInt8, fq (quo l) = (l, 0)
  | [] => rfl
  | c :: r => by
    have ih := fq_quo r
    have hc := c.toNat_lt
    rw [quo]
    unfold piece
    by_cases hi : itself c r = true
    · rw [if_pos hi]
      simp only [List.cons_append, List.nil_append]
      have hp := itself_plain hi
      have h61 : c.toNat ≠ 61 := by
        intro e
        unfold itself at hi
        rw [if_neg (by omega), if_neg (by omega)] at hi
        simp at hi
        omega
      rw [fq_cons, if_neg h61]
      by_cases h32 : c.toNat = 32
      · rw [if_neg (by intro x; exact lend_quo r (itself_space h32 hi) x.2), ih]
      · rw [if_neg (by unfold plain at hp; omega), ih]
    · rw [if_neg hi]
      simp only [List.cons_append, List.nil_append]
      rw [fq_cons, if_pos (by decide)]
      have e : coded (hx (c.toNat / 16) :: hx (c.toNat % 16) :: quo r) = c.toNat := by
        simp only [coded]
        rw [dig_hx (by omega), dig_hx (by omega), if_pos (by omega)]
        omega
      rw [if_pos (by rw [e]; exact hc), e]
      simp [ih]

theorem fqF_len : ∀ (f : Nat) (l : List UInt8), (fqF f l).1.length ≤ l.length ∧ (fqF f l).2 ≤ l.length
  | 0, l => by simp [fqF]
  | f + 1, [] => by simp [fqF]
  | f + 1, c :: r => by
    have h0 := fqF_len f r
    have h1 := fqF_len f (r.drop 2)
    have h2 := fqF_len f (r.drop (lend r))
    have h3 := fqF_len f (r.drop (blanks r))
    simp only [List.length_drop] at h1 h2 h3
    rw [fqF]
    split
    · split
      · have := coded_len ‹_›
        simp only [List.length_cons]; omega
      · split
        · simp only [List.length_cons]; omega
        · simp only [List.length_cons]; omega
    · split
      · simp only [List.length_cons]; omega
      · simp only [List.length_cons]; omega
theorem fq_len (l : List UInt8) : (fq l).1.length ≤ l.length ∧ (fq l).2 ≤ l.length := fqF_len _ _

/-- The first k of three bytes as a number; what lacks is 0. -/
def byteAt (l : List UInt8) (k : Nat) : Nat := (l.getD k 0).toNat
def valK (l : List UInt8) : Nat → Nat
  | 0 => 0
  | k + 1 => valK l k * 256 + byteAt l k
theorem byteAt_lt (l : List UInt8) (k : Nat) : byteAt l k < 256 := (l.getD k 0).toNat_lt
theorem valK_lt (l : List UInt8) : ∀ k, valK l k < 256 ^ k
  | 0 => by simp [valK]
  | k + 1 => by
    have := valK_lt l k
    have := byteAt_lt l k
    rw [valK, Nat.pow_succ]
    omega
theorem valK3_lt (l : List UInt8) : valK l 3 < 16777216 := valK_lt l 3

/-- A letter of the four. -/
theorem quad_get {l : List UInt8} {i : Nat} (h1 : 1 ≤ l.length) (h3 : l.length ≤ 3) (hi : i < 4) : (quad l)[i]? = some (if l.length < i then 61 else let64 (valK l 3 / 2 ^ (18 - 6 * i) % 64)) := by
  match l, h1, h3 with
  | [a], _, _ =>
    have ha := a.toNat_lt
    match i, hi with
    | 0, _ => simp [quad, valK, byteAt]; congr 1; omega
    | 1, _ => simp [quad, valK, byteAt]; congr 1; omega
    | 2, _ => simp [quad]
    | 3, _ => simp [quad]
  | [a, b], _, _ =>
    have ha := a.toNat_lt
    have hb := b.toNat_lt
    match i, hi with
    | 0, _ => simp [quad, valK, byteAt]; congr 1; omega
    | 1, _ => simp [quad, valK, byteAt]; congr 1; omega
    | 2, _ => simp [quad, valK, byteAt]; congr 1; omega
    | 3, _ => simp [quad]
  | [a, b, c], _, _ =>
    have ha := a.toNat_lt
    have hb := b.toNat_lt
    have hc := c.toNat_lt
    match i, hi with
    | 0, _ => simp [quad, valK, byteAt]; congr 1; omega
    | 1, _ => simp [quad, valK, byteAt]; congr 1; omega
    | 2, _ => simp [quad, valK, byteAt]; congr 1; omega
    | 3, _ => simp [quad, valK, byteAt]; congr 1; omega

theorem quad_length {l : List UInt8} (h1 : 1 ≤ l.length) (h3 : l.length ≤ 3) : (quad l).length = 4 := by
  match l, h1, h3 with
  | [a], _, _ => rfl
  | [a, b], _, _ => rfl
  | [a, b, c], _, _ => rfl

theorem quad_next {l : List UInt8} {i : Nat} (h1 : 1 ≤ l.length) (h3 : l.length ≤ 3) (hi : i < 4) : (quad l).take (i + 1) = (quad l).take i ++ [if l.length < i then 61 else let64 (valK l 3 / 2 ^ (18 - 6 * i) % 64)] := by
  have hg := quad_get h1 h3 hi
  have hl := quad_length h1 h3
  rw [List.take_succ_eq_append_getElem (by omega)]
  rw [List.getElem?_eq_getElem (by omega)] at hg
  simp only [Option.some.injEq] at hg
  rw [hg]

end Go.Proofs.Enc
