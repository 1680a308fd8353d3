/-
  Records and their frames, in plain mathematics: a record's frame, the record that bytes begin with, all of them; there and back, torn, and turned.
-/
import Derived.Test.YtekcbkaanlngdabDoorNum
import Derived.Test.YtekcbkaanlngdabDoorCrc
namespace Go.Proofs.Frm
open Go.Proofs.Num Go.Proofs.Crc

/-- A sum's four bytes, the highest first. -/
def be4 (x : Nat) : List UInt8 := [UInt8.ofNat (x / 16777216 % 256), UInt8.ofNat (x / 65536 % 256), UInt8.ofNat (x / 256 % 256), UInt8.ofNat (x % 256)]
/-- Bytes as a number, the highest first. -/
def rd (l : List UInt8) : Nat := l.foldl (fun r b => r * 256 + b.toNat) 0

theorem be4_length (x : Nat) : (be4 x).length = 4 := rfl
theorem rd_be4 (x : Nat) (h : x < 4294967296) : rd (be4 x) = x := by
  simp [rd, be4]
  omega
theorem be4_rd (l : List UInt8) (h : l.length = 4) : be4 (rd l) = l := by
  match l, h with
  | [a, b, c, d], _ =>
    have ha := a.toNat_lt
    have hb := b.toNat_lt
    have hc := c.toNat_lt
    have hd := d.toNat_lt
    simp only [rd, List.foldl_cons, List.foldl_nil, be4, Nat.zero_mul, Nat.zero_add]
    rw [show ((((a.toNat * 256 + b.toNat) * 256 + c.toNat) * 256 + d.toNat) / 16777216 % 256) = a.toNat by omega,
      show ((((a.toNat * 256 + b.toNat) * 256 + c.toNat) * 256 + d.toNat) / 65536 % 256) = b.toNat by omega,
      show ((((a.toNat * 256 + b.toNat) * 256 + c.toNat) * 256 + d.toNat) / 256 % 256) = c.toNat by omega,
      show ((((a.toNat * 256 + b.toNat) * 256 + c.toNat) * 256 + d.toNat) % 256) = d.toNat by omega]
    simp

/-- A record's frame. -/
def frameL (s : List UInt8) : List UInt8 := putL s.length ++ be4 (sumL (putL s.length ++ s)) ++ s

/-- Frames of some records, or the error's number. -/
def joinR : List (List UInt8) → List UInt8 × Nat
  | [] => ([], 0)
  | s :: r => if 1048576 < s.length then ([], 15) else match joinR r with
    | (b, 0) => (frameL s ++ b, 0)
    | (_, e) => ([], e)

/-- From where to where the first record is, or the error's number. -/
def findR (s : List UInt8) : Except Nat (Nat × Nat) :=
  if (scanL s).2.2 ≠ 0 then .error (scanL s).2.2
  else if 1048576 < (scanL s).1 then .error 15
  else if s.length < (scanL s).2.1 + 4 + (scanL s).1 then .error 5
  else if rd ((s.drop (scanL s).2.1).take 4) ≠ sumL (s.take (scanL s).2.1 ++ (s.drop ((scanL s).2.1 + 4)).take (scanL s).1) then .error 6
  else .ok ((scanL s).2.1 + 4, (scanL s).2.1 + 4 + (scanL s).1)

theorem scanFrom_take : ∀ (s : List UInt8) (i n : Nat), i ≤ 9 → scanFrom (s.take (10 - i)) i n = scanFrom s i n := by
  intro s
  induction s with
  | nil => intro i n _; simp [scanFrom]
  | cons b r ih =>
    intro i n hi
    rw [show 10 - i = (9 - i) + 1 by omega, List.take_succ_cons]
    simp only [scanFrom]
    split
    · rfl
    · rename_i h9
      split
      · rename_i h128
        have hi8 : i ≤ 8 := by
          rcases Nat.lt_or_ge i 9 with h | h
          · omega
          · exact absurd ⟨by omega, by omega⟩ h9
        rw [show 9 - i = 10 - (i + 1) by omega]
        exact ih (i + 1) _ (by omega)
      · rfl

theorem scanL_take (s : List UInt8) : scanL (s.take 10) = scanL s := scanFrom_take s 0 0 (by omega)

/-- What is framed is found. -/
theorem findR_frame (s r : List UInt8) (h : s.length ≤ 1048576) : findR (frameL s ++ r) = .ok ((putL s.length).length + 4, (putL s.length).length + 4 + s.length) := by
  have hs : scanL (frameL s ++ r) = (s.length, (putL s.length).length, 0) := by
    unfold frameL
    rw [List.append_assoc, List.append_assoc]
    exact scanL_put _ _ (by omega)
  unfold findR
  rw [hs]
  simp only
  have h4 := be4_length (sumL (putL s.length ++ s))
  have d1 : (frameL s ++ r).drop (putL s.length).length = be4 (sumL (putL s.length ++ s)) ++ (s ++ r) := by
    unfold frameL
    rw [List.append_assoc, List.append_assoc, List.drop_left']
    rfl
  have d2 : (frameL s ++ r).drop ((putL s.length).length + 4) = s ++ r := by
    rw [← List.drop_drop, d1, List.drop_left']
    exact h4
  have t1 : (frameL s ++ r).take (putL s.length).length = putL s.length := by
    unfold frameL
    rw [List.append_assoc, List.append_assoc, List.take_left']
    rfl
  have hl : (frameL s ++ r).length = (putL s.length).length + 4 + s.length + r.length := by
    unfold frameL
    simp [be4_length]
    omega
  rw [if_neg (by simp), if_neg (by omega), if_neg (by omega), d1, d2, t1, List.take_left' h4, List.take_left' rfl, rd_be4 _ (sumL_lt _), if_neg (by simp)]

theorem findR_ok {s : List UInt8} {a b : Nat} (h : findR s = .ok (a, b)) :
    b ≤ s.length ∧ a ≤ b ∧ 5 ≤ a ∧ a ≤ 14 ∧ b - a ≤ 1048576 ∧ s.take b = frameL ((s.take b).drop a) := by
  unfold findR at h
  by_cases h0 : (scanL s).2.2 ≠ 0
  · rw [if_pos h0] at h; simp at h
  · rw [if_neg h0] at h
    obtain ⟨m, k, hmk⟩ : ∃ m k, scanL s = (m, k, 0) := ⟨(scanL s).1, (scanL s).2.1, by
      have : (scanL s).2.2 = 0 := by simpa using h0
      rw [← this]⟩
    obtain ⟨hs, hk, hm, hk10⟩ := scanL_ok hmk
    have hp := putL_pos m
    rw [hmk] at h
    simp only at h
    by_cases h1 : 1048576 < m
    · rw [if_pos h1] at h; simp at h
    · rw [if_neg h1] at h
      by_cases h2 : s.length < k + 4 + m
      · rw [if_pos h2] at h; simp at h
      · rw [if_neg h2] at h
        by_cases h3 : rd ((s.drop k).take 4) ≠ sumL (s.take k ++ (s.drop (k + 4)).take m)
        · rw [if_pos h3] at h; simp at h
        · rw [if_neg h3] at h
          simp only [Except.ok.injEq, Prod.mk.injEq] at h
          obtain ⟨rfl, rfl⟩ := h
          refine ⟨by omega, by omega, by omega, by omega, by omega, ?_⟩
          have hdat : (s.take (k + 4 + m)).drop (k + 4) = (s.drop (k + 4)).take m := by
            rw [List.drop_take]
            congr 1
            omega
          have hlen : ((s.drop (k + 4)).take m).length = m := by simp; omega
          have h4 : ((s.drop k).take 4).length = 4 := by simp; omega
          have htk : s.take k = putL m := by rw [hs, hk, List.take_left']; rfl
          rw [hdat]
          unfold frameL
          rw [hlen]
          have hsum : sumL (putL m ++ (s.drop (k + 4)).take m) = rd ((s.drop k).take 4) := by
            rw [← htk]
            exact (Decidable.not_not.1 h3).symm
          rw [hsum, be4_rd _ h4, ← htk]
          rw [show k + 4 + m = k + (4 + m) by omega, List.take_add, List.take_add, List.drop_drop, List.append_assoc]

theorem findR_err {s : List UInt8} {e : Nat} (h : findR s = .error e) : e ≠ 0 ∧ e ≤ 15 := by
  unfold findR at h
  by_cases h0 : (scanL s).2.2 ≠ 0
  · rw [if_pos h0] at h
    simp at h
    rcases scanL_no s with h' | h' | h'
    · exact absurd h' h0
    · rw [h'] at h; simp at h; omega
    · rw [h'] at h; simp at h; omega
  · rw [if_neg h0] at h
    split at h
    · simp at h; omega
    · split at h
      · simp at h; omega
      · split at h
        · simp at h; omega
        · simp at h

/-- All records that bytes begin with, and how many bytes these have; f bounds how many. -/
def allF : Nat → List UInt8 → List (List UInt8) × Nat
  | 0, _ => ([], 0)
  | f + 1, s => match findR s with
    | .error _ => ([], 0)
    | .ok (a, b) => (((s.take b).drop a) :: (allF f (s.drop b)).1, b + (allF f (s.drop b)).2)

def allR (s : List UInt8) : List (List UInt8) × Nat := allF s.length s

theorem allF_enough : ∀ (f g : Nat) (s : List UInt8), s.length ≤ f → s.length ≤ g → allF f s = allF g s := by
  intro f
  induction f with
  | zero =>
    intro g s hf hg
    have : s = [] := List.eq_nil_of_length_eq_zero (by omega)
    subst this
    cases g with
    | zero => rfl
    | succ g => rfl
  | succ f ih =>
    intro g s hf hg
    cases g with
    | zero =>
      have : s = [] := List.eq_nil_of_length_eq_zero (by omega)
      subst this
      rfl
    | succ g =>
      simp only [allF]
      cases hr : findR s with
      | error e => rfl
      | ok p =>
        obtain ⟨a, b⟩ := p
        obtain ⟨h1, h2, h3, _⟩ := findR_ok hr
        simp only
        rw [ih g (s.drop b) (by simp; omega) (by simp; omega)]

theorem allR_err {s : List UInt8} {e : Nat} (h : findR s = .error e) : allR s = ([], 0) := by
  unfold allR
  cases s with
  | nil => rfl
  | cons c r => simp only [List.length_cons, allF]; rw [h]

theorem allR_ok {s : List UInt8} {a b : Nat} (h : findR s = .ok (a, b)) : allR s = (((s.take b).drop a) :: (allR (s.drop b)).1, b + (allR (s.drop b)).2) := by
  obtain ⟨h1, h2, h3, _⟩ := findR_ok h
  have hl : 0 < s.length := by omega
  unfold allR
  obtain ⟨f, hf⟩ : ∃ f, s.length = f + 1 := ⟨s.length - 1, by omega⟩
  rw [hf, allF, h]
  simp only
  rw [allF_enough f (s.drop b).length (s.drop b) (by simp; omega) (Nat.le_refl _)]

theorem allR_le : ∀ (f : Nat) (s : List UInt8), s.length ≤ f → (allR s).2 ≤ s.length ∧ 5 * (allR s).1.length ≤ (allR s).2 := by
  intro f
  induction f with
  | zero =>
    intro s h
    have : s = [] := List.eq_nil_of_length_eq_zero (by omega)
    subst this
    simp [allR, allF]
  | succ f ih =>
    intro s h
    cases hr : findR s with
    | error e => rw [allR_err hr]; simp
    | ok p =>
      obtain ⟨a, b⟩ := p
      obtain ⟨h1, h2, h3, _⟩ := findR_ok hr
      rw [allR_ok hr]
      have := ih (s.drop b) (by simp; omega)
      simp at this ⊢
      omega

/-- What was joined is told, whatever stands behind it that is no frame. -/
theorem allR_frame (s r : List UInt8) (h : s.length ≤ 1048576) : allR (frameL s ++ r) = (s :: (allR r).1, (frameL s).length + (allR r).2) := by
  have hf := findR_frame s r h
  rw [allR_ok hf]
  have hl : (frameL s).length = (putL s.length).length + 4 + s.length := by unfold frameL; simp [be4_length]; omega
  have ht : (frameL s ++ r).take ((putL s.length).length + 4 + s.length) = frameL s := List.take_left' hl
  have hd : (frameL s ++ r).drop ((putL s.length).length + 4 + s.length) = r := List.drop_left' hl
  have hdd : (frameL s).drop ((putL s.length).length + 4) = s := by
    unfold frameL
    apply List.drop_left'
    simp [be4_length]
  rw [ht, hd, hdd, hl]

theorem frameL_length (s : List UInt8) : (frameL s).length = (putL s.length).length + 4 + s.length := by unfold frameL; simp [be4_length]; omega

/-- A frame that is cut is none. -/
theorem findR_cut (s : List UInt8) (c : Nat) (h : s.length ≤ 1048576) (hc : c < (frameL s).length) : ∃ e, findR ((frameL s).take c) = .error e := by
  cases hr : findR ((frameL s).take c) with
  | error e => exact ⟨e, rfl⟩
  | ok p =>
    exfalso
    obtain ⟨a, b⟩ := p
    have hl := frameL_length s
    have hk10 := putL_len10 (n := s.length) (by omega)
    unfold findR at hr
    by_cases h0 : (scanL ((frameL s).take c)).2.2 ≠ 0
    · rw [if_pos h0] at hr; simp at hr
    · rw [if_neg h0] at hr
      obtain ⟨m, k, hmk⟩ : ∃ m k, scanL ((frameL s).take c) = (m, k, 0) := ⟨(scanL ((frameL s).take c)).1, (scanL ((frameL s).take c)).2.1, by
        have : (scanL ((frameL s).take c)).2.2 = 0 := by simpa using h0
        rw [← this]⟩
      obtain ⟨hs, hk, hm, _⟩ := scanL_ok hmk
      have hfull : scanL (frameL s) = (m, (putL m).length, 0) := by
        have : frameL s = putL m ++ (((frameL s).take c).drop k ++ (frameL s).drop c) := by
          rw [← List.append_assoc, ← hs, List.take_append_drop]
        rw [this]
        exact scanL_put _ _ hm
      have hfull2 : scanL (frameL s) = (s.length, (putL s.length).length, 0) := by
        unfold frameL
        rw [List.append_assoc]
        exact scanL_put _ _ (by omega)
      rw [hfull2] at hfull
      simp only [Prod.mk.injEq] at hfull
      obtain ⟨rfl, _, _⟩ := hfull
      rw [hmk] at hr
      simp only at hr
      rw [if_neg (by omega), if_pos (by rw [List.length_take]; omega)] at hr
      simp at hr

/-- With another byte in its bytes, or in its sum, a frame is none. -/
theorem findR_turned (s : List UInt8) (x y : UInt8) (p q : List UInt8) (h : s.length ≤ 1048576) (hp : frameL s = p ++ x :: q) (hk : (putL s.length).length ≤ p.length) (hxy : x ≠ y) :
    findR (p ++ y :: q) = .error 6 := by
  have hl := frameL_length s
  have hlen : p.length + 1 + q.length = (putL s.length).length + 4 + s.length := by
    have := congrArg List.length hp
    rw [hl] at this
    simp at this
    omega
  obtain ⟨p', rfl⟩ : ∃ p', p = putL s.length ++ p' := by
    refine ⟨p.drop (putL s.length).length, ?_⟩
    have h1 : (frameL s).take (putL s.length).length = putL s.length := by
      unfold frameL
      rw [List.append_assoc, List.take_left']
      rfl
    have h2 : (p ++ x :: q).take (putL s.length).length = p.take (putL s.length).length := by
      rw [List.take_append_of_le_length hk]
    have h3 : p.take (putL s.length).length = putL s.length := by rw [← h2, ← hp, h1]
    exact (List.take_append_drop (putL s.length).length p).symm.trans (by rw [h3])
  have htail : be4 (sumL (putL s.length ++ s)) ++ s = p' ++ x :: q := by
    have := hp
    unfold frameL at this
    rw [List.append_assoc, List.append_assoc] at this
    exact List.append_cancel_left this
  have hsc : scanL (putL s.length ++ p' ++ y :: q) = (s.length, (putL s.length).length, 0) := by
    rw [List.append_assoc]
    exact scanL_put _ _ (by omega)
  unfold findR
  rw [hsc]
  simp only
  have hd : (putL s.length ++ p' ++ y :: q).drop (putL s.length).length = p' ++ y :: q := by
    rw [List.append_assoc, List.drop_left']
    rfl
  have ht : (putL s.length ++ p' ++ y :: q).take (putL s.length).length = putL s.length := by
    rw [List.append_assoc, List.take_left']
    rfl
  simp only [List.length_append] at hlen hk
  rw [if_neg (by simp), if_neg (by omega), if_neg (by simp; omega), ← List.drop_drop, hd, ht, if_pos]
  have hwhole : ((p' ++ y :: q).drop 4).take s.length = (p' ++ y :: q).drop 4 := by
    apply List.take_of_length_le
    simp
    omega
  rw [hwhole]
  rcases Nat.lt_or_ge p'.length 4 with h4 | h4
  · -- the byte stands in the sum
    intro he
    have hs2 : (p' ++ y :: q).drop 4 = s := by
      have h1 : (p' ++ x :: q).drop 4 = s := by rw [← htail, List.drop_left']; rfl
      rw [← h1]
      rw [List.drop_append, List.drop_append, List.drop_of_length_le (by omega)]
      obtain ⟨j, hj⟩ : ∃ j, 4 - p'.length = j + 1 := ⟨3 - p'.length, by omega⟩
      rw [hj]
      rfl
    rw [hs2] at he
    have hx : rd ((p' ++ x :: q).take 4) = sumL (putL s.length ++ s) := by
      rw [← htail, List.take_left' (be4_length _), rd_be4 _ (sumL_lt _)]
    have e1 := congrArg be4 (he.trans hx.symm)
    rw [be4_rd _ (by simp; omega), be4_rd _ (by simp; omega)] at e1
    rw [List.take_append, List.take_append] at e1
    have e2 := List.append_cancel_left e1
    obtain ⟨j, hj⟩ : ∃ j, 4 - p'.length = j + 1 := ⟨3 - p'.length, by omega⟩
    rw [hj] at e2
    simp at e2
    exact hxy e2.symm
  · -- the byte stands in the record
    intro he
    have hxt : (p' ++ x :: q).take 4 = (p' ++ y :: q).take 4 := by
      rw [List.take_append_of_le_length h4, List.take_append_of_le_length h4]
    have hx : rd ((p' ++ y :: q).take 4) = sumL (putL s.length ++ s) := by
      rw [← hxt, ← htail, List.take_left' (be4_length _), rd_be4 _ (sumL_lt _)]
    rw [hx] at he
    have hs1 : s = p'.drop 4 ++ x :: q := by
      have h1 : (p' ++ x :: q).drop 4 = s := by rw [← htail, List.drop_left']; rfl
      rw [← h1, List.drop_append_of_le_length h4]
    rw [List.drop_append_of_le_length h4] at he
    have e3 : putL s.length ++ s = (putL s.length ++ p'.drop 4) ++ x :: q := by rw [List.append_assoc, ← hs1]
    have e4 : putL s.length ++ (p'.drop 4 ++ y :: q) = (putL s.length ++ p'.drop 4) ++ y :: q := by rw [List.append_assoc]
    rw [e3, e4] at he
    exact sumL_turned _ _ _ _ hxy he
end Go.Proofs.Frm
