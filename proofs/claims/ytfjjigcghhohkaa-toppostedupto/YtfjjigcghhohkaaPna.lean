/-
  A packed list, read number by number: plain mathematics.
-/
import Derived.Test.YtfjjigcghhohkaaNum
import Derived.Test.YtfjjigcghhohkaaDct
set_option linter.unusedVariables false
namespace Go.Proofs.Pna
open Go.Proofs.Num Go.Proofs.Dct

/-- A reader: where it stands, the least number that rises, what is wrong. -/
structure RS where
  pos : Nat
  least : Nat
  er : Nat
def failS (r : RS) (e : Nat) : RS := if r.er = 0 then { r with er := e } else r
def numS (T : List UInt8) (r : RS) : Nat × RS :=
  if r.er = 0 then
    if (scanL (T.drop r.pos)).2.2 = 0 then ((scanL (T.drop r.pos)).1, { r with pos := r.pos + (scanL (T.drop r.pos)).2.1 })
    else (0, { r with er := (scanL (T.drop r.pos)).2.2 })
  else (0, r)
def takeS (r : RS) (b : Nat) : Nat × RS := if 4294967295 < b ∨ 4294967295 < r.least + b then (0, failS r 7) else (r.least + b, { r with least := r.least + b + 1 })
def firstS (T : List UInt8) (r : RS) : Nat × RS :=
  if (numS T r).2.least = 0 then takeS (numS T r).2 (numS T r).1 else takeS (numS T r).2 (if (numS T r).1 = 0 then 18446744073709551615 else (numS T r).1 - 1)
def countS (T : List UInt8) (r : RS) : Nat × RS := if 65536 < (numS T r).1 then (0, failS (numS T r).2 15) else numS T r
def oneS (T : List UInt8) (r : RS) : Nat × RS := takeS (numS T r).2 (numS T r).1
def restF (T : List UInt8) : Nat → RS → List Nat × RS
  | 0, r => ([], r)
  | k + 1, r => ((oneS T r).1 :: (restF T k (oneS T r).2).1, (restF T k (oneS T r).2).2)
/-- The bytes that the rest of a block has. -/
def innerT (T : List UInt8) (r : RS) (size : Nat) : List UInt8 := if size ≤ (T.drop r.pos).length then (T.drop r.pos).take size else T.drop r.pos
def endS (whole : Bool) (size : Nat) (i : RS) : RS :=
  let i1 := if i.er = 5 ∧ whole = true then { i with er := 7 } else i
  if i1.pos ≠ size then failS i1 7 else i1
def restS (T : List UInt8) (r : RS) (many : Nat) : List Nat × RS :=
  let size := (numS T r).1
  let r1 := (numS T r).2
  let q := restF (innerT T r1 size) many ⟨0, r1.least, r1.er⟩
  let i := endS (decide (size ≤ (T.drop r1.pos).length)) size q.2
  (q.1, { failS r1 i.er with pos := r1.pos + i.pos, least := i.least })
def midS (T : List UInt8) (r : RS) (many : Nat) : RS := if (numS T r).1 = many then (numS T r).2 else failS (numS T r).2 7
def blockS (T : List UInt8) (r : RS) (many : Nat) : List Nat × RS :=
  let a := firstS T r
  let c := restS T (midS T a.2 many) (many - 1)
  (a.1 :: c.1, c.2)
def blocksF (T : List UInt8) : Nat → Nat → RS → List (Nat × List Nat) × RS
  | 0, _, r => ([], r)
  | f + 1, left, r => if left = 0 then ([], r) else
    let b := blockS T r (min left 32)
    if b.2.er ≠ 0 then ([], b.2) else ((r.pos, b.1) :: (blocksF T f (left - min left 32) b.2).1, (blocksF T f (left - min left 32) b.2).2)
def readS (T : List UInt8) : List (Nat × List Nat) × RS := blocksF T ((countS T ⟨0, 0, 0⟩).1 + 1) (countS T ⟨0, 0, 0⟩).1 (countS T ⟨0, 0, 0⟩).2

theorem scanL_in (s : List UInt8) : (scanL s).2.2 = 0 → (scanL s).2.1 ≤ s.length := by
  intro h
  obtain ⟨h1, h2, _, _⟩ := scanL_ok (s := s) (m := (scanL s).1) (k := (scanL s).2.1) (by rw [← h])
  have := congrArg List.length h1
  rw [List.length_append, List.length_drop] at this
  omega
theorem scanL_lt (s : List UInt8) : (scanL s).2.2 = 0 → (scanL s).1 < 18446744073709551616 := by
  intro h
  exact (scanL_ok (s := s) (m := (scanL s).1) (k := (scanL s).2.1) (by rw [← h])).2.2.1
theorem failS_pos (r : RS) (e : Nat) : (failS r e).pos = r.pos ∧ (failS r e).least = r.least := by unfold failS; split <;> exact ⟨rfl, rfl⟩
theorem numS_pos {T : List UInt8} {r : RS} (h : r.pos ≤ T.length) : (numS T r).2.pos ≤ T.length := by
  unfold numS
  split
  · split
    · rename_i hs
      have := scanL_in _ hs
      rw [List.length_drop] at this
      simp only
      omega
    · exact h
  · exact h
theorem numS_least (T : List UInt8) (r : RS) : (numS T r).2.least = r.least := by unfold numS; split; split <;> rfl; rfl
theorem numS_lt (T : List UInt8) (r : RS) : (numS T r).1 < 18446744073709551616 := by
  unfold numS
  split
  · split
    · rename_i hs; exact scanL_lt _ hs
    · simp
  · simp
theorem takeS_pos (r : RS) (b : Nat) : (takeS r b).2.pos = r.pos := by unfold takeS; split; exact (failS_pos r 7).1; rfl
theorem takeS_least {r : RS} (b : Nat) (h : r.least ≤ 4294967296) : (takeS r b).2.least ≤ 4294967296 ∧ (takeS r b).1 ≤ 4294967295 := by
  unfold takeS
  split
  · exact ⟨by rw [(failS_pos r 7).2]; exact h, by simp⟩
  · simp only; omega
/-- A reader within its text. -/
structure In (T : List UInt8) (r : RS) : Prop where
  pos : r.pos ≤ T.length
  least : r.least ≤ 4294967296
theorem In.num {T : List UInt8} {r : RS} (h : In T r) : In T (numS T r).2 := ⟨numS_pos h.pos, by rw [numS_least]; exact h.least⟩
theorem In.fail {T : List UInt8} {r : RS} (h : In T r) (e : Nat) : In T (failS r e) := ⟨by rw [(failS_pos r e).1]; exact h.pos, by rw [(failS_pos r e).2]; exact h.least⟩
theorem In.take {T : List UInt8} {r : RS} (h : In T r) (b : Nat) : In T (takeS r b).2 := ⟨by rw [takeS_pos]; exact h.pos, (takeS_least b h.least).1⟩
theorem In.first {T : List UInt8} {r : RS} (h : In T r) : In T (firstS T r).2 := by unfold firstS; split; exact h.num.take _; exact h.num.take _
theorem In.count {T : List UInt8} {r : RS} (h : In T r) : In T (countS T r).2 := by unfold countS; split; exact h.num.fail _; exact h.num
theorem In.one {T : List UInt8} {r : RS} (h : In T r) : In T (oneS T r).2 := h.num.take _
theorem In.restF {T : List UInt8} : ∀ (k : Nat) {r : RS}, In T r → In T (restF T k r).2
  | 0, _, h => h
  | k + 1, _, h => In.restF k h.one
theorem restF_len (T : List UInt8) : ∀ (k : Nat) (r : RS), (restF T k r).1.length = k
  | 0, _ => rfl
  | k + 1, r => by simp only [restF, List.length_cons, restF_len T k]
theorem restF_le (T : List UInt8) : ∀ (k : Nat) (r : RS), r.least ≤ 4294967296 → ∀ n ∈ (restF T k r).1, n ≤ 4294967295
  | 0, _, _, n, h => by simp [Pna.restF] at h
  | k + 1, r, hr, n, h => by
    simp only [Pna.restF, List.mem_cons] at h
    have h1 := takeS_least (r := (numS T r).2) (numS T r).1 (by rw [numS_least]; exact hr)
    rcases h with rfl | h
    · exact h1.2
    · exact restF_le T k _ h1.1 n h
/-- One more at the end. -/
theorem restF_next (T : List UInt8) : ∀ (k : Nat) (r : RS), restF T (k + 1) r = ((restF T k r).1 ++ [(oneS T (restF T k r).2).1], (oneS T (restF T k r).2).2)
  | 0, r => rfl
  | k + 1, r => by
    have := restF_next T k (oneS T r).2
    conv => lhs; unfold Pna.restF
    rw [this]
    rfl
theorem innerT_len (T : List UInt8) (r : RS) (size : Nat) : (innerT T r size).length ≤ (T.drop r.pos).length := by
  unfold innerT
  split
  · rw [List.length_take]; omega
  · exact Nat.le_refl _
theorem endS_pos (w : Bool) (s : Nat) (i : RS) : (endS w s i).pos = i.pos ∧ (endS w s i).least = i.least := by
  have key : ∀ x : RS, x.pos = i.pos → x.least = i.least → (if x.pos ≠ s then failS x 7 else x).pos = i.pos ∧ (if x.pos ≠ s then failS x 7 else x).least = i.least := by
    intro x h1 h2
    split
    · rw [(failS_pos x 7).1, (failS_pos x 7).2]; exact ⟨h1, h2⟩
    · exact ⟨h1, h2⟩
  unfold endS
  by_cases h : i.er = 5 ∧ w = true
  · simp only [if_pos h]; exact key { i with er := 7 } rfl rfl
  · simp only [if_neg h]; exact key _ rfl rfl
theorem In.rest {T : List UInt8} {r : RS} (h : In T r) (many : Nat) : In T (restS T r many).2 := by
  have h1 := h.num
  have h2 : In (innerT T (numS T r).2 (numS T r).1) ⟨0, (numS T r).2.least, (numS T r).2.er⟩ := ⟨Nat.zero_le _, h1.least⟩
  have h3 := In.restF many h2
  have h4 := innerT_len T (numS T r).2 (numS T r).1
  have h5 := h3.pos
  rw [List.length_drop] at h4
  refine ⟨?_, ?_⟩
  · show (numS T r).2.pos + (endS _ _ _).pos ≤ _
    rw [(endS_pos _ _ _).1]
    have := h1.pos
    omega
  · show (endS _ _ _).least ≤ _
    rw [(endS_pos _ _ _).2]
    exact h3.least
theorem In.mid {T : List UInt8} {r : RS} (h : In T r) (many : Nat) : In T (midS T r many) := by unfold midS; split; exact h.num; exact h.num.fail _
theorem In.block {T : List UInt8} {r : RS} (h : In T r) (many : Nat) : In T (blockS T r many).2 := (h.first.mid many).rest _
end Go.Proofs.Pna
