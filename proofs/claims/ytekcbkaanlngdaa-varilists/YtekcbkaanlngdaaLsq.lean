/-
  What the first statements' own questions on lists do, over this seat's program; and how a slice that came in is a row of numbers.
-/
import Derived.Test.YtekcbkaanlngdaaRrd
set_option linter.unusedVariables false
namespace Go.Proofs.Ytekcbkaanlngdaa
open Go.RowKit Go.Proofs.Num

/-- What is told of a slice of integers that came in: it is nil, or it leads to a row of 'cap' cells, the numbers 'zs', of which the first 'len' are its elements. -/
def IsRow (k : IntKind) (w : World) (a : Option Addr) (len cap : Nat) (zs : List Int) : Prop :=
  (a = none ∧ len = 0 ∧ cap = 0 ∧ zs = []) ∨
  ∃ x, a = some x ∧ len ≤ cap ∧ cap ≤ maxLen ∧ zs.length = cap ∧ (∀ i, i < zs.length → w.cell? (x.add i) = some (.int k (zs.getD i 0))) ∧ ∀ n ∈ zs, (Lit.int k n).wf = true

theorem u32_range {n : Int} (h : (Lit.int .u32 n).wf = true) : 0 ≤ n ∧ n ≤ 4294967295 := by
  simp [Lit.wf, IntKind.min, IntKind.max, IntKind.bits, IntKind.signed] at h
  omega

theorem row_of_isRow {w : World} {a : Option Addr} {len cap : Nat} {zs : List Int} (h : IsRow .u32 w a len cap zs) : ∃ l, Row w (.slice a len cap) l := by
  rcases h with ⟨rfl, rfl, rfl, rfl⟩ | ⟨x, rfl, hl, hm, hz, hc, hw⟩
  · exact ⟨[], none, 0, rfl, by simp, by simp, Or.inl rfl⟩
  · have hlen : ((zs.take len).map Int.toNat).length = len := by simp; omega
    refine ⟨(zs.take len).map Int.toNat, some x, cap, by rw [hlen], by rw [hlen]; unfold maxLen at hm; omega, ?_, ?_⟩
    · intro n hn
      obtain ⟨m, hm', rfl⟩ := List.mem_map.1 hn
      have := u32_range (hw m (List.mem_of_mem_take hm'))
      omega
    · by_cases h0 : len = 0
      · left; subst h0; simp
      · right
        have hc0 := hc 0 (by omega)
        have hx0 : x.add 0 = x := by simp [Addr.add]
        rw [hx0] at hc0
        have hsp : x.spot = none := by
          cases hs : x.spot with
          | none => rfl
          | some y =>
            simp only [World.cell?, hs] at hc0
            split at hc0 <;> simp at hc0
        obtain ⟨b, off, sp⟩ := x
        simp only at hsp
        subst hsp
        refine ⟨b, off, rfl, ?_, ?_⟩
        · rcases Nat.lt_or_ge b w.heap.size with h' | h'
          · exact h'
          · simp [World.cell?, Array.getElem?_eq_none h'] at hc0
        · intro j hj
          rw [hlen] at hj
          have hcj := hc j (by omega)
          have ha : Addr.add ⟨b, off, none⟩ j = ⟨b, off + j, none⟩ := by
            unfold Addr.add
            by_cases h0 : j = 0
            · simp [h0]
            · simp [h0]
          rw [ha] at hcj
          rw [hcj]
          have hjz : j < zs.length := by omega
          have hr := u32_range (hw zs[j] (List.getElem_mem hjz))
          simp [List.getD, List.getElem?_eq_getElem hjz]
          omega

theorem row_three (w : World) (x y z : Nat) (hx : x ≤ 4294967295) (hy : y ≤ 4294967295) (hz : z ≤ 4294967295) :
    Row (w.alloc (.cells #[.int .u32 x, .int .u32 y, .int .u32 z] 42)) (.slice (some ⟨w.heap.size, 0, none⟩) 3 3) [x, y, z] := by
  refine ⟨_, 3, rfl, by simp, by simp; omega, Or.inr ⟨w.heap.size, 0, rfl, by simp, fun j hj => ?_⟩⟩
  match j, hj with
  | 0, _ => simp
  | 1, _ => simp
  | 2, _ => simp
theorem row_two (w : World) (x y : Nat) (hx : x ≤ 4294967295) (hy : y ≤ 4294967295) :
    Row (w.alloc (.cells #[.int .u32 x, .int .u32 y] 42)) (.slice (some ⟨w.heap.size, 0, none⟩) 2 2) [x, y] := by
  refine ⟨_, 2, rfl, by simp, by simp; omega, Or.inr ⟨w.heap.size, 0, rfl, by simp, fun j hj => ?_⟩⟩
  match j, hj with
  | 0, _ => simp
  | 1, _ => simp

theorem below_alloc {w w' : World} {o : Obj} (h : Below (w.alloc o).heap.size (w.alloc o) w') : Below w.heap.size w w' := ((Below.refl _ w).alloc (Nat.le_refl _) o).trans (h.mono (by simp))

theorem list_lit1 (w : World) : Calls Try.prog 20 #[.slice (some ⟨w.heap.size, 0, none⟩) 3 3] (w.alloc (.cells #[.int .u32 5, .int .u32 6, .int .u32 9] 42)) fun e w' => e = .returned (.tuple #[.string { data := #[3, 5, 0, 2] }, .int .i64 0]) ∧ Below w.heap.size w w' := by
  have h := list_any _ _ _ (row_three w 5 6 9 (by omega) (by omega) (by omega))
  rw [show listR [5, 6, 9] = ([3, 5, 0, 2], 0) by decide +kernel] at h
  exact h.mono fun e w' ⟨he, hb⟩ => ⟨he, below_alloc hb⟩
theorem list_lit2 (w : World) : Calls Try.prog 20 #[.slice (some ⟨w.heap.size, 0, none⟩) 2 2] (w.alloc (.cells #[.int .u32 5, .int .u32 5] 42)) fun e w' => e = .returned (.tuple #[.string { data := #[] }, .int .i64 12]) ∧ Below w.heap.size w w' := by
  have h := list_any _ _ _ (row_two w 5 5 (by omega) (by omega))
  rw [show listR [5, 5] = ([], 12) by decide +kernel] at h
  exact h.mono fun e w' ⟨he, hb⟩ => ⟨he, below_alloc hb⟩
theorem read_lit (w : World) : Calls Try.prog 22 #[.string { data := #[3, 5, 0, 2, 121] }] w fun e w' => ∃ v, e = .returned (.tuple #[v, .string { data := #[121] }, .int .i64 0]) ∧ Row w' v [5, 6, 9] ∧ Below w.heap.size w w' := by
  refine (read_any { data := #[3, 5, 0, 2, 121] } w (by decide)).mono ?_
  rintro e w' ⟨v, x, c, rfl, hr, hb⟩
  unfold ReadIs at hr
  rw [show readR (ByteArray.mk #[3, 5, 0, 2, 121]).data.toList = .ok ([5, 6, 9], 4) by rfl] at hr
  obtain ⟨hrow, rfl, rfl⟩ := hr
  exact ⟨v, rfl, hrow, hb⟩

set_option maxHeartbeats 1000000 in
set_option maxRecDepth 100000 in
theorem lists_any (w : World) : Calls Try.prog 24 #[] w fun e w' => e = .returned (.bool true) ∧ Below w.heap.size w w' := by
  go_enter Try.func24, Try.ntmps24
  go_wp2_with fail
  refine (list_lit1 w).mono ?_
  rintro e w1 ⟨rfl, b1⟩
  go_wp2_with fail
  rw [show (({ data := #[3, 5, 0, 2] } : ByteArray) ++ { data := #[121] }) = { data := #[3, 5, 0, 2, 121] } by decide +kernel]
  refine (read_lit _).mono ?_
  rintro e w2 ⟨v, rfl, hrow, b2⟩
  go_wp2_with fail
  refine (list_lit2 w2).mono ?_
  rintro e w3 ⟨rfl, b3⟩
  have HR := hide (hrow.below b3)
  clear hrow
  go_wp2_with fail
  refine (same_any v _ [5, 6, 9] [5, 6, 9] _ ((unhide HR).below ((Below.refl _ w3).alloc (Nat.le_refl _) _)) (row_three w3 5 6 9 (by omega) (by omega) (by omega))).mono ?_
  rintro e w4 ⟨rfl, b4⟩
  go_wp2
  go_ret
  exact ⟨rfl, belows (belows (belows b1 b2) b3) (below_alloc b4)⟩
end Go.Proofs.Ytekcbkaanlngdaa
