/-
  A slice of letters, as letters, over this seat's program.
-/
import Derived.Test.YtedpimhhbajljaaGreatDoorRdc
set_option linter.unusedVariables false
namespace Go.Proofs.YtedpimhhbajljaaGreatDoor
open Go.RowKit Go.Proofs.Rns

/-- The value v is a slice of letters whose elements are l. -/
def RowI (w : World) (v : Value) (l : List Int) : Prop :=
  ∃ (a : Option Addr) (cap : Nat), v = .slice a l.length cap ∧ (∀ n ∈ l, -2147483648 ≤ n ∧ n ≤ 2147483647) ∧
    (l = [] ∨ ∃ b off, a = some ⟨b, off, none⟩ ∧ b < w.heap.size ∧ ∀ j (h : j < l.length), w.cell? ⟨b, off + j, none⟩ = some (.int .i32 l[j]))
theorem RowI.below {w w' : World} {v : Value} {l : List Int} (h : RowI w v l) (hb : Below w.heap.size w w') : RowI w' v l := by
  obtain ⟨a, cap, hv, hn, hc⟩ := h
  refine ⟨a, cap, hv, hn, ?_⟩
  rcases hc with hc | ⟨b, off, ha, hlt, hc⟩
  · exact Or.inl hc
  · have := hb.size
    refine Or.inr ⟨b, off, ha, by omega, fun j hj => ?_⟩
    rw [hb.cell (p := ⟨b, off + j, none⟩) hlt]
    exact hc j hj

end Go.Proofs.YtedpimhhbajljaaGreatDoor

/-
  What missiveref06.Same and missiveref06.Is do, over this seat's program; and a row of letters that the call owns, as letters.
-/
set_option linter.unusedVariables false
namespace Go.Proofs.YtedpimhhbajljaaGreatDoor
open Go.RowKit Go.Proofs.Rns

theorem takeI_next {l r : List Int} {k : Nat} (hl : k < l.length) (hr : k < r.length) : l.take (k + 1) = r.take (k + 1) ↔ l.take k = r.take k ∧ l[k] = r[k] := by
  rw [List.take_succ_eq_append_getElem hl, List.take_succ_eq_append_getElem hr]
  constructor
  · intro h
    have := List.append_inj' h rfl
    exact ⟨this.1, by simpa using this.2⟩
  · rintro ⟨h1, h2⟩
    rw [h1, h2]

set_option maxHeartbeats 1000000 in
set_option maxRecDepth 100000 in
/-- Same tells whether the two lists of letters are one. -/
theorem same_any (v v' : Value) (l r : List Int) (w : World) (h : RowI w v l) (h' : RowI w v' r) (hl : l.length ≤ 9223372036854775807) :
    Calls Tryz.prog 25 #[v, v'] w fun e w' => e = .returned (.bool (decide (l = r))) ∧ Below w.heap.size w w' := by
  obtain ⟨a, cap, rfl, hn, hc⟩ := h
  obtain ⟨a', cap', rfl, hn', hc'⟩ := h'
  have HC := hide hc
  have HC' := hide hc'
  clear hc hc' hn hn'
  by_cases hlr : l.length = r.length
  · have hbe : ((l.length : Int) != (r.length : Int)) = false := by simp [hlr]
    have HLR := hide hlr
    clear hlr
    go_enter Tryz.func25, Tryz.ntmps25
    go_wp2
    go_loopw [5, 13] (fun x z wr => ∃ k : Nat, z = .int .i64 k ∧ k ≤ l.length ∧ Hid (l.take k = r.take k) ∧ Below w.heap.size w wr) (fun _ z _ => l.length - (intOf z).toNat)
    case atStart => exact ⟨0, rfl, Nat.zero_le _, hide rfl, Below.refl _ _⟩
    case round =>
      obtain ⟨k, rfl, hk, HT, hbw⟩ := hrel
      by_cases hlt : k < l.length
      · have hlt' : k < r.length := by have := unhide HLR; omega
        have hx : ∃ b off, a = some ⟨b, off, none⟩ ∧ wr.cell? ⟨b, off + k, none⟩ = some (.int .i32 l[k]) := by
          rcases unhide HC with h | ⟨b, off, ha, hb, hcj⟩
          · subst h; simp at hlt
          · exact ⟨b, off, ha, (hbw.cell (p := ⟨b, off + k, none⟩) hb).trans (hcj k hlt)⟩
        have hy : ∃ b off, a' = some ⟨b, off, none⟩ ∧ wr.cell? ⟨b, off + k, none⟩ = some (.int .i32 r[k]) := by
          rcases unhide HC' with h | ⟨b, off, ha, hb, hcj⟩
          · subst h; simp at hlt'
          · exact ⟨b, off, ha, (hbw.cell (p := ⟨b, off + k, none⟩) hb).trans (hcj k hlt')⟩
        obtain ⟨b, off, rfl, hcx⟩ := hx
        obtain ⟨b', off', rfl, hcy⟩ := hy
        have hlt1 : (k : Int) < (l.length : Int) := by omega
        have hlt2 : (k : Int) < (r.length : Int) := by omega
        by_cases he : l[k] = r[k]
        · have hbq : (l[k] != r[k]) = false := by simp [he]
          have HN := hide ((takeI_next hlt hlt').2 ⟨unhide HT, he⟩)
          clear he HT
          generalize l[k] = x at hcx hbq
          generalize r[k] = y at hcy hbq
          go_wp2
          go_quiet (fail)
          go_wp2
          exact ⟨⟨k + 1, by go_num, by omega, HN, below_drewN hbw _⟩, by simp [intOf]; omega⟩
        · have hbq : (l[k] != r[k]) = true := by simp [he]
          have hfin : decide (l = r) = false := by
            rw [decide_eq_false_iff_not]
            intro h
            subst h
            exact he rfl
          have HF := hide hfin
          clear hfin he
          generalize l[k] = x at hcx hbq
          generalize r[k] = y at hcy hbq
          go_wp2
          go_quiet (fail)
          go_wp2
          go_ret
          exact ⟨by rw [unhide HF]; rfl, below_drewN hbw _⟩
      · have hfin : decide (l = r) = true := by
          rw [decide_eq_true_iff]
          have h1 := unhide HT
          have h2 := unhide HLR
          rw [List.take_of_length_le (by omega), List.take_of_length_le (by omega)] at h1
          exact h1
        have HF := hide hfin
        clear hfin
        go_wp2
        go_ret
        exact ⟨by rw [unhide HF]; rfl, hbw⟩
  · have hbe : ((l.length : Int) != (r.length : Int)) = true := by simp; omega
    have hfin : decide (l = r) = false := by
      rw [decide_eq_false_iff_not]
      intro h
      exact hlr (by rw [h])
    have HF := hide hfin
    clear hfin hlr
    go_enter Tryz.func25, Tryz.ntmps25
    go_wp2
    go_ret
    exact ⟨by rw [unhide HF]; rfl, Below.refl _ _⟩

/-- A row of letters that the call owns, as letters. -/
theorem own_rowI {w : World} {B : Nat} {v : Value} {l : List Nat} (h : w.ownsRow B 21 1 v l.length (runeC l)) (hn : ∀ n ∈ l, isL (n : Int) = true) : RowI w v (ints l) := by
  have hlen : (ints l).length = l.length := by simp [ints]
  have hr : ∀ n ∈ ints l, -2147483648 ≤ n ∧ n ≤ 2147483647 := by
    intro n hm
    simp only [ints, List.mem_map] at hm
    obtain ⟨m, hm, rfl⟩ := hm
    have := hn m hm
    simp only [isL, decide_eq_true_eq] at this
    have e : Int.ofNat m = (m : Int) := rfl
    omega
  rcases h.2 with ⟨hv, h0⟩ | ⟨g, cap, cur, hv, hg, hh, hn', hm, hs, ht⟩
  · have : l = [] := List.eq_nil_of_length_eq_zero h0
    subst this
    exact ⟨none, 0, by rw [hv]; rfl, hr, Or.inl rfl⟩
  · refine ⟨some ⟨g, 0, none⟩, cap, by rw [hv, hlen], hr, Or.inr ⟨g, 0, rfl, (Array.getElem?_eq_some_iff.1 hh).1, fun j hj => ?_⟩⟩
    rw [hlen] at hj
    have h1 : (cur.toList.take (l.length * 1))[j]? = (runeC l)[j]? := by rw [ht]
    have h2 : (runeC l)[j]? = some (.int .i32 ((ints l)[j]'(by omega))) := by simp [runeC, ints, List.getElem?_eq_getElem hj]
    rw [h2, List.getElem?_take, if_pos (by omega)] at h1
    simp only [World.cell?, hh]
    simpa using h1

/-- A literal of letters. -/
theorem lit_rowI (w : World) (l : List Int) (cs : Array Value) (hcs : cs = (l.map fun n => Value.int .i32 n).toArray) (hr : ∀ n ∈ l, -2147483648 ≤ n ∧ n ≤ 2147483647) (m : Nat) (hm : m = l.length) : RowI (w.alloc (.cells cs 21)) (.slice (some ⟨w.heap.size, 0, none⟩) m m) l := by
  subst hm
  refine ⟨_, _, rfl, hr, Or.inr ⟨w.heap.size, 0, rfl, by simp, fun j hj => ?_⟩⟩
  have h : Blk (w.alloc (.cells cs 21)) w.heap.size 21 cs := Blk.new w _ _
  rw [Blk.cell h, hcs]
  simp [List.getElem?_eq_getElem hj]

theorem decL_is (c : Nat) (hc : c ≤ 5) (s : List UInt8) : ∀ n ∈ decL c s, isL (n : Int) = true := by
  unfold decL
  split
  · exact lettersL_is s
  · intro n hn
    simp only [List.mem_map] at hn
    obtain ⟨b, _, rfl⟩ := hn
    exact ofB_is hc b.toNat_lt
theorem decR_is (c : Nat) (s : List UInt8) : ∀ n ∈ (decR c s).1, isL (n : Int) = true := by
  unfold decR
  split
  · exact decL_is c (by omega) s
  · intro n hn; simp at hn
end Go.Proofs.YtedpimhhbajljaaGreatDoor
