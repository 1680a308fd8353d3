/-
  What missivetop.letters does, over this seat's program: whether two lists are one.
-/
import Derived.Test.YtdallfakfhajdaaGreatDoorRsm
set_option linter.unusedVariables false
namespace Go.Proofs.YtdallfakfhajdaaGreatDoor
open Go.RowKit Go.Proofs.Rns

set_option maxHeartbeats 1000000 in
set_option maxRecDepth 100000 in
/-- missivetop.letters tells whether the two lists of letters are one. -/
theorem letters_top (v v' : Value) (l r : List Int) (w : World) (h : RowI w v l) (h' : RowI w v' r) (hl : l.length ≤ 9223372036854775807) :
    Calls Tryz.prog 26 #[v, v'] w fun e w' => e = .returned (.bool (decide (l = r))) ∧ Below w.heap.size w w' := by
  obtain ⟨a, cap, rfl, hn, hc⟩ := h
  obtain ⟨a', cap', rfl, hn', hc'⟩ := h'
  have HC := hide hc
  have HC' := hide hc'
  clear hc hc' hn hn'
  by_cases hlr : l.length = r.length
  · have hbe : ((l.length : Int) != (r.length : Int)) = false := by simp [hlr]
    have HLR := hide hlr
    clear hlr
    go_enter Tryz.func26, Tryz.ntmps26
    go_wp2
    go_loopw [5, 13] (fun x z wr => ∃ k : Nat, z = .int .i64 k ∧ k ≤ l.length ∧ Hid (l.take k = r.take k) ∧ Below w.heap.size w wr) (fun _ z _ => l.length - (intOf z).toNat)
    case atStart => exact ⟨0, rfl, Nat.zero_le _, hide rfl, Below.refl _ _⟩
    case round =>
      obtain ⟨k, rfl, hk, HT, hbw⟩ := hrel
      by_cases hlt : k < l.length
      · have hlt' : k < r.length := by have := unhide HLR; omega
        have hx : ∃ b off, a = some ⟨b, off, none⟩ ∧ wr.cell? ⟨b, off + k, none⟩ = some (.int .i32 l[k]) := by
          rcases unhide HC with h | ⟨b, off, ha, hb, hcj⟩
          · subst h; simp at hlt
          · exact ⟨b, off, ha, (hbw.cell (p := ⟨b, off + k, none⟩) hb).trans (hcj k hlt)⟩
        have hy : ∃ b off, a' = some ⟨b, off, none⟩ ∧ wr.cell? ⟨b, off + k, none⟩ = some (.int .i32 r[k]) := by
          rcases unhide HC' with h | ⟨b, off, ha, hb, hcj⟩
          · subst h; simp at hlt'
          · exact ⟨b, off, ha, (hbw.cell (p := ⟨b, off + k, none⟩) hb).trans (hcj k hlt')⟩
        obtain ⟨b, off, rfl, hcx⟩ := hx
        obtain ⟨b', off', rfl, hcy⟩ := hy
        have hlt1 : (k : Int) < (l.length : Int) := by omega
        have hlt2 : (k : Int) < (r.length : Int) := by omega
        by_cases he : l[k] = r[k]
        · have hbq : (l[k] != r[k]) = false := by simp [he]
          have HN := hide ((takeI_next hlt hlt').2 ⟨unhide HT, he⟩)
          clear he HT
          generalize l[k] = x at hcx hbq
          generalize r[k] = y at hcy hbq
          go_wp2
          go_quiet (fail)
          go_wp2
          exact ⟨⟨k + 1, by go_num, by omega, HN, (by first | exact hbw | exact ⟨hbw.os, hbw.tape, hbw.output, hbw.size, hbw.block⟩)⟩, by simp [intOf]; omega⟩
        · have hbq : (l[k] != r[k]) = true := by simp [he]
          have hfin : decide (l = r) = false := by
            rw [decide_eq_false_iff_not]
            intro h
            subst h
            exact he rfl
          have HF := hide hfin
          clear hfin he
          generalize l[k] = x at hcx hbq
          generalize r[k] = y at hcy hbq
          go_wp2
          go_quiet (fail)
          go_wp2
          go_ret
          exact ⟨by rw [unhide HF]; rfl, (by first | exact hbw | exact ⟨hbw.os, hbw.tape, hbw.output, hbw.size, hbw.block⟩)⟩
      · have hfin : decide (l = r) = true := by
          rw [decide_eq_true_iff]
          have h1 := unhide HT
          have h2 := unhide HLR
          rw [List.take_of_length_le (by omega), List.take_of_length_le (by omega)] at h1
          exact h1
        have HF := hide hfin
        clear hfin
        go_wp2
        go_ret
        exact ⟨by rw [unhide HF]; rfl, hbw⟩
  · have hbe : ((l.length : Int) != (r.length : Int)) = true := by simp; omega
    have hfin : decide (l = r) = false := by
      rw [decide_eq_false_iff_not]
      intro h
      exact hlr (by rw [h])
    have HF := hide hfin
    clear hfin hlr
    go_enter Tryz.func26, Tryz.ntmps26
    go_wp2
    go_ret
    exact ⟨by rw [unhide HF]; rfl, Below.refl _ _⟩
end Go.Proofs.YtdallfakfhajdaaGreatDoor
