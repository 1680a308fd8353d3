/-
  What missiveref01.Same and missiveref13.In do, over this seat's program.
-/
import Derived.Test.YtnhcpkcpgpobdaaDoorBdo
set_option linter.unusedVariables false
namespace Go.Proofs.YtnhcpkcpgpobdaaDoor
open Go.RowKit Go.Proofs.Num Go.Proofs.Dct

theorem takeG_next {α : Type} {l r : List α} {k : Nat} (hl : k < l.length) (hr : k < r.length) : l.take (k + 1) = r.take (k + 1) ↔ l.take k = r.take k ∧ l[k] = r[k] := by
  rw [List.take_succ_eq_append_getElem hl, List.take_succ_eq_append_getElem hr]
  constructor
  · intro h
    have := List.append_inj' h rfl
    exact ⟨this.1, by simpa using this.2⟩
  · rintro ⟨h1, h2⟩
    rw [h1, h2]

set_option maxHeartbeats 400000 in
theorem same32_len (a b : Option Addr) (n m c d : Nat) (w : World) (h : n ≠ m) :
    Calls Tryd.prog 15 #[.slice a n c, .slice b m d] w fun e w' => e = .returned (.bool false) ∧ Below w.heap.size w w' := by
  have hb : ((n : Int) == (m : Int)) = false := by simp; omega
  go_enter Tryd.func15, Tryd.ntmps15
  go_wp2
  go_ret
  exact ⟨rfl, Below.refl _ _⟩

set_option maxHeartbeats 1000000 in
set_option maxRecDepth 100000 in
theorem same32_any (v v' : Value) (l r : List Nat) (w : World) (h : Row32 w v l) (h' : Row32 w v' r) :
    Calls Tryd.prog 15 #[v, v'] w fun e w' => e = .returned (.bool (decide (l = r))) ∧ Below w.heap.size w w' := by
  have HR := hide h
  have HR' := hide h'
  obtain ⟨a, cap, rfl, hl, hn, _⟩ := h
  obtain ⟨a', cap', rfl, hl', hn', _⟩ := h'
  by_cases hlr : l.length = r.length
  · have HLR := hide hlr
    rw [← hlr]
    rw [← hlr] at HR' hl'
    obtain ⟨T, hT⟩ : ∃ T, T = l.length := ⟨_, rfl⟩
    rw [← hT] at HR HR' hl ⊢
    have HTL := hide hT
    clear hT hlr hl' hn hn'
    go_enter Tryd.func15, Tryd.ntmps15
    go_wp2
    go_loopw [5, 13] (fun x z wr => ∃ k : Nat, z = .int .i64 k ∧ k ≤ T ∧ Hid (l.take k = r.take k) ∧ Hid (Below w.heap.size w wr)) (fun _ z _ => T - (intOf z).toNat)
    case atStart => exact ⟨0, rfl, Nat.zero_le _, hide rfl, hide (Below.refl _ _)⟩
    case round =>
      obtain ⟨k, rfl, hk, HT, HB⟩ := hrel
      by_cases hlt : k < T
      · have hlt1 : (k : Int) < (T : Int) := by omega
        have hkl : k < l.length := by have := unhide HTL; omega
        have hkr : k < r.length := by have := unhide HTL; have := unhide HLR; omega
        obtain ⟨b, off, cp, hv1, hblt, hcell⟩ := RowG.at cells32_len ((unhide HR).below (unhide HB)) (j := k) hkl
        obtain ⟨b2, off2, cp2, hv2, hblt2, hcell2⟩ := RowG.at cells32_len ((unhide HR').below (unhide HB)) (j := k) hkr
        injection hv1 with e1 e2 e3
        injection hv2 with e4 e5 e6
        subst e1 e4
        have c0 := hcell 0 (by omega)
        have d0 := hcell2 0 (by omega)
        simp only [cells32, List.getElem?_cons_zero, Nat.add_zero] at c0 d0
        (try simp only [Nat.mul_one] at c0 d0)
        clear e2 e3 e5 e6 hcell hcell2
        have hnx := takeG_next hkl hkr
        by_cases he : l[k] = r[k]
        · have HN := hide (hnx.2 ⟨unhide HT, he⟩)
          have q0 : ((l[k] : Int) == (r[k] : Int)) = true := by rw [he]; simp
          clear hnx he HT
          generalize l[k] = x0 at c0 q0
          generalize r[k] = y0 at d0 q0
          go_wp2
          go_quiet (fail)
          go_wp2
          exact ⟨⟨k + 1, by go_num, by omega, HN, hide (below_drewN (unhide HB) _)⟩, by simp [intOf]; omega⟩
        · have hfin : decide (l = r) = false := by
            rw [decide_eq_false_iff_not]
            intro h
            subst h
            exact he rfl
          have HF := hide hfin
          clear hfin hnx HT
          have g0 : ¬ l[k] = r[k] := fun g0 => he g0
          have q0 : ((l[k] : Int) == (r[k] : Int)) = false := by simp; omega
          clear he g0
          generalize l[k] = x0 at c0 q0
          generalize r[k] = y0 at d0 q0
          go_wp2
          go_quiet (fail)
          go_wp2
          go_ret
          exact ⟨by rw [unhide HF]; rfl, below_drewN (unhide HB) _⟩
      · have hlt1 : ¬ (k : Int) < (T : Int) := by omega
        have hfin : decide (l = r) = true := by
          rw [decide_eq_true_iff]
          have h1 := unhide HT
          have h2 := unhide HLR
          have h3 := unhide HTL
          rw [List.take_of_length_le (by omega), List.take_of_length_le (by omega)] at h1
          exact h1
        have HF := hide hfin
        clear hfin
        go_wp2
        go_ret
        exact ⟨by rw [unhide HF]; rfl, unhide HB⟩
  · have : decide (l = r) = false := by
      rw [decide_eq_false_iff_not]
      intro h
      exact hlr (by rw [h])
    rw [this]
    exact same32_len a a' _ _ cap cap' w hlr

set_option maxHeartbeats 1000000 in
set_option maxRecDepth 100000 in
theorem in_any (v : Value) (l : List Nat) (n : Nat) (w : World) (h : Row32 w v l) (hn : n ≤ 4294967295) :
    Calls Tryd.prog 28 #[v, .int .u32 (n : Int)] w fun e w' => e = .returned (.bool (decide (n ∈ l))) ∧ w' = w := by
  have HR := hide h
  obtain ⟨a, cap, hv, hl4, hfit, _⟩ := h
  subst hv
  have HFT := hide hfit
  obtain ⟨T, hT⟩ : ∃ T, T = l.length := ⟨_, rfl⟩
  rw [← hT] at HR hl4 ⊢
  have HTL := hide hT
  clear hT hfit
  go_enter Tryd.func28, Tryd.ntmps28
  go_wp2
  go_loopw [6, 9] (fun x z wr => ∃ k : Nat, z = .int .i64 (k : Int) ∧ k ≤ T ∧ Hid (n ∉ l.take k) ∧ wr = w) (fun _ z _ => T - (intOf z).toNat)
  case atStart => exact ⟨0, rfl, Nat.zero_le _, hide (by simp), rfl⟩
  case round =>
    obtain ⟨k, rfl, hk, HA, rfl⟩ := hrel
    by_cases hlt : k < T
    · have hlt1 : (k : Int) < (T : Int) := by omega
      have hkl : k < l.length := by have := unhide HTL; omega
      obtain ⟨b, off, cap', hv', hblt, hcell⟩ := RowG.at cells32_len (unhide HR) (j := k) hkl
      injection hv' with e1 e2 e3
      subst e1
      have c0 := hcell 0 (by omega)
      simp only [cells32, List.getElem?_cons_zero, Nat.add_zero, Nat.mul_one] at c0
      clear e2 e3 hcell
      have hx := unhide HFT l[k] (List.getElem_mem hkl)
      by_cases he : l[k] = n
      · have HF : Hid (decide (n ∈ l) = true) := hide (decide_eq_true (by rw [← he]; exact List.getElem_mem hkl))
        have hb : ((l[k] : Int) == (n : Int)) = true := by rw [he]; simp
        clear he HA
        generalize l[k] = x at c0 hx hb
        go_wp2
        go_ret
        exact ⟨by rw [unhide HF]; rfl, rfl⟩
      · have HN : Hid (n ∉ l.take (k + 1)) := hide (by
          rw [List.take_succ_eq_append_getElem hkl, List.mem_append, List.mem_singleton]
          rintro (h | h)
          · exact unhide HA h
          · exact he h.symm)
        have hb : ((l[k] : Int) == (n : Int)) = false := by simp; omega
        clear he HA
        generalize l[k] = x at c0 hx hb
        go_wp2
        exact ⟨⟨k + 1, by go_num, by omega, HN, trivial⟩, by simp [intOf]; omega⟩
    · have hlt1 : ¬ (k : Int) < (T : Int) := by omega
      have HF : Hid (decide (n ∈ l) = false) := hide (decide_eq_false (by have := unhide HA; rwa [List.take_of_length_le (by have := unhide HTL; omega)] at this))
      clear HA
      go_wp2
      go_ret
      exact ⟨by rw [unhide HF]; rfl, rfl⟩
end Go.Proofs.YtnhcpkcpgpobdaaDoor
