/-
  What missiveref03.Same and missiveref01.Same do, over this seat's program.
-/
import Derived.Test.YtlolilhlpbpfjaaGreatDoorNwq
import Derived.Test.YtlolilhlpbpfjaaGreatDoorNwk
set_option linter.unusedVariables false
namespace Go.Proofs.YtlolilhlpbpfjaaGreatDoor
open Go.RowKit Go.Proofs.Nst

theorem takeG_next {α : Type} {l r : List α} {k : Nat} (hl : k < l.length) (hr : k < r.length) : l.take (k + 1) = r.take (k + 1) ↔ l.take k = r.take k ∧ l[k] = r[k] := by
  rw [List.take_succ_eq_append_getElem hl, List.take_succ_eq_append_getElem hr]
  constructor
  · intro h
    have := List.append_inj' h rfl
    exact ⟨this.1, by simpa using this.2⟩
  · rintro ⟨h1, h2⟩
    rw [h1, h2]

set_option maxHeartbeats 400000 in
theorem sameSp_len (a b : Option Addr) (n m c d : Nat) (w : World) (h : n ≠ m) :
    Calls Tryz.prog 25 #[.slice a n c, .slice b m d] w fun e w' => e = .returned (.bool false) ∧ Below w.heap.size w w' := by
  have hb : ((n : Int) == (m : Int)) = false := by simp; omega
  go_enter Tryz.func25, Tryz.ntmps25
  go_wp2
  go_ret
  exact ⟨rfl, Below.refl _ _⟩

set_option maxHeartbeats 1000000 in
set_option maxRecDepth 100000 in
theorem sameSp_any (v v' : Value) (l r : List Sp) (w : World) (h : RowSp w v l) (h' : RowSp w v' r) :
    Calls Tryz.prog 25 #[v, v'] w fun e w' => e = .returned (.bool (decide (l = r))) ∧ Below w.heap.size w w' := by
  have HR := hide h
  have HR' := hide h'
  obtain ⟨a, cap, rfl, hl, hn, _⟩ := h
  obtain ⟨a', cap', rfl, hl', hn', _⟩ := h'
  by_cases hlr : l.length = r.length
  · have HLR := hide hlr
    rw [← hlr]
    rw [← hlr] at HR' hl'
    obtain ⟨T, hT⟩ : ∃ T, T = l.length := ⟨_, rfl⟩
    rw [← hT] at HR HR' hl ⊢
    have HTL := hide hT
    clear hT hlr hl' hn hn'
    go_enter Tryz.func25, Tryz.ntmps25
    go_wp2
    go_loopw [5, 13] (fun x z wr => ∃ k : Nat, z = .int .i64 k ∧ k ≤ T ∧ Hid (l.take k = r.take k) ∧ Hid (Below w.heap.size w wr)) (fun _ z _ => T - (intOf z).toNat)
    case atStart => exact ⟨0, rfl, Nat.zero_le _, hide rfl, hide (Below.refl _ _)⟩
    case round =>
      obtain ⟨k, rfl, hk, HT, HB⟩ := hrel
      by_cases hlt : k < T
      · have hlt1 : (k : Int) < (T : Int) := by omega
        have hkl : k < l.length := by have := unhide HTL; omega
        have hkr : k < r.length := by have := unhide HTL; have := unhide HLR; omega
        obtain ⟨b, off, cp, hv1, hblt, hcell⟩ := RowG.at cellsS_len ((unhide HR).below (unhide HB)) (j := k) hkl
        obtain ⟨b2, off2, cp2, hv2, hblt2, hcell2⟩ := RowG.at cellsS_len ((unhide HR').below (unhide HB)) (j := k) hkr
        injection hv1 with e1 e2 e3
        injection hv2 with e4 e5 e6
        subst e1 e4
        have c0 := hcell 0 (by omega)
        have d0 := hcell2 0 (by omega)
        have c1 := hcell 1 (by omega)
        have d1 := hcell2 1 (by omega)
        simp only [cellsS, List.getElem?_cons_zero, List.getElem?_cons_succ, Nat.add_zero] at c0 d0 c1 d1
        (try simp only [Nat.mul_one] at c0 d0 c1 d1)
        clear e2 e3 e5 e6 hcell hcell2
        have hnx := takeG_next hkl hkr
        by_cases he : l[k] = r[k]
        · have HN := hide (hnx.2 ⟨unhide HT, he⟩)
          have q0 : (((l[k]).1 : Int) == ((r[k]).1 : Int)) = true := by rw [he]; simp
          have q1 : (((l[k]).2 : Int) == ((r[k]).2 : Int)) = true := by rw [he]; simp
          clear hnx he HT
          generalize (l[k]).1 = x0 at c0 q0
          generalize (r[k]).1 = y0 at d0 q0
          generalize (l[k]).2 = x1 at c1 q1
          generalize (r[k]).2 = y1 at d1 q1
          go_wp2
          go_quiet (fail)
          go_wp2
          exact ⟨⟨k + 1, by go_num, by omega, HN, hide (below_drewN (unhide HB) _)⟩, by simp [intOf]; omega⟩
        · have hfin : decide (l = r) = false := by
            rw [decide_eq_false_iff_not]
            intro h
            subst h
            exact he rfl
          have HF := hide hfin
          clear hfin hnx HT
          by_cases g0 : (l[k]).1 = (r[k]).1
          rotate_left
          · have q0 : (((l[k]).1 : Int) == ((r[k]).1 : Int)) = false := by simp; omega
            clear he g0
            generalize (l[k]).1 = x0 at c0 q0
            generalize (r[k]).1 = y0 at d0 q0
            generalize (l[k]).2 = x1 at c1
            generalize (r[k]).2 = y1 at d1
            go_wp2
            go_quiet (fail)
            go_wp2
            go_ret
            exact ⟨by rw [unhide HF]; rfl, below_drewN (unhide HB) _⟩
          have g1 : ¬ (l[k]).2 = (r[k]).2 := fun g1 => he (Prod.ext g0 g1)
          have q0 : (((l[k]).1 : Int) == ((r[k]).1 : Int)) = true := by rw [g0]; simp
          have q1 : (((l[k]).2 : Int) == ((r[k]).2 : Int)) = false := by simp; omega
          clear he g0 g1
          generalize (l[k]).1 = x0 at c0 q0
          generalize (r[k]).1 = y0 at d0 q0
          generalize (l[k]).2 = x1 at c1 q1
          generalize (r[k]).2 = y1 at d1 q1
          go_wp2
          go_quiet (fail)
          go_wp2
          go_ret
          exact ⟨by rw [unhide HF]; rfl, below_drewN (unhide HB) _⟩
      · have hlt1 : ¬ (k : Int) < (T : Int) := by omega
        have hfin : decide (l = r) = true := by
          rw [decide_eq_true_iff]
          have h1 := unhide HT
          have h2 := unhide HLR
          have h3 := unhide HTL
          rw [List.take_of_length_le (by omega), List.take_of_length_le (by omega)] at h1
          exact h1
        have HF := hide hfin
        clear hfin
        go_wp2
        go_ret
        exact ⟨by rw [unhide HF]; rfl, unhide HB⟩
  · have : decide (l = r) = false := by
      rw [decide_eq_false_iff_not]
      intro h
      exact hlr (by rw [h])
    rw [this]
    exact sameSp_len a a' _ _ cap cap' w hlr

end Go.Proofs.YtlolilhlpbpfjaaGreatDoor
