/-
  Two tokens are compared, and what missiveref23.SameTokens does, over this seat's program.
-/
import Derived.Test.YtafegjbhaofgiaaDoorLxk
import Derived.Laws.StructEq
set_option linter.unusedVariables false
set_option linter.unusedSimpArgs false
namespace Go.Proofs.YtafegjbhaofgiaaDoor
open Go.RowKit Go.Proofs.Lx

theorem held_tok : Tryd.prog.stoodInHeld 39 = false := by kernel_rfl
theorem fields_tok : Tryd.prog.underlying 39 = some (.struct (Tryd.prog.fieldsOf 39)) := by
  unfold Program.fieldsOf; rw [Tryd.underlying39]
theorem bts_inj {a b : List UInt8} : bts a = bts b ↔ a = b := ⟨fun h => by have := congrArg (fun x => x.data.toList) h; simpa [toList_bts] using this, fun h => by rw [h]⟩
set_option maxHeartbeats 1000000 in
set_option maxRecDepth 100000 in
theorem neqT (x y : Tok) (W : World) :
    (binOp .neq 39 (.agg #[.int .u8 (x.1 : Int), .string (bts x.2)]) (.agg #[.int .u8 (y.1 : Int), .string (bts y.2)])).run Tryd.prog W = .ok (.bool (!decide (x = y))) W := by
  obtain ⟨k, s⟩ := x
  obtain ⟨k', s'⟩ := y
  simp only
  rw [run_neq_struct, run_equalIn_struct W 9999 _ _ _ fields_tok held_tok]
  simp only [Program.fieldsOf, Tryd.underlying39]
  have hd : decide (((k, s) : Tok) = (k', s')) = (decide (k = k') && decide (s = s')) := by
    by_cases h1 : k = k' <;> by_cases h2 : s = s' <;> simp [h1, h2]
  rw [hd]
  have hs : ((k : Int) == (k' : Int)) = decide (k = k') := by rw [Bool.eq_iff_iff]; simp; omega
  have b1 := beqS (bts s) (bts s')
  have hb : decide (bts s = bts s') = decide (s = s') := by rw [Bool.eq_iff_iff]; simp only [decide_eq_true_eq]; exact bts_inj
  rw [hb] at b1
  cases h1 : decide (k = k') <;> cases h2 : decide (s = s') <;> rw [h2] at b1 <;> rw [h1] at hs <;> go_simp
theorem takeT_next {l r : List Tok} {k : Nat} (hl : k < l.length) (hr : k < r.length) : l.take (k + 1) = r.take (k + 1) ↔ l.take k = r.take k ∧ l[k] = r[k] := by
  rw [List.take_succ_eq_append_getElem hl, List.take_succ_eq_append_getElem hr]
  constructor
  · intro h
    have := List.append_inj' h rfl
    exact ⟨this.1, by simpa using this.2⟩
  · rintro ⟨h1, h2⟩
    rw [h1, h2]

set_option maxHeartbeats 400000 in
theorem sameT_len (a b : Option Addr) (n m c d : Nat) (w : World) (h : n ≠ m) :
    Calls Tryd.prog 19 #[.slice a n c, .slice b m d] w fun e w' => e = .returned (.bool false) ∧ Below w.heap.size w w' := by
  have hb : ((n : Int) == (m : Int)) = false := by simp; omega
  go_enter Tryd.func19, Tryd.ntmps19
  go_wp2
  go_ret
  exact ⟨rfl, Below.refl _ _⟩

set_option maxHeartbeats 1000000 in
set_option maxRecDepth 100000 in
theorem sameT_any (v v' : Value) (l r : List Tok) (w : World) (h : RowT w v l) (h' : RowT w v' r) :
    Calls Tryd.prog 19 #[v, v'] w fun e w' => e = .returned (.bool (decide (l = r))) ∧ Below w.heap.size w w' := by
  have HR := hide h
  have HR' := hide h'
  obtain ⟨a, cap, rfl, hl, hn, _⟩ := h
  obtain ⟨a', cap', rfl, hl', hn', _⟩ := h'
  by_cases hlr : l.length = r.length
  · have HLR := hide hlr
    rw [← hlr]
    rw [← hlr] at HR' hl'
    obtain ⟨T, hT⟩ : ∃ T, T = l.length := ⟨_, rfl⟩
    rw [← hT] at HR HR' hl ⊢
    have HTL := hide hT
    clear hT hlr hl' hn hn'
    go_enter Tryd.func19, Tryd.ntmps19
    go_wp2
    go_loopw [5, 13] (fun x z wr => ∃ k : Nat, z = .int .i64 k ∧ k ≤ T ∧ Hid (l.take k = r.take k) ∧ Hid (Below w.heap.size w wr)) (fun _ z _ => T - (intOf z).toNat)
    case atStart => exact ⟨0, rfl, Nat.zero_le _, hide rfl, hide (Below.refl _ _)⟩
    case round =>
      obtain ⟨k, rfl, hk, HT, HB⟩ := hrel
      by_cases hlt : k < T
      · have hlt1 : (k : Int) < (T : Int) := by omega
        have hkl : k < l.length := by have := unhide HTL; omega
        have hkr : k < r.length := by have := unhide HTL; have := unhide HLR; omega
        obtain ⟨b, off, rfl, hblt, _, c0, c1⟩ := RowT.tok (unhide HR) (unhide HB) hkl
        obtain ⟨b2, off2, rfl, hblt2, _, d0, d1⟩ := RowT.tok (unhide HR') (unhide HB) hkr
        have hnx := takeT_next hkl hkr
        have HQ := fun W => neqT l[k] r[k] W
        by_cases he : l[k] = r[k]
        · have HN := hide (hnx.2 ⟨unhide HT, he⟩)
          rw [decide_eq_true he] at HQ
          clear hnx he HT
          generalize l[k] = x at c0 c1 HQ
          generalize r[k] = y at d0 d1 HQ
          go_wp2
          go_quiet (fail)
          go_wp2
          exact ⟨⟨k + 1, by go_num, by omega, HN, hide (below_drewN (unhide HB) _)⟩, by simp [intOf]; omega⟩
        · have hfin : decide (l = r) = false := by
            rw [decide_eq_false_iff_not]
            intro h
            subst h
            exact he rfl
          have HF := hide hfin
          rw [decide_eq_false he] at HQ
          clear hfin hnx HT he
          generalize l[k] = x at c0 c1 HQ
          generalize r[k] = y at d0 d1 HQ
          go_wp2
          go_quiet (fail)
          go_wp2
          go_ret
          exact ⟨by rw [unhide HF]; rfl, below_drewN (unhide HB) _⟩
      · have hlt1 : ¬ (k : Int) < (T : Int) := by omega
        have hfin : decide (l = r) = true := by
          rw [decide_eq_true_iff]
          have h1 := unhide HT
          have h2 := unhide HLR
          have h3 := unhide HTL
          rw [List.take_of_length_le (by omega), List.take_of_length_le (by omega)] at h1
          exact h1
        have HF := hide hfin
        clear hfin
        go_wp2
        go_ret
        exact ⟨by rw [unhide HF]; rfl, unhide HB⟩
  · have : decide (l = r) = false := by
      rw [decide_eq_false_iff_not]
      intro h
      exact hlr (by rw [h])
    rw [this]
    exact sameT_len a a' _ _ cap cap' w hlr
end Go.Proofs.YtafegjbhaofgiaaDoor
