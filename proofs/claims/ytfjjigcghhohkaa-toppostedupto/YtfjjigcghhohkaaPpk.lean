/-
  What post.pick does, over this seat's program.
-/
import Derived.Test.YtfjjigcghhohkaaPch
import Derived.Test.YtfjjigcghhohkaaPst
set_option linter.unusedVariables false
namespace Go.Proofs.Ytfjjigcghhohkaa
open Go.RowKit Go.Proofs.Num Go.Proofs.Dct Go.Proofs.Pst

theorem u32Info : (Try.prog.info? 31).map (fun i => (i.zero, i.size, i.bytes)) = some (some (.int .u32 0), 1, 4) := by kernel_rfl
theorem row32_of {w : World} {B : Nat} {v : Value} {l : List Nat} (h : w.ownsRow B 31 1 v l.length (flatG cells32 l)) (hl : l.length ≤ 4194304) (hf : ∀ x ∈ l, x ≤ 4294967295) : Row32 w v l := rowG_of_own cells32_len h (by omega) hf

set_option maxHeartbeats 2000000 in
set_option maxRecDepth 100000 in
theorem pick_any (v vo : Value) (l o : List Nat) (has : Bool) (w : World) (h : Row32 w v l) (ho : Row32 w vo o) (hr : rises 0 l = true) (hro : rises 0 o = true) (hl : l.length ≤ 1048576) (hlo : o.length ≤ 1048576) :
    Calls Try.prog 32 #[v, vo, .bool has] w fun e w' => ∃ v', e = .returned v' ∧ w'.ownsRow w.heap.size 31 1 v' (pickL l o has).length (flatG cells32 (pickL l o has)) ∧ Below w.heap.size w w' := by
  obtain ⟨i0, hi, hz0, hz1, hz2⟩ := info_parts u32Info
  have HR := hide h
  have HRO := hide ho
  obtain ⟨a, cap, hv, _, hfit, _⟩ := h
  obtain ⟨ao, capo, hvo, _, hfito, _⟩ := ho
  subst hv hvo
  have HFT := hide hfit
  have HFTO := hide hfito
  have HRS := hide hr
  have HRSO := hide hro
  obtain ⟨T, hT⟩ : ∃ T, T = l.length := ⟨_, rfl⟩
  obtain ⟨O, hO⟩ : ∃ O, O = o.length := ⟨_, rfl⟩
  rw [← hT] at HR hl ⊢
  rw [← hO] at HRO hlo ⊢
  have HTL := hide hT
  have HOL := hide hO
  clear hT hO hfit hfito hr hro
  go_enter Try.func32, Try.ntmps32
  go_wp2
  go_loopw [7, 8, 10, 13] (fun xp xa xn z wr => ∃ k c m : Nat, z = .int .i64 (k : Int) ∧ xa = .int .i64 (c : Int) ∧ k ≤ T ∧ c ≤ O ∧ m ≤ k ∧ Hid (∀ (j : Nat) (h : j < o.length), j < c → ∀ (i : Nat) (hi : i < l.length), k ≤ i → o[j] < l[i]) ∧ Hid (m = (pickL (l.take k) o has).length) ∧ Hid (wr.ownsRow w.heap.size 31 1 xp m (flatG cells32 (pickL (l.take k) o has))) ∧ Hid (Below w.heap.size w wr)) (fun _ _ _ z _ => T - (intOf z).toNat)
  case atStart => exact ⟨0, 0, 0, rfl, rfl, Nat.zero_le _, Nat.zero_le _, Nat.le_refl _, hide (fun j h hj => by omega), hide (by simp [pickL]), hide ⟨by simp [flatG, pickL], Or.inl ⟨rfl, rfl⟩⟩, hide (Below.refl _ _)⟩
  case round =>
    obtain ⟨k, c, m, rfl, rfl, hk, hc, hm, HJ, HM, HP, HB⟩ := hrel
    obtain ⟨ap, cp, hu7, hcp⟩ := own_sliceG (unhide HP)
    subst hu7
    by_cases hlt : k < T
    · have hlt1 : (k : Int) < (T : Int) := by omega
      have hkl : k < l.length := by have := unhide HTL; omega
      obtain ⟨b, off, cap', hv', hblt, hcell⟩ := RowG.at cells32_len ((unhide HR).below (unhide HB)) (j := k) hkl
      injection hv' with e1 e2 e3
      subst e1
      have c0 := hcell 0 (by omega)
      simp only [cells32, List.getElem?_cons_zero, Nat.add_zero, Nat.mul_one] at c0
      clear e2 e3 hcell
      have hx := unhide HFT l[k] (List.getElem_mem hkl)
      have hJ0 : ∀ (j : Nat) (h : j < o.length), j < c → o[j] < l[k] := fun j h hj => unhide HJ j h hj k hkl (Nat.le_refl _)
      have hup : ∀ (i : Nat) (hi : i < l.length), k + 1 ≤ i → l[k] < l[i] := fun i hi hki => rises_lt (unhide HRS) k i hi (by omega)
      have hnx := pick_next (l := l) (o := o) (has := has) hkl
      have HJ0 := hide hJ0
      have HUP := hide hup
      have HNX := hide hnx
      clear hJ0 hup hnx HJ
      generalize l[k] = n at c0 hx HJ0 HUP HNX
      go_wp2
      go_loopw [8] (fun xa wq => ∃ c : Nat, xa = .int .i64 (c : Int) ∧ c ≤ O ∧ Hid (∀ (j : Nat) (h : j < o.length), j < c → o[j] < n) ∧ wq = wr) (fun xa _ => O - (intOf xa).toNat)
      case atStart => exact ⟨c, rfl, hc, HJ0, rfl⟩
      case round =>
        obtain ⟨c, rfl, hc, HJ1, hwq⟩ := hrel
        subst hwq
        by_cases hco : c < O
        · have hco1 : (c : Int) < (O : Int) := by omega
          have hcol : c < o.length := by have := unhide HOL; omega
          obtain ⟨b2, off2, cap2, hv2, hblt2, hcell2⟩ := RowG.at cells32_len ((unhide HRO).below (unhide HB)) (j := c) hcol
          injection hv2 with e1 e2 e3
          subst e1
          have d0 := hcell2 0 (by omega)
          simp only [cells32, List.getElem?_cons_zero, Nat.add_zero, Nat.mul_one] at d0
          clear e2 e3 hcell2
          have hy := unhide HFTO o[c] (List.getElem_mem hcol)
          by_cases hyn : o[c] < n
          · have HJ2 : Hid (∀ (j : Nat) (h : j < o.length), j < c + 1 → o[j] < n) := hide (by
              intro j h hj
              by_cases he : j = c
              · subst he; exact hyn
              · exact unhide HJ1 j h (by omega))
            generalize o[c] = y at d0 hy hyn
            have hyi : (y : Int) < (n : Int) := by omega
            clear HJ1 HJ0 HUP HNX HM hyn
            go_wp2
            exact ⟨⟨c + 1, by go_num, by omega, HJ2, trivial⟩, by simp [intOf]; omega⟩
          · have hmb := mem_at (unhide HRSO) (Nat.le_of_lt hcol) (unhide HJ1) (fun _ => by omega)
            rw [dif_pos hcol] at hmb
            by_cases hye : o[c] = n
            · rw [decide_eq_true hye] at hmb
              have hyb : ((o[c] : Int) == (n : Int)) = true := by rw [hye]; simp
              have hyi : ¬ (o[c] : Int) < (n : Int) := by omega
              clear hye hyn
              generalize o[c] = y at d0 hy hyb hyi
              have hJ9 : ∀ (j : Nat) (h : j < o.length), j < c → ∀ (i : Nat) (hi : i < l.length), k + 1 ≤ i → o[j] < l[i] := by
                intro j h hj i hi hki
                have h1 := unhide HJ1 j h hj
                have h2 := unhide HUP i hi hki
                omega
              have HJ9 := hide hJ9
              have hnx := unhide HNX
              rw [hmb] at hnx
              cases has
              · rw [if_neg (by simp), List.append_nil] at hnx
                have HN9 := hide (by rw [hnx]; exact unhide HM : m = (pickL (l.take (k + 1)) o false).length)
                have HO9 := unhide HP
                rw [← hnx] at HO9
                have HO4 := hide HO9
                clear hnx HNX hJ9 HUP HJ1 hmb HJ0 HO9
                go_wp2
                exact ⟨⟨k + 1, c, m, by go_num, rfl, by omega, by omega, by omega, HJ9, HN9, HO4, HB⟩, by simp [intOf]; omega⟩
              · rw [if_pos (by simp)] at hnx
                have HN9 := hide (by rw [hnx, List.length_append, ← unhide HM]; rfl : m + 1 = (pickL (l.take (k + 1)) o true).length)
                have HX9 := hide (by rw [hnx, flatG_append, flatG_one]; rfl : flatG cells32 (pickL (l.take (k + 1)) o true) = flatG cells32 (pickL (l.take k) o true) ++ [.int .u32 (n : Int)])
                have hzr := (unhide HB).size
                have HOW := hide (own_below (unhide HP) ((Below.refl _ wr).alloc (Nat.le_refl _) (.cells #[.int .u32 (n : Int)] 31)))
                clear hnx HNX hJ9 HUP HJ1 hmb HJ0
                go_wp2_with (at_builtin; refine wpList_append_own _ rfl _ _ 22 rfl w.heap.size 31 i0 (.int .u32 0) 1 4 Try.underlying22 hi hz0 hz1 hz2 rfl (by decide) _ _ _ rfl (unhide HOW) ⟨wr.heap.size, 0, none⟩ 1 1 [.int .u32 (n : Int)] rfl rfl ?x1 ?x2 ?x3 ?x4 ?x5 ?_)
                case x2 => rfl
                case x3 => unfold maxLen; omega
                case x4 => omega
                case x5 => omega
                intro v' w4 hown' hgrow _
                have HB4 := hide (below_own ((unhide HB).alloc hzr (.cells #[.int .u32 (n : Int)] 31)) (unhide HOW) hgrow (by simp; omega))
                rw [← unhide HX9] at hown'
                have HO4 := hide hown'
                clear hown' hgrow HOW HP HB
                go_wp2
                exact ⟨⟨k + 1, c, m + 1, by go_num, rfl, by omega, by omega, by omega, HJ9, HN9, HO4, HB4⟩, by simp [intOf]; omega⟩
            · rw [decide_eq_false hye] at hmb
              have hyb : ((o[c] : Int) == (n : Int)) = false := by simp; omega
              have hyi : ¬ (o[c] : Int) < (n : Int) := by omega
              clear hye hyn
              generalize o[c] = y at d0 hy hyb hyi
              have hJ9 : ∀ (j : Nat) (h : j < o.length), j < c → ∀ (i : Nat) (hi : i < l.length), k + 1 ≤ i → o[j] < l[i] := by
                intro j h hj i hi hki
                have h1 := unhide HJ1 j h hj
                have h2 := unhide HUP i hi hki
                omega
              have HJ9 := hide hJ9
              have hnx := unhide HNX
              rw [hmb] at hnx
              cases has
              · rw [if_pos (by simp)] at hnx
                have HN9 := hide (by rw [hnx, List.length_append, ← unhide HM]; rfl : m + 1 = (pickL (l.take (k + 1)) o false).length)
                have HX9 := hide (by rw [hnx, flatG_append, flatG_one]; rfl : flatG cells32 (pickL (l.take (k + 1)) o false) = flatG cells32 (pickL (l.take k) o false) ++ [.int .u32 (n : Int)])
                have hzr := (unhide HB).size
                have HOW := hide (own_below (unhide HP) ((Below.refl _ wr).alloc (Nat.le_refl _) (.cells #[.int .u32 (n : Int)] 31)))
                clear hnx HNX hJ9 HUP HJ1 hmb HJ0
                go_wp2_with (at_builtin; refine wpList_append_own _ rfl _ _ 22 rfl w.heap.size 31 i0 (.int .u32 0) 1 4 Try.underlying22 hi hz0 hz1 hz2 rfl (by decide) _ _ _ rfl (unhide HOW) ⟨wr.heap.size, 0, none⟩ 1 1 [.int .u32 (n : Int)] rfl rfl ?y1 ?y2 ?y3 ?y4 ?y5 ?_)
                case y2 => rfl
                case y3 => unfold maxLen; omega
                case y4 => omega
                case y5 => omega
                intro v' w4 hown' hgrow _
                have HB4 := hide (below_own ((unhide HB).alloc hzr (.cells #[.int .u32 (n : Int)] 31)) (unhide HOW) hgrow (by simp; omega))
                rw [← unhide HX9] at hown'
                have HO4 := hide hown'
                clear hown' hgrow HOW HP HB
                go_wp2
                exact ⟨⟨k + 1, c, m + 1, by go_num, rfl, by omega, by omega, by omega, HJ9, HN9, HO4, HB4⟩, by simp [intOf]; omega⟩
              · rw [if_neg (by simp), List.append_nil] at hnx
                have HN9 := hide (by rw [hnx]; exact unhide HM : m = (pickL (l.take (k + 1)) o true).length)
                have HO9 := unhide HP
                rw [← hnx] at HO9
                have HO4 := hide HO9
                clear hnx HNX hJ9 HUP HJ1 hmb HJ0 HO9
                go_wp2
                exact ⟨⟨k + 1, c, m, by go_num, rfl, by omega, by omega, by omega, HJ9, HN9, HO4, HB⟩, by simp [intOf]; omega⟩
        · have hco1 : ¬ (c : Int) < (O : Int) := by omega
          have hmb := mem_at (a := c) (n := n) (unhide HRSO) (by have := unhide HOL; omega) (unhide HJ1) (fun h => by have := unhide HOL; omega)
          rw [dif_neg (by have := unhide HOL; omega)] at hmb
          have hJ9 : ∀ (j : Nat) (h : j < o.length), j < c → ∀ (i : Nat) (hi : i < l.length), k + 1 ≤ i → o[j] < l[i] := by
            intro j h hj i hi hki
            have h1 := unhide HJ1 j h hj
            have h2 := unhide HUP i hi hki
            omega
          have HJ9 := hide hJ9
          have hnx := unhide HNX
          rw [hmb] at hnx
          cases has
          · rw [if_pos (by simp)] at hnx
            have HN9 := hide (by rw [hnx, List.length_append, ← unhide HM]; rfl : m + 1 = (pickL (l.take (k + 1)) o false).length)
            have HX9 := hide (by rw [hnx, flatG_append, flatG_one]; rfl : flatG cells32 (pickL (l.take (k + 1)) o false) = flatG cells32 (pickL (l.take k) o false) ++ [.int .u32 (n : Int)])
            have hzr := (unhide HB).size
            have HOW := hide (own_below (unhide HP) ((Below.refl _ wr).alloc (Nat.le_refl _) (.cells #[.int .u32 (n : Int)] 31)))
            clear hnx HNX hJ9 HUP HJ1 hmb HJ0
            go_wp2_with (at_builtin; refine wpList_append_own _ rfl _ _ 22 rfl w.heap.size 31 i0 (.int .u32 0) 1 4 Try.underlying22 hi hz0 hz1 hz2 rfl (by decide) _ _ _ rfl (unhide HOW) ⟨wr.heap.size, 0, none⟩ 1 1 [.int .u32 (n : Int)] rfl rfl ?z1 ?z2 ?z3 ?z4 ?z5 ?_)
            case z2 => rfl
            case z3 => unfold maxLen; omega
            case z4 => omega
            case z5 => omega
            intro v' w4 hown' hgrow _
            have HB4 := hide (below_own ((unhide HB).alloc hzr (.cells #[.int .u32 (n : Int)] 31)) (unhide HOW) hgrow (by simp; omega))
            rw [← unhide HX9] at hown'
            have HO4 := hide hown'
            clear hown' hgrow HOW HP HB
            go_wp2
            exact ⟨⟨k + 1, c, m + 1, by go_num, rfl, by omega, by omega, by omega, HJ9, HN9, HO4, HB4⟩, by simp [intOf]; omega⟩
          · rw [if_neg (by simp), List.append_nil] at hnx
            have HN9 := hide (by rw [hnx]; exact unhide HM : m = (pickL (l.take (k + 1)) o true).length)
            have HO9 := unhide HP
            rw [← hnx] at HO9
            have HO4 := hide HO9
            clear hnx HNX hJ9 HUP HJ1 hmb HJ0 HO9
            go_wp2
            exact ⟨⟨k + 1, c, m, by go_num, rfl, by omega, by omega, by omega, HJ9, HN9, HO4, HB⟩, by simp [intOf]; omega⟩
    · have hlt1 : ¬ (k : Int) < (T : Int) := by omega
      have hall : l.take k = l := List.take_of_length_le (by have := unhide HTL; omega)
      have hp := unhide HP
      have hm2 := unhide HM
      rw [hall] at hp hm2
      have HP2 := hide (by rw [← hm2]; exact hp : wr.ownsRow w.heap.size 31 1 (.slice ap m cp) (pickL l o has).length (flatG cells32 (pickL l o has)))
      clear hp hm2 HP HM HJ hall
      go_wp2
      go_ret
      exact ⟨_, rfl, unhide HP2, unhide HB⟩
end Go.Proofs.Ytfjjigcghhohkaa
