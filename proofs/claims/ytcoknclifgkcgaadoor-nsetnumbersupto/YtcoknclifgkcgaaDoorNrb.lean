/-
  What missiveref03.Sort does, over this seat's program: the walk.
-/
import Derived.Test.YtcoknclifgkcgaaDoorNra
set_option linter.unusedVariables false
namespace Go.Proofs.YtcoknclifgkcgaaDoor
open Go.RowKit Go.Proofs.Nst

def refR (m : Nat) (l : List Sp) : List Sp × Nat := if l.length ≤ 1024 then (refSort m l, 0) else ([], 1)
theorem below_dq {B : Nat} {a w : World} (h : Below B a w) : Below B a w.drew := ⟨h.os, h.tape, h.output, h.size, h.block⟩
theorem own_lowR {w : World} {B B' e z : Nat} {v : Value} {n : Nat} {xs : List Value} (h : w.ownsRow B e z v n xs) (hb : B' ≤ B) : w.ownsRow B' e z v n xs := by
  refine ⟨h.1, ?_⟩
  rcases h.2 with h1 | ⟨g, cap, cur, h1, h2, h3⟩
  · exact Or.inl h1
  · exact Or.inr ⟨g, cap, cur, h1, Nat.le_trans hb h2, h3⟩
theorem below_lowR {w w1 wq w6 : World} (h1 : Below w.heap.size w w1) (h2 : Below w1.heap.size w1 wq) (h3 : Below wq.heap.size wq w6) : Below w.heap.size w w6 := belows' (belows' h1 h2) h3
/-- What the inner loop keeps: what is left to be taken up comes to the same. -/
structure InR (out : List Sp) (s : Sp) (j : Nat) (r : List Sp) (a b : Nat) : Prop where
  eq : absorb (out.drop j) r a b = absorb out [] s.1 s.2
  len : r.length ≤ j
  fit : ∀ x ∈ r, FitS x
  fa : a ≤ 4294967295
  fb : b ≤ 4294967295
theorem InR.off {out : List Sp} {s : Sp} {j : Nat} {r : List Sp} {a b : Nat} (h : InR out s j r a b) (hj : j < out.length) (hf : FitS out[j]) (hc : (out[j]).2 + 1 < a ∨ b + 1 < (out[j]).1) : InR out s (j + 1) (r ++ [out[j]]) a b := by
  refine ⟨?_, ?_, ?_, h.fa, h.fb⟩
  · rw [← h.eq, List.drop_eq_getElem_cons hj, absorb_off hc]
  · have := h.len; simp; omega
  · intro x hx
    rcases List.mem_append.1 hx with h1 | h1
    · exact h.fit x h1
    · simp at h1; rw [h1]; exact hf
theorem InR.on {out : List Sp} {s : Sp} {j : Nat} {r : List Sp} {a b : Nat} (h : InR out s j r a b) (hj : j < out.length) (hf : FitS out[j]) (hc : ¬ ((out[j]).2 + 1 < a ∨ b + 1 < (out[j]).1)) : InR out s (j + 1) r (min a (out[j]).1) (max b (out[j]).2) := by
  have h1 := h.fa
  have h2 := h.fb
  unfold FitS at hf
  refine ⟨?_, ?_, h.fit, by omega, by omega⟩
  · rw [← h.eq, List.drop_eq_getElem_cons hj, absorb_on hc]
  · have := h.len; omega

set_option maxHeartbeats 4000000 in
set_option maxRecDepth 100000 in
theorem refSort_any (v : Value) (l : List Sp) (m : Nat) (w : World) (h : RowSp w v l) (hm : m ≤ 4294967295) :
    Calls Tryd.prog 6 #[v, .int .u32 (m : Int)] w fun e w' => ∃ v', e = .returned (.tuple #[v', .int .i64 ((refR m l).2 : Int)]) ∧ w'.ownsRow w.heap.size 44 2 v' (refR m l).1.length (flatG cellsS (refR m l).1) ∧ Below w.heap.size w w' := by
  have HR := hide h
  obtain ⟨a, cap, rfl, hl, hfit, _⟩ := h
  have HF := hide hfit
  have HM := hide hm
  obtain ⟨T, hT⟩ : ∃ T, T = l.length := ⟨_, rfl⟩
  rw [← hT] at HR hl ⊢
  have HTL := hide hT
  obtain ⟨PR, hPR⟩ : ∃ PR, PR = refR m l := ⟨_, rfl⟩
  rw [← hPR]
  have HPR := hide hPR
  clear hT hfit hPR
  by_cases hle : T ≤ 1024
  · have hgt : ¬ (T : Int) > 1024 := by omega
    have HPE : Hid (PR = (refSort m l, 0)) := hide (by rw [unhide HPR]; unfold refR; rw [if_pos (by have := unhide HTL; omega)])
    clear hl HPR
    go_enter Tryd.func6, Tryd.ntmps6
    go_wp2
    go_loopw [6, 8, 9, 10, 11, 13, 14, 20] (fun y _ _ _ _ _ _ z wr => ∃ k : Nat, z = .int .i64 k ∧ k ≤ T ∧ Hid (wr.ownsRow w.heap.size 44 2 y (((l.take k).map (ordS m)).foldl refStep []).length (flatG cellsS (((l.take k).map (ordS m)).foldl refStep []))) ∧ Hid (Below w.heap.size w wr)) (fun _ _ _ _ _ _ _ z _ => T - (intOf z).toNat)
    case atStart => exact ⟨0, rfl, Nat.zero_le _, hide (World.ownsRow_nil _ _ _ _), hide (Below.refl _ _)⟩
    case round =>
      obtain ⟨k, rfl, hk, HO, HB⟩ := hrel
      by_cases hlt : k < T
      · have hlt1 : (k : Int) < (T : Int) := by omega
        have hkl : k < l.length := by have := unhide HTL; omega
        obtain ⟨b, off, cp, hv1, hblt, hcell⟩ := RowG.at cellsS_len ((unhide HR).below (unhide HB)) (j := k) hkl
        injection hv1 with e1 e2 e3
        subst e1
        have c0 := hcell 0 (by omega)
        have c1 := hcell 1 (by omega)
        simp only [cellsS, List.getElem?_cons_zero, List.getElem?_cons_succ, Nat.add_zero] at c0 c1
        clear e2 e3 hcell
        have hfo := fold_fit (unhide HM) (l.take k) [] (fun x hx => unhide HF x (List.mem_of_mem_take hx)) (by simp)
        have HOF := hide hfo.2
        have hol : (((l.take k).map (ordS m)).foldl refStep []).length ≤ 1024 := by
          have h1 := hfo.1
          rw [List.length_take] at h1
          simp only [List.length_nil] at h1
          omega
        have HSF := hide (ordS_fit (unhide HM) (unhide HF l[k] (List.getElem_mem hkl)))
        have HNX := hide (fold_take (m := m) hkl)
        have HHO := hide (fun W => refEnds_any (l[k]).1 (l[k]).2 m W)
        rw [show ((l[k]).1, (l[k]).2) = l[k] from rfl] at HHO
        generalize ordS m l[k] = s at HSF HNX HHO
        generalize (l[k]).1 = x at c0 HHO
        generalize (l[k]).2 = y at c1 HHO
        have HNX2 : Hid (((l.take (k + 1)).map (ordS m)).foldl refStep [] = insAt (absorb (((l.take k).map (ordS m)).foldl refStep []) [] s.1 s.2).1 (absorb (((l.take k).map (ordS m)).foldl refStep []) [] s.1 s.2).2.1 (absorb (((l.take k).map (ordS m)).foldl refStep []) [] s.1 s.2).2.2) := hide (unhide HNX)
        clear HNX hfo
        generalize ((l.take k).map (ordS m)).foldl refStep [] = O at HO HOF hol HNX2 ⊢
        have HBA := hide (belows' (unhide HB) (below_alloc0 wr (.cells #[.int .u32 (x : Int), .int .u32 (y : Int)] 44)))
        have HOA := hide (own_below (unhide HO) (below_alloc0 wr (.cells #[.int .u32 (x : Int), .int .u32 (y : Int)] 44)))
        obtain ⟨ao, co, hvo, _⟩ := own_sliceG (unhide HO)
        obtain ⟨N, hN⟩ : ∃ N, N = O.length := ⟨_, rfl⟩
        rw [← hN] at hvo hol HO HOA
        have HNL := hide hN
        subst hvo
        clear hN HO HB
        go_wp2_with fail
        refine (unhide HHO _).mono ?_
        rintro e w1 ⟨rfl, b1⟩
        have HB1 := hide (belows' (unhide HBA) b1)
        have HO1 := hide (own_below (unhide HOA) b1)
        have HRO := hide (show RowSp w1 (.slice ao N co) O from rowG_of_own cellsS_len (by rw [← unhide HNL]; exact unhide HO1) (by have := unhide HNL; omega) (unhide HOF))
        clear b1 HBA HHO HOA c0 c1 hblt
        have hs1 := (unhide HSF).1
        have hs2 := (unhide HSF).2
        obtain ⟨lo, hlo⟩ : ∃ lo, lo = s.1 := ⟨_, rfl⟩
        obtain ⟨hi, hhi⟩ : ∃ hi, hi = s.2 := ⟨_, rfl⟩
        rw [← hlo, ← hhi]
        rw [← hlo] at hs1
        rw [← hhi] at hs2
        have HI0 : Hid (InR O s 0 [] lo hi) := hide ⟨by rw [hlo, hhi]; rfl, by simp, by simp, hs1, hs2⟩
        clear hlo hhi hs1 hs2 HSF
        go_wp2
        go_loopw [9, 10, 11, 13, 32] (fun xa xb xr _ z wq => ∃ (j p q : Nat) (r : List Sp), z = .int .i64 j ∧ xa = .int .u32 p ∧ xb = .int .u32 q ∧ j ≤ N ∧ Hid (InR O s j r p q) ∧ Hid (wq.ownsRow w1.heap.size 44 2 xr r.length (flatG cellsS r)) ∧ Hid (Below w1.heap.size w1 wq)) (fun _ _ _ _ z _ => N - (intOf z).toNat)
        case atStart => exact ⟨0, lo, hi, [], rfl, rfl, rfl, Nat.zero_le _, HI0, hide (World.ownsRow_nil _ _ _ _), hide (Below.refl _ _)⟩
        case round =>
          rename World => wq
          obtain ⟨j, p, q, r, rfl, rfl, rfl, hj, HI, HOR, HBJ⟩ := hrel
          by_cases hjlt : j < N
          · have hjlt1 : (j : Int) < (N : Int) := by omega
            have hjl : j < O.length := by have := unhide HNL; omega
            obtain ⟨b2, off2, cp2, hv2, hblt2, hcell2⟩ := RowG.at cellsS_len ((unhide HRO).below (unhide HBJ)) (j := j) hjl
            injection hv2 with e4 e5 e6
            subst e4
            have d0 := hcell2 0 (by omega)
            have d1 := hcell2 1 (by omega)
            simp only [cellsS, List.getElem?_cons_zero, List.getElem?_cons_succ, Nat.add_zero] at d0 d1
            clear e5 e6 hcell2
            have hyf := unhide HOF O[j] (List.getElem_mem hjl)
            have hpa := (unhide HI).fa
            have hqb := (unhide HI).fb
            have hrl : r.length ≤ 1024 := by have := (unhide HI).len; omega
            by_cases hc1 : (O[j]).2 + 1 < p
            · have HI1 := hide ((unhide HI).off hjl hyf (.inl hc1))
              generalize O[j] = yy at d0 d1 hyf HI1 hc1
              obtain ⟨y1, y2⟩ := yy
              simp only at d0 d1 hc1
              obtain ⟨hy1, hy2⟩ := hyf
              simp only at hy1 hy2
              have hu1 : IntKind.u64.wrap ((y2 : Int) + 1) = ((y2 + 1 : Nat) : Int) := by rw [IntKind.wrap_u64]; omega
              have hu2 : IntKind.u64.wrap ((q : Int) + 1) = ((q + 1 : Nat) : Int) := by rw [IntKind.wrap_u64]; omega

              have hD1 : decide (y2 + 1 < p) = true := decide_eq_true hc1
              have hi1 : (y2 : Int) + 1 < (p : Int) := by omega
              have hi2 : ((y2 + 1 : Nat) : Int) < (p : Int) := by omega
              clear hc1

              have hBs := (unhide HBJ).size
              obtain ⟨ar, cr, hvr, _⟩ := own_sliceG (unhide HOR)
              subst hvr
              obtain ⟨v', w', hrun, ho2, hb2⟩ := run_appS (wq.alloc (.cells #[.int .u32 (y1 : Int), .int .u32 (y2 : Int)] 44)) w1.heap.size _ r (y1, y2) 22 (own_below (unhide HOR) (below_alloc0 wq (.cells #[.int .u32 (y1 : Int), .int .u32 (y2 : Int)] 44))) (by omega) (Nat.le_trans hBs (below_alloc0 wq (.cells #[.int .u32 (y1 : Int), .int .u32 (y2 : Int)] 44)).size)
              have hz : (wq.alloc (.cells #[.int .u32 (y1 : Int), .int .u32 (y2 : Int)] 44)).heap.size = wq.heap.size + 1 := World.size_alloc _ _
              rw [hz] at hrun
              have HO2 := hide ho2
              have HB2 := hide ((belows' (unhide HBJ) (below_alloc0 wq (.cells #[.int .u32 (y1 : Int), .int .u32 (y2 : Int)] 44))).trans hb2)
              clear ho2 hb2 hz HI HOR HBJ hBs hrl
              generalize r.length = M at hrun ⊢
              go_wp2_with (at_builtin; refine wpList_append_runS (by rfl) _ _ 22 rfl rfl rfl rfl hrun ?_)
              exact ⟨⟨j + 1, p, q, r ++ [(y1, y2)], by go_num, rfl, rfl, by omega, HI1, HO2, HB2⟩, by simp [intOf]; omega⟩
            · by_cases hc2 : q + 1 < (O[j]).1
              · have HI1 := hide ((unhide HI).off hjl hyf (.inr hc2))
                generalize O[j] = yy at d0 d1 hyf HI1 hc1 hc2
                obtain ⟨y1, y2⟩ := yy
                simp only at d0 d1 hc1 hc2
                obtain ⟨hy1, hy2⟩ := hyf
                simp only at hy1 hy2
                have hu1 : IntKind.u64.wrap ((y2 : Int) + 1) = ((y2 + 1 : Nat) : Int) := by rw [IntKind.wrap_u64]; omega
                have hu2 : IntKind.u64.wrap ((q : Int) + 1) = ((q + 1 : Nat) : Int) := by rw [IntKind.wrap_u64]; omega

                have hD1 : decide (y2 + 1 < p) = false := decide_eq_false hc1
                have hi1 : ¬ (y2 : Int) + 1 < (p : Int) := by omega
                have hi2 : ¬ ((y2 + 1 : Nat) : Int) < (p : Int) := by omega

                have hD2 : decide (q + 1 < y1) = true := decide_eq_true hc2
                have hi3 : (q : Int) + 1 < (y1 : Int) := by omega
                have hi4 : ((q + 1 : Nat) : Int) < (y1 : Int) := by omega
                clear hc1 hc2

                have hBs := (unhide HBJ).size
                obtain ⟨ar, cr, hvr, _⟩ := own_sliceG (unhide HOR)
                subst hvr
                obtain ⟨v', w', hrun, ho2, hb2⟩ := run_appS (wq.alloc (.cells #[.int .u32 (y1 : Int), .int .u32 (y2 : Int)] 44)) w1.heap.size _ r (y1, y2) 22 (own_below (unhide HOR) (below_alloc0 wq (.cells #[.int .u32 (y1 : Int), .int .u32 (y2 : Int)] 44))) (by omega) (Nat.le_trans hBs (below_alloc0 wq (.cells #[.int .u32 (y1 : Int), .int .u32 (y2 : Int)] 44)).size)
                have hz : (wq.alloc (.cells #[.int .u32 (y1 : Int), .int .u32 (y2 : Int)] 44)).heap.size = wq.heap.size + 1 := World.size_alloc _ _
                rw [hz] at hrun
                have HO2 := hide ho2
                have HB2 := hide ((belows' (unhide HBJ) (below_alloc0 wq (.cells #[.int .u32 (y1 : Int), .int .u32 (y2 : Int)] 44))).trans hb2)
                clear ho2 hb2 hz HI HOR HBJ hBs hrl
                generalize r.length = M at hrun ⊢
                go_wp2_with (at_builtin; refine wpList_append_runS (by rfl) _ _ 22 rfl rfl rfl rfl hrun ?_)
                exact ⟨⟨j + 1, p, q, r ++ [(y1, y2)], by go_num, rfl, rfl, by omega, HI1, HO2, HB2⟩, by simp [intOf]; omega⟩
              · have HI1 := hide ((unhide HI).on hjl hyf (by omega))
                generalize O[j] = yy at d0 d1 hyf HI1 hc1 hc2
                obtain ⟨y1, y2⟩ := yy
                simp only at d0 d1 hc1 hc2
                obtain ⟨hy1, hy2⟩ := hyf
                simp only at hy1 hy2
                have hu1 : IntKind.u64.wrap ((y2 : Int) + 1) = ((y2 + 1 : Nat) : Int) := by rw [IntKind.wrap_u64]; omega
                have hu2 : IntKind.u64.wrap ((q : Int) + 1) = ((q + 1 : Nat) : Int) := by rw [IntKind.wrap_u64]; omega

                have hD1 : decide (y2 + 1 < p) = false := decide_eq_false hc1
                have hi1 : ¬ (y2 : Int) + 1 < (p : Int) := by omega
                have hi2 : ¬ ((y2 + 1 : Nat) : Int) < (p : Int) := by omega

                have hD2 : decide (q + 1 < y1) = false := decide_eq_false hc2
                have hi3 : ¬ (q : Int) + 1 < (y1 : Int) := by omega
                have hi4 : ¬ ((q + 1 : Nat) : Int) < (y1 : Int) := by omega
                have HO2 := hide (own_below (unhide HOR) (below_alloc0 wq (.cells #[.int .u32 (y1 : Int), .int .u32 (y2 : Int)] 44)))
                have HB2 := hide (belows' (unhide HBJ) (below_alloc0 wq (.cells #[.int .u32 (y1 : Int), .int .u32 (y2 : Int)] 44)))
                clear hc1 hc2 HI HOR HBJ hrl
                by_cases hl1 : y1 < p
                · by_cases hl2 : q < y2
                  ·
                    have hmn : min p y1 = y1 := by omega
                    have hmx : max q y2 = y2 := by omega
                    rw [hmn, hmx] at HI1
                    have hk1 : (y1 : Int) < (p : Int) := by omega
                    have hk2 : (y2 : Int) > (q : Int) := by omega
                    have hk3 : decide (y1 < p) = true := decide_eq_true hl1
                    have hk4 : decide (q < y2) = true := decide_eq_true hl2
                    clear hmn hmx hl1 hl2
                    go_wp2
                    exact ⟨⟨j + 1, y1, y2, r, by go_num, rfl, rfl, by omega, HI1, HO2, HB2⟩, by simp [intOf]; omega⟩
                  ·
                    have hmn : min p y1 = y1 := by omega
                    have hmx : max q y2 = q := by omega
                    rw [hmn, hmx] at HI1
                    have hk1 : (y1 : Int) < (p : Int) := by omega
                    have hk2 : ¬ (y2 : Int) > (q : Int) := by omega
                    have hk3 : decide (y1 < p) = true := decide_eq_true hl1
                    have hk4 : decide (q < y2) = false := decide_eq_false hl2
                    clear hmn hmx hl1 hl2
                    go_wp2
                    exact ⟨⟨j + 1, y1, q, r, by go_num, rfl, rfl, by omega, HI1, HO2, HB2⟩, by simp [intOf]; omega⟩
                · by_cases hl2 : q < y2
                  ·
                    have hmn : min p y1 = p := by omega
                    have hmx : max q y2 = y2 := by omega
                    rw [hmn, hmx] at HI1
                    have hk1 : ¬ (y1 : Int) < (p : Int) := by omega
                    have hk2 : (y2 : Int) > (q : Int) := by omega
                    have hk3 : decide (y1 < p) = false := decide_eq_false hl1
                    have hk4 : decide (q < y2) = true := decide_eq_true hl2
                    clear hmn hmx hl1 hl2
                    go_wp2
                    exact ⟨⟨j + 1, p, y2, r, by go_num, rfl, rfl, by omega, HI1, HO2, HB2⟩, by simp [intOf]; omega⟩
                  ·
                    have hmn : min p y1 = p := by omega
                    have hmx : max q y2 = q := by omega
                    rw [hmn, hmx] at HI1
                    have hk1 : ¬ (y1 : Int) < (p : Int) := by omega
                    have hk2 : ¬ (y2 : Int) > (q : Int) := by omega
                    have hk3 : decide (y1 < p) = false := decide_eq_false hl1
                    have hk4 : decide (q < y2) = false := decide_eq_false hl2
                    clear hmn hmx hl1 hl2
                    go_wp2
                    exact ⟨⟨j + 1, p, q, r, by go_num, rfl, rfl, by omega, HI1, HO2, HB2⟩, by simp [intOf]; omega⟩
          · have hjlt1 : ¬ (j : Int) < (N : Int) := by omega
            have hE : absorb O [] s.1 s.2 = (r, p, q) := by
              have h9 := (unhide HI).eq
              rw [List.drop_of_length_le (by have := unhide HNL; omega)] at h9
              rw [← h9]
              rfl
            have HNX3 := hide (unhide HNX2)
            rw [hE] at HNX3
            have hpa := (unhide HI).fa
            have hqb := (unhide HI).fb
            have hrl : r.length ≤ 1024 := by have := (unhide HI).len; omega
            have HRR := hide (rowG_of_own (Fit := FitS) cellsS_len (unhide HOR) (by omega) (unhide HI).fit)
            have HNI := hide (nils_own (unhide HOR))
            obtain ⟨ar, cr, hvr, hcr⟩ := own_sliceG (unhide HOR)
            obtain ⟨M, hM⟩ : ∃ M, M = r.length := ⟨_, rfl⟩
            subst hvr
            rw [← hM] at hrl hcr HRR HNI
            rw [← hM]
            have HML := hide hM
            have HBS := hide (Nat.le_trans (unhide HB1).size (unhide HBJ).size)
            clear hM hE HI HOR HNX2 HI0 HOF
            go_wp2
            go_loopw [14] (fun z wx => ∃ c : Nat, z = .int .i64 (c : Int) ∧ c ≤ M ∧ Hid (∀ (i : Nat) (h : i < r.length), i < c → (r[i]).1 < p) ∧ wq = wx) (fun z _ => M - (intOf z).toNat)
            case atStart => exact ⟨0, rfl, Nat.zero_le _, hide (fun i h hi => by omega), rfl⟩
            case round =>
              rename World => wx
              obtain ⟨c, rfl, hc, HA, hwx⟩ := hrel
              subst hwx
              by_cases hcl : c < M
              · have hcl1 : (c : Int) < (M : Int) := by omega
                have hcl2 : decide (c < M) = true := decide_eq_true hcl
                have hcr1 : c < r.length := by have := unhide HML; omega
                obtain ⟨b3, off3, cp3, hv3, hblt3, hcell3⟩ := RowG.at cellsS_len (unhide HRR) (j := c) hcr1
                injection hv3 with f4 f5 f6
                subst f4
                have d0 := hcell3 0 (by omega)
                simp only [cellsS, List.getElem?_cons_zero, Nat.add_zero] at d0
                clear f5 f6 hcell3
                by_cases hxp : (r[c]).1 < p
                · have HA9 : Hid (∀ (i : Nat) (h : i < r.length), i < c + 1 → (r[i]).1 < p) := hide (by
                    intro i h hi
                    by_cases he : i = c
                    · subst he; exact hxp
                    · exact unhide HA i h (by omega))
                  have hxf := ((by obtain ⟨_, _, _, _, hf9, _⟩ := unhide HRR; exact hf9 _ (List.getElem_mem hcr1)) : FitS r[c]).1
                  generalize (r[c]).1 = x0 at d0 hxp hxf
                  have hxp1 : (x0 : Int) < (p : Int) := by omega
                  have hxp2 : decide (x0 < p) = true := decide_eq_true hxp
                  clear HA hxp
                  go_wp2
                  exact ⟨⟨c + 1, by go_num, by omega, HA9, by first | trivial | rfl⟩, by simp [intOf]; omega⟩
                · have HST : ∀ h : c < r.length, ¬ (r[c]).1 < p := fun _ => hxp
                  generalize hx9 : (r[c]).1 = x0 at d0 hxp
                  have hxp1 : ¬ (x0 : Int) < (p : Int) := by omega
                  have hxp2 : decide (x0 < p) = false := decide_eq_false hxp
                  clear hxp hx9
                  have HHP1 := hide (show RowSp wq (sliced (some ⟨b3, off3, none⟩) 0 c cr 2) (r.take c) from by have h9 := cut_rowS (f := 0) (t := c) (by rw [← unhide HML]; exact unhide HRR) (by omega) (by have := unhide HML; omega) (by have := unhide HML; omega); simpa using h9)
                  have HHP2 := hide (show RowSp wq (sliced (some ⟨b3, off3, none⟩) c M cr 2) (r.drop c) from by have h9 := cut_rowS (f := c) (t := M) (by rw [← unhide HML]; exact unhide HRR) (by omega) (by have := unhide HML; omega) (by have := unhide HML; omega); rw [List.take_of_length_le (by have := unhide HML; simp; omega)] at h9; exact h9)
                  have HHN1 := hide (nils_cut (f := 0) (t := c) (unhide HNI) (by omega))
                  have HHN2 := hide (nils_cut (f := c) (t := M) (unhide HNI) (by omega))
                  have HTK : Hid ((r.take c).length + (r.drop c).length ≤ 1024) := hide (by rw [List.length_take, List.length_drop]; have := unhide HML; omega)
                  have HFIN := hide ((unhide HNX3).trans (insAt_at (b := q) (by have := unhide HML; omega) (unhide HA) HST))
                  have hu1 := fun W => uptoS_run (some ⟨b3, off3, none⟩) M cr c (by omega) W
                  have hu2 := fun W => fromS_run (some ⟨b3, off3, none⟩) M cr c (by omega) W
                  obtain ⟨P1, hP1⟩ : ∃ P, P = sliced (some ⟨b3, off3, none⟩) 0 c cr 2 := ⟨_, rfl⟩
                  obtain ⟨P2, hP2⟩ : ∃ P, P = sliced (some ⟨b3, off3, none⟩) c M cr 2 := ⟨_, rfl⟩
                  rw [← hP1] at HHP1 HHN1 hu1
                  rw [← hP2] at HHP2 HHN2 hu2
                  have HP1 := HHP1
                  have HP2 := HHP2
                  have HN1 := HHN1
                  have HN2 := HHN2
                  clear HHP1 HHP2 HHN1 HHN2 hP1 hP2 HNX3 HA HST
                  have HW1 : Hid (Below wq.heap.size wq (wq.alloc (.cells #[] 44)).drew) := hide (below_dq (below_alloc0 wq _))
                  have HW2 : Hid (Below wq.heap.size wq ((wq.alloc (.cells #[] 44)).alloc (.cells #[.int .u32 (p : Int), .int .u32 (q : Int)] 44)).drew) := hide (below_dq (belows' (below_alloc0 wq _) (below_alloc0 _ _)))
                  have HW3 : Hid (Below wq.heap.size wq ((wq.alloc (.cells #[.int .u32 (p : Int), .int .u32 (q : Int)] 44)).alloc (.cells #[] 44)).drew) := hide (below_dq (belows' (below_alloc0 wq _) (below_alloc0 _ _)))
                  have HE1 : Hid (((wq.alloc (.cells #[] 44)).drew).ownsRow wq.heap.size 44 2 (.slice (some ⟨wq.heap.size, 0, none⟩) 0 0) ([] : List Sp).length (flatG cellsS [])) := hide (own_emptyR (Blk.new wq 44 #[]) (Nat.le_refl _))
                  have HE2 : Hid ((((wq.alloc (.cells #[] 44)).alloc (.cells #[.int .u32 (p : Int), .int .u32 (q : Int)] 44)).drew).ownsRow wq.heap.size 44 2 (.slice (some ⟨wq.heap.size, 0, none⟩) 0 0) ([] : List Sp).length (flatG cellsS [])) := hide (own_emptyR ((Blk.new wq 44 #[]).below (below_dq (below_alloc0 _ _))) (Nat.le_refl _))
                  have HE3 : Hid ((((wq.alloc (.cells #[.int .u32 (p : Int), .int .u32 (q : Int)] 44)).alloc (.cells #[] 44)).drew).ownsRow wq.heap.size 44 2 (.slice (some ⟨wq.heap.size + 1, 0, none⟩) 0 0) ([] : List Sp).length (flatG cellsS [])) := hide (own_emptyR (by have h := Blk.new (wq.alloc (.cells #[.int .u32 (p : Int), .int .u32 (q : Int)] 44)) 44 #[]; rwa [show (wq.alloc (.cells #[.int .u32 (p : Int), .int .u32 (q : Int)] 44)).heap.size = wq.heap.size + 1 by simp] at h) (by omega))
                  have HX2 : Hid ((((wq.alloc (.cells #[] 44)).alloc (.cells #[.int .u32 (p : Int), .int .u32 (q : Int)] 44)).drew).heap[wq.heap.size + 1]? = some (.cells #[.int .u32 (p : Int), .int .u32 (q : Int)] 44 (0, 0))) := hide (by have h := Blk.new (wq.alloc (.cells #[] 44)) 44 #[.int .u32 (p : Int), .int .u32 (q : Int)]; rwa [show (wq.alloc (.cells #[] 44)).heap.size = wq.heap.size + 1 by simp] at h)
                  have HX3 : Hid ((((wq.alloc (.cells #[.int .u32 (p : Int), .int .u32 (q : Int)] 44)).alloc (.cells #[] 44)).drew).heap[wq.heap.size]? = some (.cells #[.int .u32 (p : Int), .int .u32 (q : Int)] 44 (0, 0))) := hide ((Blk.new wq 44 #[.int .u32 (p : Int), .int .u32 (q : Int)]).below (below_dq (below_alloc0 _ _)))
                  go_wp2
                  go_region_law (first
                    | (refine step_append_spR rfl (.tmp 84) (.tmp 87) rfl wq.heap.size (.slice (some ⟨wq.heap.size, 0, none⟩) 0 0) P1 [] (r.take c) (by simp [Act.eval]) (by simp [Act.eval]) (unhide HE2) (RowSp.below (unhide HP1) (unhide HW2)) (unhide HN1) (by have := unhide HTK; simp only [List.length_nil]; omega) (unhide HW2).size ?_
                       intro v1 w4 hown1 hgrow1
                       have hB1 : Below wq.heap.size wq w4 := below_own (unhide HW2) (unhide HE2) hgrow1 (unhide HW2).size
                       have hN4 : w4.heap[wq.heap.size + 1]? = some (.cells #[.int .u32 (p : Int), .int .u32 (q : Int)] 44 (0, 0)) := (hgrow1.block (wq.heap.size + 1) (by simp) (by simp [Value.ownBlock])).trans (unhide HX2))
                    | (refine step_append_spR rfl (.tmp 84) (.tmp 87) rfl wq.heap.size (.slice (some ⟨wq.heap.size + 1, 0, none⟩) 0 0) P1 [] (r.take c) (by simp [Act.eval]) (by simp [Act.eval]) (unhide HE3) (RowSp.below (unhide HP1) (unhide HW3)) (unhide HN1) (by have := unhide HTK; simp only [List.length_nil]; omega) (unhide HW3).size ?_
                       intro v1 w4 hown1 hgrow1
                       have hB1 : Below wq.heap.size wq w4 := below_own (unhide HW3) (unhide HE3) hgrow1 (unhide HW3).size
                       have hN4 : w4.heap[wq.heap.size]? = some (.cells #[.int .u32 (p : Int), .int .u32 (q : Int)] 44 (0, 0)) := (hgrow1.block wq.heap.size (by simp; omega) (by simp [Value.ownBlock])).trans (unhide HX3))
                    | (refine step_append_spR rfl (.tmp 88) (.tmp 92) rfl wq.heap.size v1 (.slice (some ⟨wq.heap.size + 1, 0, none⟩) 1 1) ([] ++ r.take c) [(p, q)] (by simp [Act.eval]) (by simp [Act.eval]) (hown1) (row_oneS hN4 hpa hqb) (nils_some _ _ _) (by have := unhide HTK; simp only [List.length_nil, List.length_append, List.length_cons]; omega) (hB1).size ?_
                       intro v2 w5 hown2 hgrow2
                       have hB2 : Below wq.heap.size wq w5 := below_own (hB1) (hown1) hgrow2 (hB1).size)
                    | (refine step_append_spR rfl (.tmp 88) (.tmp 92) rfl wq.heap.size v1 (.slice (some ⟨wq.heap.size, 0, none⟩) 1 1) ([] ++ r.take c) [(p, q)] (by simp [Act.eval]) (by simp [Act.eval]) (hown1) (row_oneS hN4 hpa hqb) (nils_some _ _ _) (by have := unhide HTK; simp only [List.length_nil, List.length_append, List.length_cons]; omega) (hB1).size ?_
                       intro v2 w5 hown2 hgrow2
                       have hB2 : Below wq.heap.size wq w5 := below_own (hB1) (hown1) hgrow2 (hB1).size)
                    | (refine step_append_spR rfl (.tmp 84) (.tmp 87) rfl wq.heap.size (.slice (some ⟨wq.heap.size, 0, none⟩) 0 0) P1 [] (r.take c) (by simp [Act.eval]) (by simp [Act.eval]) (unhide HE1) (RowSp.below (unhide HP1) (unhide HW1)) (unhide HN1) (by have := unhide HTK; simp only [List.length_nil]; omega) (unhide HW1).size ?_
                       intro v1 w4 hown1 hgrow1
                       have hB1 : Below wq.heap.size wq w4 := below_own (unhide HW1) (unhide HE1) hgrow1 (unhide HW1).size)
                    | (refine step_append_spR rfl (.tmp 88) (.tmp 92) rfl wq.heap.size v1 (.slice (some ⟨w4.heap.size, 0, none⟩) 1 1) ([] ++ r.take c) [(p, q)] (by simp [Act.eval]) (by simp [Act.eval]) (own_below hown1 (below_alloc0 w4 (.cells #[.int .u32 (p : Int), .int .u32 (q : Int)] 44))) (row_oneS (Blk.new w4 44 #[.int .u32 (p : Int), .int .u32 (q : Int)]) hpa hqb) (nils_some _ _ _) (by have := unhide HTK; simp only [List.length_nil, List.length_append, List.length_cons]; omega) (hB1.alloc hB1.size (.cells #[.int .u32 (p : Int), .int .u32 (q : Int)] 44)).size ?_
                       intro v2 w5 hown2 hgrow2
                       have hB2 : Below wq.heap.size wq w5 := below_own (hB1.alloc hB1.size (.cells #[.int .u32 (p : Int), .int .u32 (q : Int)] 44)) (own_below hown1 (below_alloc0 w4 (.cells #[.int .u32 (p : Int), .int .u32 (q : Int)] 44))) hgrow2 (hB1.alloc hB1.size (.cells #[.int .u32 (p : Int), .int .u32 (q : Int)] 44)).size)
                    | (refine step_append_spR rfl (.tmp 93) (.tmp 96) rfl wq.heap.size v2 P2 ([] ++ r.take c ++ [(p, q)]) (r.drop c) (by simp [Act.eval]) (by simp [Act.eval]) hown2 (RowSp.below (unhide HP2) hB2) (unhide HN2) (by have := unhide HTK; simp only [List.length_nil, List.length_append, List.length_cons]; omega) hB2.size ?_
                       intro v3 w6 hown3 hgrow3
                       have hB3 : Below wq.heap.size wq w6 := below_own hB2 hown2 hgrow3 hB2.size))
                  all_goals
                    have HRO3 := hide (own_lowR hown3 (unhide HBS))
                    rw [← unhide HFIN] at HRO3
                    have HRB3 := hide (below_lowR (unhide HB1) (unhide HBJ) hB3)
                    clear hown1 hown2 hown3 hgrow1 hgrow2 hgrow3 hB1 hB2 hB3 HE1 HE2 HE3 HW1 HW2 HW3 HX2 HX3 HFIN HP1 HP2 HN1 HN2 HRR hu1 hu2
                    (try clear hN4)
                    (try go_simp)
                    (try go_wp2)
                    exact ⟨⟨k + 1, by go_num, by omega, HRO3, HRB3⟩, by simp [intOf]; omega⟩
              · have hcl1 : ¬ (c : Int) < (M : Int) := by omega
                have hcl2 : decide (c < M) = false := decide_eq_false hcl
                have HST : ∀ h : c < r.length, ¬ (r[c]).1 < p := fun h9 => by have := unhide HML; omega
                have HHP1 := hide (show RowSp wq (sliced ar 0 c cr 2) (r.take c) from by have h9 := cut_rowS (f := 0) (t := c) (by rw [← unhide HML]; exact unhide HRR) (by omega) (by have := unhide HML; omega) (by have := unhide HML; omega); simpa using h9)
                have HHP2 := hide (show RowSp wq (sliced ar c M cr 2) (r.drop c) from by have h9 := cut_rowS (f := c) (t := M) (by rw [← unhide HML]; exact unhide HRR) (by omega) (by have := unhide HML; omega) (by have := unhide HML; omega); rw [List.take_of_length_le (by have := unhide HML; simp; omega)] at h9; exact h9)
                have HHN1 := hide (nils_cut (f := 0) (t := c) (unhide HNI) (by omega))
                have HHN2 := hide (nils_cut (f := c) (t := M) (unhide HNI) (by omega))
                have HTK : Hid ((r.take c).length + (r.drop c).length ≤ 1024) := hide (by rw [List.length_take, List.length_drop]; have := unhide HML; omega)
                have HFIN := hide ((unhide HNX3).trans (insAt_at (b := q) (by have := unhide HML; omega) (unhide HA) HST))
                have hu1 := fun W => uptoS_run ar M cr c (by omega) W
                have hu2 := fun W => fromS_run ar M cr c (by omega) W
                obtain ⟨P1, hP1⟩ : ∃ P, P = sliced ar 0 c cr 2 := ⟨_, rfl⟩
                obtain ⟨P2, hP2⟩ : ∃ P, P = sliced ar c M cr 2 := ⟨_, rfl⟩
                rw [← hP1] at HHP1 HHN1 hu1
                rw [← hP2] at HHP2 HHN2 hu2
                have HP1 := HHP1
                have HP2 := HHP2
                have HN1 := HHN1
                have HN2 := HHN2
                clear HHP1 HHP2 HHN1 HHN2 hP1 hP2 HNX3 HA HST
                have HW1 : Hid (Below wq.heap.size wq (wq.alloc (.cells #[] 44)).drew) := hide (below_dq (below_alloc0 wq _))
                have HW2 : Hid (Below wq.heap.size wq ((wq.alloc (.cells #[] 44)).alloc (.cells #[.int .u32 (p : Int), .int .u32 (q : Int)] 44)).drew) := hide (below_dq (belows' (below_alloc0 wq _) (below_alloc0 _ _)))
                have HW3 : Hid (Below wq.heap.size wq ((wq.alloc (.cells #[.int .u32 (p : Int), .int .u32 (q : Int)] 44)).alloc (.cells #[] 44)).drew) := hide (below_dq (belows' (below_alloc0 wq _) (below_alloc0 _ _)))
                have HE1 : Hid (((wq.alloc (.cells #[] 44)).drew).ownsRow wq.heap.size 44 2 (.slice (some ⟨wq.heap.size, 0, none⟩) 0 0) ([] : List Sp).length (flatG cellsS [])) := hide (own_emptyR (Blk.new wq 44 #[]) (Nat.le_refl _))
                have HE2 : Hid ((((wq.alloc (.cells #[] 44)).alloc (.cells #[.int .u32 (p : Int), .int .u32 (q : Int)] 44)).drew).ownsRow wq.heap.size 44 2 (.slice (some ⟨wq.heap.size, 0, none⟩) 0 0) ([] : List Sp).length (flatG cellsS [])) := hide (own_emptyR ((Blk.new wq 44 #[]).below (below_dq (below_alloc0 _ _))) (Nat.le_refl _))
                have HE3 : Hid ((((wq.alloc (.cells #[.int .u32 (p : Int), .int .u32 (q : Int)] 44)).alloc (.cells #[] 44)).drew).ownsRow wq.heap.size 44 2 (.slice (some ⟨wq.heap.size + 1, 0, none⟩) 0 0) ([] : List Sp).length (flatG cellsS [])) := hide (own_emptyR (by have h := Blk.new (wq.alloc (.cells #[.int .u32 (p : Int), .int .u32 (q : Int)] 44)) 44 #[]; rwa [show (wq.alloc (.cells #[.int .u32 (p : Int), .int .u32 (q : Int)] 44)).heap.size = wq.heap.size + 1 by simp] at h) (by omega))
                have HX2 : Hid ((((wq.alloc (.cells #[] 44)).alloc (.cells #[.int .u32 (p : Int), .int .u32 (q : Int)] 44)).drew).heap[wq.heap.size + 1]? = some (.cells #[.int .u32 (p : Int), .int .u32 (q : Int)] 44 (0, 0))) := hide (by have h := Blk.new (wq.alloc (.cells #[] 44)) 44 #[.int .u32 (p : Int), .int .u32 (q : Int)]; rwa [show (wq.alloc (.cells #[] 44)).heap.size = wq.heap.size + 1 by simp] at h)
                have HX3 : Hid ((((wq.alloc (.cells #[.int .u32 (p : Int), .int .u32 (q : Int)] 44)).alloc (.cells #[] 44)).drew).heap[wq.heap.size]? = some (.cells #[.int .u32 (p : Int), .int .u32 (q : Int)] 44 (0, 0))) := hide ((Blk.new wq 44 #[.int .u32 (p : Int), .int .u32 (q : Int)]).below (below_dq (below_alloc0 _ _)))
                go_wp2
                go_region_law (first
                  | (refine step_append_spR rfl (.tmp 84) (.tmp 87) rfl wq.heap.size (.slice (some ⟨wq.heap.size, 0, none⟩) 0 0) P1 [] (r.take c) (by simp [Act.eval]) (by simp [Act.eval]) (unhide HE2) (RowSp.below (unhide HP1) (unhide HW2)) (unhide HN1) (by have := unhide HTK; simp only [List.length_nil]; omega) (unhide HW2).size ?_
                     intro v1 w4 hown1 hgrow1
                     have hB1 : Below wq.heap.size wq w4 := below_own (unhide HW2) (unhide HE2) hgrow1 (unhide HW2).size
                     have hN4 : w4.heap[wq.heap.size + 1]? = some (.cells #[.int .u32 (p : Int), .int .u32 (q : Int)] 44 (0, 0)) := (hgrow1.block (wq.heap.size + 1) (by simp) (by simp [Value.ownBlock])).trans (unhide HX2))
                  | (refine step_append_spR rfl (.tmp 84) (.tmp 87) rfl wq.heap.size (.slice (some ⟨wq.heap.size + 1, 0, none⟩) 0 0) P1 [] (r.take c) (by simp [Act.eval]) (by simp [Act.eval]) (unhide HE3) (RowSp.below (unhide HP1) (unhide HW3)) (unhide HN1) (by have := unhide HTK; simp only [List.length_nil]; omega) (unhide HW3).size ?_
                     intro v1 w4 hown1 hgrow1
                     have hB1 : Below wq.heap.size wq w4 := below_own (unhide HW3) (unhide HE3) hgrow1 (unhide HW3).size
                     have hN4 : w4.heap[wq.heap.size]? = some (.cells #[.int .u32 (p : Int), .int .u32 (q : Int)] 44 (0, 0)) := (hgrow1.block wq.heap.size (by simp; omega) (by simp [Value.ownBlock])).trans (unhide HX3))
                  | (refine step_append_spR rfl (.tmp 88) (.tmp 92) rfl wq.heap.size v1 (.slice (some ⟨wq.heap.size + 1, 0, none⟩) 1 1) ([] ++ r.take c) [(p, q)] (by simp [Act.eval]) (by simp [Act.eval]) (hown1) (row_oneS hN4 hpa hqb) (nils_some _ _ _) (by have := unhide HTK; simp only [List.length_nil, List.length_append, List.length_cons]; omega) (hB1).size ?_
                     intro v2 w5 hown2 hgrow2
                     have hB2 : Below wq.heap.size wq w5 := below_own (hB1) (hown1) hgrow2 (hB1).size)
                  | (refine step_append_spR rfl (.tmp 88) (.tmp 92) rfl wq.heap.size v1 (.slice (some ⟨wq.heap.size, 0, none⟩) 1 1) ([] ++ r.take c) [(p, q)] (by simp [Act.eval]) (by simp [Act.eval]) (hown1) (row_oneS hN4 hpa hqb) (nils_some _ _ _) (by have := unhide HTK; simp only [List.length_nil, List.length_append, List.length_cons]; omega) (hB1).size ?_
                     intro v2 w5 hown2 hgrow2
                     have hB2 : Below wq.heap.size wq w5 := below_own (hB1) (hown1) hgrow2 (hB1).size)
                  | (refine step_append_spR rfl (.tmp 84) (.tmp 87) rfl wq.heap.size (.slice (some ⟨wq.heap.size, 0, none⟩) 0 0) P1 [] (r.take c) (by simp [Act.eval]) (by simp [Act.eval]) (unhide HE1) (RowSp.below (unhide HP1) (unhide HW1)) (unhide HN1) (by have := unhide HTK; simp only [List.length_nil]; omega) (unhide HW1).size ?_
                     intro v1 w4 hown1 hgrow1
                     have hB1 : Below wq.heap.size wq w4 := below_own (unhide HW1) (unhide HE1) hgrow1 (unhide HW1).size)
                  | (refine step_append_spR rfl (.tmp 88) (.tmp 92) rfl wq.heap.size v1 (.slice (some ⟨w4.heap.size, 0, none⟩) 1 1) ([] ++ r.take c) [(p, q)] (by simp [Act.eval]) (by simp [Act.eval]) (own_below hown1 (below_alloc0 w4 (.cells #[.int .u32 (p : Int), .int .u32 (q : Int)] 44))) (row_oneS (Blk.new w4 44 #[.int .u32 (p : Int), .int .u32 (q : Int)]) hpa hqb) (nils_some _ _ _) (by have := unhide HTK; simp only [List.length_nil, List.length_append, List.length_cons]; omega) (hB1.alloc hB1.size (.cells #[.int .u32 (p : Int), .int .u32 (q : Int)] 44)).size ?_
                     intro v2 w5 hown2 hgrow2
                     have hB2 : Below wq.heap.size wq w5 := below_own (hB1.alloc hB1.size (.cells #[.int .u32 (p : Int), .int .u32 (q : Int)] 44)) (own_below hown1 (below_alloc0 w4 (.cells #[.int .u32 (p : Int), .int .u32 (q : Int)] 44))) hgrow2 (hB1.alloc hB1.size (.cells #[.int .u32 (p : Int), .int .u32 (q : Int)] 44)).size)
                  | (refine step_append_spR rfl (.tmp 93) (.tmp 96) rfl wq.heap.size v2 P2 ([] ++ r.take c ++ [(p, q)]) (r.drop c) (by simp [Act.eval]) (by simp [Act.eval]) hown2 (RowSp.below (unhide HP2) hB2) (unhide HN2) (by have := unhide HTK; simp only [List.length_nil, List.length_append, List.length_cons]; omega) hB2.size ?_
                     intro v3 w6 hown3 hgrow3
                     have hB3 : Below wq.heap.size wq w6 := below_own hB2 hown2 hgrow3 hB2.size))
                all_goals
                  have HRO3 := hide (own_lowR hown3 (unhide HBS))
                  rw [← unhide HFIN] at HRO3
                  have HRB3 := hide (below_lowR (unhide HB1) (unhide HBJ) hB3)
                  clear hown1 hown2 hown3 hgrow1 hgrow2 hgrow3 hB1 hB2 hB3 HE1 HE2 HE3 HW1 HW2 HW3 HX2 HX3 HFIN HP1 HP2 HN1 HN2 HRR hu1 hu2
                  (try clear hN4)
                  (try go_simp)
                  (try go_wp2)
                  exact ⟨⟨k + 1, by go_num, by omega, HRO3, HRB3⟩, by simp [intOf]; omega⟩
      · have hlt1 : ¬ (k : Int) < (T : Int) := by omega
        have htk : l.take k = l := List.take_of_length_le (by have := unhide HTL; omega)
        rw [htk] at HO
        have HFIN : Hid (PR = (((l.map (ordS m)).foldl refStep []), 0)) := hide (unhide HPE)
        clear htk
        go_wp2
        go_ret2
        refine ⟨_, by rw [unhide HFIN]; rfl, ?_, unhide HB⟩
        rw [unhide HFIN]
        exact unhide HO
  · have HPE : Hid (PR = ([], 1)) := hide (by rw [unhide HPR]; unfold refR; rw [if_neg (by have := unhide HTL; omega)])
    have hgt : (T : Int) > 1024 := by omega
    clear HPR
    go_enter Tryd.func6, Tryd.ntmps6
    go_wp2
    go_ret2
    refine ⟨_, by rw [unhide HPE]; rfl, ?_, Below.refl _ _⟩
    rw [unhide HPE]
    exact World.ownsRow_nil _ _ _ _
end Go.Proofs.YtcoknclifgkcgaaDoor
