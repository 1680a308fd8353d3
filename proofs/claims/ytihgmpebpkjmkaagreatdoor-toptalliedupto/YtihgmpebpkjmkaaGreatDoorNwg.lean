/-
  What nset.apart does, over this seat's program.
-/
import Derived.Test.YtihgmpebpkjmkaaGreatDoorNwf
set_option linter.unusedVariables false
namespace Go.Proofs.YtihgmpebpkjmkaaGreatDoor
open Go.RowKit Go.Proofs.Nst

theorem own_monoS {w : World} {B B' e z : Nat} {v : Value} {n : Nat} {xs : List Value} (h : w.ownsRow B e z v n xs) (hb : B' ≤ B) : w.ownsRow B' e z v n xs := by
  refine ⟨h.1, ?_⟩
  rcases h.2 with h1 | ⟨g, cap, cur, hv, hg, r⟩
  · exact .inl h1
  · exact .inr ⟨g, cap, cur, hv, Nat.le_trans hb hg, r⟩
theorem own_some {w : World} {B e z : Nat} {a : Addr} {n cap : Nat} {xs : List Value} (h : w.ownsRow B e z (.slice (some a) n cap) n xs) : ∃ g, a = ⟨g, 0, none⟩ ∧ B ≤ g ∧ g < w.heap.size := by
  rcases h.2 with ⟨h1, _⟩ | ⟨g, cap', cur, hv, hg, hh, r⟩
  · cases h1
  · injection hv with e1
    injection e1 with e1
    exact ⟨g, e1, hg, (Array.getElem?_eq_some_iff.1 hh).1⟩
theorem ord_fit {m : Nat} (hm : m ≤ 4294967295) {l : List Sp} (hf : ∀ x ∈ l, FitS x) : ∀ x ∈ l.map (ordS m), FitS x := by
  intro x hx
  obtain ⟨y, hy, rfl⟩ := List.mem_map.1 hx
  have := hf y hy
  unfold FitS at *
  unfold ordS endN
  simp only
  split <;> split <;> omega
theorem take_map_next {l : List Sp} {m k : Nat} (h : k < l.length) : (l.take (k + 1)).map (ordS m) = (l.take k).map (ordS m) ++ [ordS m l[k]] := by
  rw [List.take_succ_eq_append_getElem h, List.map_append]
  rfl
theorem take_put_next {R : List Sp} {k : Nat} (h : k < R.length) : (R.take (k + 1)).foldl putS [] = putS ((R.take k).foldl putS []) R[k] := by
  rw [List.take_succ_eq_append_getElem h, List.foldl_append]
  rfl
theorem put_fit_all {R : List Sp} (hf : ∀ x ∈ R, FitS x) : ∀ (r : List Sp) (L : List Sp), (∀ x ∈ r, FitS x) → (∀ x ∈ L, FitS x) → ∀ x ∈ r.foldl putS L, FitS x
  | [], L, _, hL => hL
  | s :: r, L, hr, hL => put_fit_all hf r (putS L s) (fun x hx => hr x (List.mem_cons_of_mem _ hx)) (putS_fit hL (hr s List.mem_cons_self))

set_option maxHeartbeats 2000000 in
set_option maxRecDepth 100000 in
theorem apart_any (v : Value) (l : List Sp) (m : Nat) (w : World) (h : RowSp w v l) (hm : m ≤ 4294967295) (hl : l.length ≤ 1048576) :
    Calls Tryz.prog 28 #[v, .int .u32 (m : Int)] w fun e w' => ∃ v', e = .returned v' ∧ w'.ownsRow w.heap.size 79 2 v' (apartS m l).length (flatG cellsS (apartS m l)) ∧ Below w.heap.size w w' := by
  have HR := hide h
  obtain ⟨a, cap, rfl, _, hfit, _⟩ := h
  have HF := hide hfit
  obtain ⟨T, hT⟩ : ∃ T, T = l.length := ⟨_, rfl⟩
  rw [← hT] at HR hl ⊢
  have HTL := hide hT
  have hTi : (T : Int) ≤ 1048576 := by omega
  obtain ⟨i0, hi, hz0, hz1, hz2⟩ := info_partsN spInfo
  obtain ⟨w2, hrun, hown, hgr⟩ := run_make_own (P := Tryz.prog) w w.heap.size 26 79 i0 (.agg #[.int .u32 0, .int .u32 0]) 2 Tryz.underlying26 hi hz0 hz1 .i64 .i64 T (by rw [hz2]; omega) (by unfold maxLen; omega) (Nat.le_refl _)
  have hb2 : Below w.heap.size w w2 := ⟨hgr.os, hgr.tape, hgr.output, hgr.size, fun k hk => hgr.block k hk (by simp)⟩
  have HO2 := hide hown
  have HB2 := hide hb2
  clear hT hfit hgr hb2 hown
  go_enter Tryz.func28, Tryz.ntmps28
  go_wp2
  clear hrun
  go_loopw [5, 7, 16] (fun y _ z wr => ∃ k : Nat, z = .int .i64 k ∧ k ≤ T ∧ (∃ g cp, y = .slice (some ⟨g, 0, none⟩) k cp) ∧ Hid (wr.ownsRow w.heap.size 79 2 y k (flatG cellsS ((l.take k).map (ordS m)))) ∧ Hid (Below w.heap.size w wr)) (fun _ _ z _ => T - (intOf z).toNat)
  case atStart => exact ⟨0, rfl, Nat.zero_le _, ⟨_, _, rfl⟩, hide (by simpa [flatG] using unhide HO2), HB2⟩
  case round =>
    obtain ⟨k, rfl, hk, ⟨g, cp, rfl⟩, HO, HB⟩ := hrel
    clear HO2 HB2
    by_cases hlt : k < T
    · have hlt1 : (k : Int) < (T : Int) := by omega
      have hkl : k < l.length := by have := unhide HTL; omega
      obtain ⟨b, off, cpk, hv1, hblt, hcell⟩ := RowG.at cellsS_len ((unhide HR).below (unhide HB)) (j := k) hkl
      injection hv1 with e1 e2 e3
      subst e1
      have c0 := hcell 0 (by omega)
      have c1 := hcell 1 (by omega)
      simp only [cellsS, List.getElem?_cons_zero, List.getElem?_cons_succ, Nat.add_zero] at c0 c1
      clear e2 e3 hcell
      have HIO := hide (fun W => inOrder_any (l[k]).1 (l[k]).2 m W)
      rw [show ((l[k]).1, (l[k]).2) = l[k] from rfl] at HIO
      have HTN := hide (take_map_next (m := m) hkl)
      have hlk : ((l.take k).map (ordS m)).length = k := by rw [List.length_map, List.length_take]; omega
      have HLK := hide hlk
      generalize (l[k]).1 = x at c0 HIO
      generalize (l[k]).2 = y at c1 HIO
      generalize ordS m l[k] = p at HIO HTN
      have HBA := hide (belows' (unhide HB) (below_alloc0 wr (.cells #[.int .u32 (x : Int), .int .u32 (y : Int)] 79)))
      clear hlk
      go_wp2_with fail
      refine (unhide HIO _).mono ?_
      rintro e w1 ⟨rfl, b1⟩
      have hB1 := belows' (unhide HBA) b1
      have hO1 := own_below (unhide HO) (belows' (below_alloc0 _ _) b1)
      obtain ⟨v', w', hrun, h2, h3⟩ := run_appS w1 w.heap.size (.slice (some ⟨g, 0, none⟩) k cp) ((l.take k).map (ordS m)) p 26 (by rw [unhide HLK]; exact hO1) (by rw [unhide HLK]; omega) hB1.size
      have h2' : w'.ownsRow w.heap.size 79 2 v' (k + 1) (flatG cellsS ((l.take (k + 1)).map (ordS m))) := by
        rw [unhide HTN]
        rw [List.length_append, unhide HLK] at h2
        exact h2
      obtain ⟨a', c', hv', _⟩ := own_sliceG h2'
      subst hv'
      cases a' with
      | none =>
        rcases h2'.2 with ⟨h9, h10⟩ | ⟨g9, c9, cur9, hv9, _⟩
        · omega
        · cases hv9
      | some a' =>
        obtain ⟨g', rfl, _, _⟩ := own_some h2'
        have H2 := hide h2'
        have H3 := hide (hB1.trans h3)
        clear h2 h2' h3 hB1 hO1 b1 HBA HIO HTN HLK HO
        go_wp2_with (at_builtin; refine wpList_append_runS (by rfl) _ _ 26 rfl rfl rfl rfl hrun ?_)
        exact ⟨⟨k + 1, by go_num, by omega, ⟨_, _, rfl⟩, H2, H3⟩, by simp [intOf]; omega⟩
    · have hlt1 : ¬ (k : Int) < (T : Int) := by omega
      have hkT : k = T := by omega
      subst hkT
      have htk : l.take k = l := List.take_of_length_le (by have := unhide HTL; omega)
      rw [htk] at HO
      have hml : (l.map (ordS m)).length = k := by rw [List.length_map]; exact (unhide HTL).symm
      obtain ⟨g', hg', hgB, hgl⟩ := own_some (unhide HO)
      obtain rfl : g' = g := by injection hg' with h9; exact h9.symm
      have HSO := hide (sort_any w.heap.size g' cp (l.map (ordS m)) wr (by rw [hml]; exact unhide HO) (by omega) hgB hgl (ord_fit hm (unhide HF)))
      rw [hml] at HSO
      clear htk hg' hgB hgl HO hml hlt hk
      go_wp2_with fail
      refine (unhide HSO).mono ?_
      rintro e W5 ⟨rfl, R, hp, hs, hRl, hrow, hb5⟩
      have HAP : Hid (R.foldl putS [] = apartS m l) := hide (apartS_sorted hp hs)
      have HRL : Hid (k = R.length) := hide hRl.symm
      have HRF : Hid (∀ x ∈ R, FitS x) := hide (fun x hx => ord_fit hm (unhide HF) x (hp.mem_iff.1 hx))
      have HRW := hide hrow
      have HB5 := hide ((unhide HB).trans hb5)
      clear hp hs hRl hrow hb5 HSO
      go_wp2
      go_loopw [8, 10, 32] (fun y _ z wr => ∃ j : Nat, z = .int .i64 j ∧ j ≤ k ∧ Hid (wr.ownsRow W5.heap.size 79 2 y ((R.take j).foldl putS []).length (flatG cellsS ((R.take j).foldl putS []))) ∧ Hid (Below W5.heap.size W5 wr)) (fun _ _ z _ => k - (intOf z).toNat)
      case atStart => exact ⟨0, rfl, Nat.zero_le _, hide (by simpa [flatG] using (World.ownsRow_nil W5 W5.heap.size 79 2)), hide (Below.refl _ _)⟩
      case round =>
        obtain ⟨j, rfl, hj, HO, HBJ⟩ := hrel
        by_cases hlt : j < k
        · have hlt1 : (j : Int) < (k : Int) := by omega
          have hjl : j < R.length := by have := unhide HRL; omega
          obtain ⟨b, off, cpk, hv1, hblt, hcell⟩ := RowG.at cellsS_len ((unhide HRW).below (unhide HBJ)) (j := j) hjl
          injection hv1 with e1 e2 e3
          injection e1 with e1
          injection e1 with e4 e5
          subst e4 e5
          have c0 := hcell 0 (by omega)
          have c1 := hcell 1 (by omega)
          simp only [cellsS, List.getElem?_cons_zero, List.getElem?_cons_succ, Nat.add_zero, Nat.zero_add] at c0 c1
          clear e2 e3 hcell
          have hfl : ∀ x ∈ (R.take j).foldl putS [], FitS x := put_fit_all (unhide HRF) _ _ (fun x hx => unhide HRF x (List.mem_of_mem_take hx)) (by simp)
          have hll : ((R.take j).foldl putS []).length ≤ 1048576 := by
            have h9 := putAll_len (R.take j) []
            rw [List.length_take, List.length_nil] at h9
            omega
          have HNX := hide (take_put_next hjl)
          obtain ⟨ay, cy, hy, _⟩ := own_sliceG (unhide HO)
          subst hy
          have HPU : Hid (∀ W, Below wr.heap.size wr W → Calls Tryz.prog 36 #[.slice ay ((R.take j).foldl putS []).length cy, .agg #[.int .u32 ((R[j]).1 : Int), .int .u32 ((R[j]).2 : Int)]] W fun e w' => ∃ v', e = .returned v' ∧ w'.ownsRow W5.heap.size 79 2 v' ((R.take (j + 1)).foldl putS []).length (flatG cellsS ((R.take (j + 1)).foldl putS [])) ∧ Below W5.heap.size W w') := hide (fun W hW => by
            rw [unhide HNX]
            exact put_any _ _ R[j] W W5.heap.size (own_below (unhide HO) hW) (Nat.le_trans (unhide HBJ).size hW.size) (by omega) hfl (unhide HRF _ (List.getElem_mem hjl)))
          generalize ((R.take j).foldl putS []).length = M at HPU ⊢
          generalize (R[j]).1 = x at c0 HPU
          generalize (R[j]).2 = y at c1 HPU
          have HBA := hide ((unhide HBJ).trans ((below_alloc0 wr (.cells #[.int .u32 (x : Int), .int .u32 (y : Int)] 79)).mono (unhide HBJ).size))
          clear hfl hll HNX HO
          go_wp2_with fail
          refine (unhide HPU _ (below_alloc0 _ _)).mono ?_
          rintro e w1 ⟨v', rfl, ho1, hb1⟩
          have HO1 := hide ho1
          have HB1 := hide ((unhide HBA).trans hb1)
          clear ho1 hb1 HBA HPU
          go_wp2
          exact ⟨⟨j + 1, by go_num, by omega, HO1, HB1⟩, by simp [intOf]; omega⟩
        · have hlt1 : ¬ (j : Int) < (k : Int) := by omega
          have htk : R.take j = R := List.take_of_length_le (by have := unhide HRL; omega)
          rw [htk, unhide HAP] at HO
          have HOF := hide (own_monoS (unhide HO) (unhide HB5).size)
          have HBF := hide ((unhide HB5).trans ((unhide HBJ).mono (unhide HB5).size))
          clear htk HO
          go_wp2
          go_ret
          exact ⟨_, rfl, unhide HOF, unhide HBF⟩
end Go.Proofs.YtihgmpebpkjmkaaGreatDoor
