/-
  What the document's Uids of box does, over this seat's program.
-/
import Derived.Test.YthpjogfclklefaaDoorRxc
import Derived.Test.YthpjogfclklefaaDoorBpl
set_option linter.unusedVariables false
set_option linter.unusedSimpArgs false
namespace Go.Proofs.YthpjogfclklefaaDoor
open Go.RowKit

theorem uids_take {l : List Msg} {k : Nat} (h : k < l.length) : uidsM (l.take (k + 1)) = uidsM (l.take k) ++ [l[k].uid] := by
  unfold uidsM
  rw [List.take_succ_eq_append_getElem h, List.map_append]; rfl
theorem okB_above {b : Bx} (h : okB b = true) : aboveB 0 b = uidsM b.ms := by
  unfold aboveB
  rw [if_pos h]
  exact aboveL_zero (fun m hm => ((mailsOk_all (okB_mails h)).1 m hm).1)

set_option maxHeartbeats 4000000 in
set_option maxRecDepth 100000 in
theorem refBUids_any (b : Bx) (v : Value) (w : World) (h : RowM w v b.ms) (hf : FitB b) :
    Calls Tryd.prog 20 #[bxV b v] w fun e w' => (∃ v', e = .returned (.tuple #[v', .int .i64 (chkB b : Int)]) ∧ OutT w' v' (aboveB 0 b)) ∧ Below w.heap.size w w' := by
  have HC := hide (fun W (hR : RowM W v b.ms) => refBCheck_any b v W hR hf)
  obtain ⟨P, hP⟩ : ∃ P, aboveB 0 b = P := ⟨_, rfl⟩
  rw [hP]
  have HP := hide hP
  clear hP
  obtain ⟨a, cap, rfl, hl, hfm, _⟩ := id h
  have HFM := hide hfm
  clear hfm
  have HA := hide (show Below w.heap.size w (w.alloc (.cells (bxC b (.slice a b.ms.length cap)) 26)) from (Below.refl _ w).alloc (Nat.le_refl _) _)
  have HRA := hide (h.below (unhide HA))
  have KB := hide (Blk.new w 26 (bxC b (.slice a b.ms.length cap)))
  clear h
  cases hok : okB b with
  | false =>
    have hc : chkB b = 2 := by unfold chkB; rw [hok, if_neg (by simp)]
    have hp : [] = P := by rw [← unhide HP]; unfold aboveB; rw [hok, if_neg (by simp)]
    subst hp
    rw [hc] at HC ⊢
    clear hc hok HP hf KB HFM
    obtain ⟨va, nx, mr, la, ms⟩ := b
    simp only [bxV, bxC] at *
    go_enter Tryd.func20, Tryd.ntmps20
    go_wp2_with fail
    refine (unhide HC _ (unhide HRA)).mono ?_
    rintro e w1 ⟨rfl, b1⟩
    have HB := hide (belows' (unhide HA) b1)
    clear b1 HA HRA HC
    go_wp2
    go_ret2
    exact ⟨⟨_, rfl, OutT.nil _⟩, unhide HB⟩
  | true =>
    have hc : chkB b = 0 := by unfold chkB; rw [hok, if_pos rfl]
    have HP := hide (show uidsM b.ms = P by rw [← unhide HP, okB_above hok])
    have hn4 := okB_len hok
    rw [hc] at HC ⊢
    clear hc hok hf
    obtain ⟨va, nx, mr, la, ms⟩ := b
    simp only [bxV, bxC] at *
    obtain ⟨n, hnn⟩ : ∃ n, ms.length = n := ⟨_, rfl⟩
    rw [hnn] at HA HRA KB HC hl hn4 ⊢
    have HN := hide hnn
    clear hnn
    go_enter Tryd.func20, Tryd.ntmps20
    go_wp2_with fail
    refine (unhide HC _ (unhide HRA)).mono ?_
    rintro e w1 ⟨rfl, b1⟩
    have KB := hide ((unhide KB).below b1)
    have HRA := hide ((unhide HRA).below b1)
    have HB := hide (belows' (unhide HA) b1)
    have c4 := (unhide KB).cell 4
    simp only [List.getElem?_toArray, List.getElem?_cons_succ, List.getElem?_cons_zero] at c4
    clear b1 HA HC KB
    go_wp2
    go_loopw [4, 6, 13] (fun y _ z wr => ∃ k : Nat, z = .int .i64 k ∧ k ≤ n ∧ Hid (wr.ownsRow w1.heap.size 22 1 y (uidsM (ms.take k)).length (flatG cells32 (uidsM (ms.take k)))) ∧ Hid (Below w1.heap.size w1 wr)) (fun _ _ z _ => n - (intOf z).toNat)
    case atStart => exact ⟨0, rfl, Nat.zero_le _, hide (World.ownsRow_nil _ _ _ _), hide (Below.refl _ _)⟩
    case round =>
      obtain ⟨k, rfl, hk, HO, BJ⟩ := hrel
      by_cases hlt : k < n
      · have hkl : k < ms.length := by rw [unhide HN]; exact hlt
        have hlt1 : (k : Int) < (n : Int) := by omega
        obtain ⟨g, off, rfl, hg, hft, d0, d1, d2, d3, d4, d5⟩ := RowM.mail (unhide HRA) (unhide BJ) hkl
        have HFT := hide (uids_take hkl)
        have hll : (uidsM (ms.take k)).length ≤ 4096 := by rw [uidsM_len, List.length_take]; omega
        obtain ⟨ay, cy, hy, _⟩ := own_sliceG (unhide HO)
        subst hy
        generalize ms[k] = p at d0 d1 d2 d3 d4 d5 HFT hft
        obtain ⟨u, f, d, s, z, raw⟩ := p
        simp only at d0 d1 d2 d3 d4 d5 HFT
        have hAl : Below wr.heap.size wr (wr.alloc (.cells #[.int .u32 (u : Int), .int .u8 (f : Int), .int .i64 d, .int .i64 s, .int .i64 z, .string raw] 47)) := (Below.refl _ wr).alloc (Nat.le_refl _) _
        have HB2 := hide (belows' (unhide BJ) hAl)
        have HO2 := hide (own_below (unhide HO) hAl)
        have hBs := (unhide BJ).size
        obtain ⟨F, hF⟩ : ∃ F, F = uidsM (ms.take k) := ⟨_, rfl⟩
        rw [← hF] at HFT HO2 hll ⊢
        obtain ⟨v', w', hrun, h2, h3⟩ := run_app32 _ w1.heap.size (.slice ay F.length cy) F u 28 (unhide HO2) (by omega) (by rw [World.size_alloc]; omega)
        have H2 : Hid (w'.ownsRow w1.heap.size 22 1 v' (uidsM (ms.take (k + 1))).length (flatG cells32 (uidsM (ms.take (k + 1))))) := hide (by rw [unhide HFT]; exact h2)
        have H3 := hide ((unhide HB2).trans h3)
        rw [World.size_alloc] at hrun
        clear h2 h3 HFT HO2 HO hBs hF hft hAl hll HB2 BJ
        generalize F.length = M at hrun ⊢
        go_wp2_with (at_builtin; refine wpList_append_runB (by rfl) _ _ 28 rfl rfl rfl rfl hrun ?_)
        exact ⟨⟨k + 1, by go_num, by omega, H2, H3⟩, by simp [intOf]; omega⟩
      · have hlt1 : ¬ (k : Int) < (n : Int) := by omega
        have hO := unhide HO
        rw [List.take_of_length_le (by rw [unhide HN]; omega), unhide HP] at hO
        have HRR := hide (show OutT _ _ P from ⟨own_zero hO, (by
          rw [← unhide HP]
          intro x hx
          obtain ⟨m, hm, rfl⟩ := List.mem_map.1 hx
          exact (unhide HFM m hm).1), by rw [← unhide HP, uidsM_len, unhide HN]; omega⟩)
        have HBF := hide (belows' (unhide HB) (unhide BJ))
        obtain ⟨ay, cy, hy, _⟩ := own_sliceG hO
        subst hy
        clear hO HO BJ
        go_wp2
        go_ret2
        exact ⟨⟨_, rfl, unhide HRR⟩, unhide HBF⟩
end Go.Proofs.YthpjogfclklefaaDoor
