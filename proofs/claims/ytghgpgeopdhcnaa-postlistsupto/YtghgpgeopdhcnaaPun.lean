/-
  What post.union does, over this seat's program.
-/
import Derived.Test.YtghgpgeopdhcnaaPmg
import Derived.Deep.RegionWith
set_option linter.unusedVariables false
namespace Go.Proofs.Ytghgpgeopdhcnaa
open Go.RowKit Go.Proofs.Num Go.Proofs.Dct Go.Proofs.Pst

/-- Lists put together, half by half. -/
def unionF : Nat → List (List Nat) → List Nat
  | 0, _ => []
  | f + 1, ls => if ls.length = 0 then [] else if ls.length = 1 then ls.headD [] else (mergeL (unionF f (ls.take (ls.length / 2))) (unionF f (ls.drop (ls.length / 2)))).take 65537

theorem neat_nil : NeatS (.slice none 0 0) := by
  refine ⟨fun n c h => ?_, fun a n c h => ?_⟩
  · injection h with _ h2 h3
    exact ⟨h2.symm, h3.symm⟩
  · injection h with _ h2 h3
    omega
theorem neat_some (a : Addr) {n cap : Nat} (hn : n ≤ cap) : NeatS (.slice (some a) n cap) := by
  refine ⟨fun m c h => ?_, fun a' m c h => ?_⟩
  · injection h with h1
    cases h1
  · injection h with _ h2 h3
    omega

set_option maxHeartbeats 400000 in
set_option maxRecDepth 100000 in
theorem clone_empty (a : Option Addr) (cap : Nat) (w : World) :
    Calls Try.prog 29 #[.slice a 0 cap] w fun e w' => ∃ v', e = .returned v' ∧ Row32 w' v' [] ∧ NeatS v' ∧ Below w.heap.size w w' := by
  obtain ⟨i0, hi, hz0, hz1, hz2⟩ := info_parts u32Info
  cases a with
  | none =>
    refine (Try.slices_Clone_nil _ _ w).mono ?_
    rintro e w' ⟨rfl, rfl⟩
    exact ⟨_, rfl, RowG.nil _ _ _, neat_nil, Below.refl _ _⟩
  | some ad =>
    go_enter Try.func29, Try.ntmps29
    have q22 := fun (w : World) (a : Option Addr) (n c n' c' : Nat) => Lib.run_eql_slice_nil (P := Try.prog) w 23 32 a n c n' c' Try.underlying23
    go_wp2
    go_ret
    exact ⟨_, rfl, RowG.nil _ _ _, neat_some _ (Nat.le_refl _), (Below.refl _ w).alloc (Nat.le_refl _) _⟩

theorem cells_u32 : Try.prog.cellsOf 32 = 1 := by kernel_rfl
/-- What slices.Clone does with numbers. -/
theorem clone32_any (v : Value) (l : List Nat) (w : World) (h : Row32 w v l) (hl : l.length ≤ 4194304) :
    Calls Try.prog 29 #[v] w fun e w' => ∃ v', e = .returned v' ∧ Row32 w' v' l ∧ NeatS v' ∧ Below w.heap.size w w' := by
  obtain ⟨i0, hi, hz0, hz1, hz2⟩ := info_parts u32Info
  obtain ⟨a, cap, rfl, hl', hr, hc⟩ := h
  rcases hc with rfl | ⟨b, off, rfl, hlt, hcl⟩
  · exact clone_empty a cap w
  · refine (Try.slices_Clone i0 (.int .u32 0) 1 4 hi hz0 hz1 hz2 rfl (by decide) (fun W => by rw [run_sizeOf (P := Try.prog) (w := W) hi, cells_u32]) b off l.length cap (flatG cells32 l) w (flatG_length cells32_len l) (by unfold maxLen; omega) (by omega) hcl (by
        intro u hu
        obtain ⟨n, _, hn⟩ := List.mem_flatMap.1 hu
        simp only [cells32, List.mem_cons, List.not_mem_nil, or_false] at hn
        subst hn
        rfl)).mono ?_
    rintro e w' ⟨v', rfl, h1, _, h2⟩
    exact ⟨v', rfl, row32_of h1 hl hr, own_neat h1, h2⟩

theorem rowV_part {w : World} {b off n cap : Nat} {vs : List Value} (h : RowV w (.slice (some ⟨b, off, none⟩) n cap) vs) (i k cap' : Nat) (hik : i + k ≤ vs.length) : RowV w (.slice (some ⟨b, off + i, none⟩) k cap') ((vs.drop i).take k) := by
  obtain ⟨a, c, hv, hl, hf, hc⟩ := h
  injection hv with e1 e2 e3
  have hlen : ((vs.drop i).take k).length = k := by rw [List.length_take, List.length_drop]; omega
  refine ⟨_, cap', by rw [hlen], by omega, fun _ _ => trivial, ?_⟩
  rcases hc with hc | ⟨b2, off2, ha2, hlt, hc⟩
  · left; subst hc; simp
  · right
    rw [← e1] at ha2
    injection ha2 with e4
    injection e4 with e5 e6
    subst e5 e6
    refine ⟨b, off + i, rfl, hlt, fun j u hj => ?_⟩
    rw [flatG_take cellsV_len, flatG_drop cellsV_len, List.getElem?_take] at hj
    split at hj
    · rw [List.getElem?_drop, Nat.mul_one] at hj
      rw [Nat.add_assoc]
      exact hc _ _ hj
    · cases hj
theorem rowRR_part {w : World} {b off n cap : Nat} {ls : List (List Nat)} (h : RowRR w (.slice (some ⟨b, off, none⟩) n cap) ls) (i k cap' : Nat) (hik : i + k ≤ ls.length) : RowRR w (.slice (some ⟨b, off + i, none⟩) k cap') ((ls.drop i).take k) := by
  obtain ⟨vs, h1, h2, h3⟩ := h
  refine ⟨(vs.drop i).take k, rowV_part h1 i k cap' (by omega), by simp [h2], fun j h h' => ?_⟩
  simp only [List.getElem_take, List.getElem_drop]
  have hj : j < k := by rw [List.length_take, List.length_drop] at h; omega
  exact h3 (i + j) (by omega) (by omega)
theorem unionF_len (f : Nat) (ls : List (List Nat)) (h : ∀ l ∈ ls, l.length ≤ 65537) : (unionF f ls).length ≤ 65537 := by
  cases f with
  | zero => simp [unionF]
  | succ f =>
    rw [unionF]
    split
    · simp
    · split
      · rename_i h0 h1
        cases ls with
        | nil => simp
        | cons x r => exact h x (by simp)
      · rw [List.length_take]; omega

set_option maxHeartbeats 2000000 in
set_option maxRecDepth 100000 in
theorem union_any (f : Nat) : ∀ (ls : List (List Nat)) (v : Value) (w : World), RowRR w v ls → NeatS v → (∀ l ∈ ls, l.length ≤ 65537) → ls.length < f →
    Calls Try.prog 32 #[v] w fun e w' => ∃ v', e = .returned v' ∧ Row32 w' v' (unionF f ls) ∧ NeatS v' ∧ Below w.heap.size w w' := by
  induction f with
  | zero => intro ls v w _ _ _ h; omega
  | succ f ih =>
    intro ls v w h hn hl hf
    have HR := hide h
    obtain ⟨a, cap, hv, hl4⟩ := h.slice
    subst hv
    have hcap := hn.2 _ _ _ rfl
    by_cases h0 : ls.length = 0
    · have hu : unionF (f + 1) ls = [] := by rw [unionF, if_pos h0]
      rw [hu, h0]
      go_enter Try.func32, Try.ntmps32
      go_wp2
      go_ret
      exact ⟨_, rfl, RowG.nil _ _ _, neat_nil, Below.refl _ _⟩
    · by_cases h1 : ls.length = 1
      · obtain ⟨b, off, cap', u, hv', hblt, c0, hru⟩ := RowRR.at (unhide HR) (j := 0) (by omega)
        injection hv' with e1 e2 e3
        subst e1
        have hu : unionF (f + 1) ls = ls[0] := by
          rw [unionF, if_neg h0, if_pos h1]
          cases ls with
          | nil => simp at h0
          | cons x r => rfl
        rw [hu]
        rw [Nat.add_zero] at c0
        have HC := hide (clone32_any u ls[0] w hru (by have := hl ls[0] (List.getElem_mem (by omega)); omega))
        obtain ⟨ua, uc, hu2, _⟩ := hru
        subst hu2
        generalize ls[0]'(by omega) = L0 at HC c0 ⊢
        rw [h1] at hcap ⊢
        clear e2 e3 hu h hn hl hf h0 HR ih
        go_enter Try.func32, Try.ntmps32
        go_wp2_with fail
        refine (unhide HC).mono ?_
        rintro e w1 ⟨v', rfl, r1, n1, b1⟩
        go_wp2
        go_ret
        exact ⟨_, rfl, r1, n1, b1⟩
      · obtain ⟨b, off, cap', u, hv', hblt, c0, hru⟩ := RowRR.at (unhide HR) (j := 0) (by omega)
        injection hv' with e1 e2 e3
        subst e1
        clear c0 hru e2 e3
        obtain ⟨N, hN⟩ : ∃ N, N = ls.length := ⟨_, rfl⟩
        obtain ⟨H, hH⟩ : ∃ H, H = N / 2 := ⟨_, rfl⟩
        have HA := hide (rowRR_part (unhide HR) 0 H cap (by omega))
        have HB := hide (rowRR_part (unhide HR) H (N - H) (cap - H) (by omega))
        have hb0 : (ls.drop H).take (N - H) = ls.drop H := List.take_of_length_le (by rw [List.length_drop]; omega)
        rw [List.drop_zero, Nat.add_zero] at HA
        rw [hb0] at HB
        have hu : unionF (f + 1) ls = (mergeL (unionF f (ls.take H)) (unionF f (ls.drop H))).take 65537 := by
          rw [unionF, if_neg h0, if_neg h1, ← hN, ← hH]
        rw [hu]
        have HUA := hide (fun W (hW : Below w.heap.size w W) => ih (ls.take H) _ W ((unhide HA).below hW) (neat_some _ (by omega)) (fun l hm => hl l (List.mem_of_mem_take hm)) (by rw [List.length_take]; omega))
        have HUB := hide (fun W (hW : Below w.heap.size w W) => ih (ls.drop H) _ W ((unhide HB).below hW) (neat_some _ (by omega)) (fun l hm => hl l (List.mem_of_mem_drop hm)) (by rw [List.length_drop]; omega))
        have hla := unionF_len f (ls.take H) (fun l hm => hl l (List.mem_of_mem_take hm))
        have hlb := unionF_len f (ls.drop H) (fun l hm => hl l (List.mem_of_mem_drop hm))
        have HMG := hide (fun W va vb (ra : Row32 W va (unionF f (ls.take H))) (rb : Row32 W vb (unionF f (ls.drop H))) (na : NeatS va) (nb : NeatS vb) => merge_any va vb _ _ W ra rb na nb hla hlb)
        generalize unionF f (ls.take H) = UA at *
        generalize unionF f (ls.drop H) = UB at *
        rw [← hN] at hcap hl4 h0 h1 ⊢
        have hHi : (N : Int) / 2 = (H : Int) := by omega
        have hH1 : H < N := by omega
        have hHc : ¬ cap = H := by omega
        have hN0 : ((N : Int) == 0) = false := by simp; omega
        have hN1 : ((N : Int) == 1) = false := by simp; omega
        have HD : Hid (Below w.heap.size w w.drew) := hide ⟨rfl, rfl, rfl, Nat.le_refl _, fun _ _ => rfl⟩
        clear hN hH hb0 hu h hn hl hf hla hlb HA HB HR ih h0 h1
        go_enter Try.func32, Try.ntmps32
        go_wp2
        go_region_with (first
          | (go_at_call_of 32 (Value.slice (some ⟨b, off, none⟩) H cap); refine (unhide HUA _ (by exact unhide HD)).mono ?_; rintro e wA ⟨va, rfl, rA, nA, sA⟩; have bA := belows' (unhide HD) sA)
          | (go_at_call_of 32 (Value.slice (some ⟨b, off + H, none⟩) (N - H) (cap - H)); refine (unhide HUB _ (by exact bA)).mono ?_; rintro e wB ⟨vb, rfl, rB, nB, sB⟩; have bB := belows' bA sB; have rA' := rA.below sB)
          | (go_at_call 45; refine (unhide HMG _ _ _ (by exact rA') (by exact rB) (by exact nA) (by exact nB)).mono ?_; rintro e wM ⟨vm, rfl, rM, nM, sM⟩; have bM := belows' bB sM))
        all_goals
          have HRM := hide rM
          have HBM := hide bM
          clear rA rB rM sA sB sM bA bB bM rA' HUA HUB HMG HD
          (try go_simp)
          (try go_wp2)
          go_ret
          exact ⟨_, rfl, unhide HRM, nM, unhide HBM⟩
end Go.Proofs.Ytghgpgeopdhcnaa
