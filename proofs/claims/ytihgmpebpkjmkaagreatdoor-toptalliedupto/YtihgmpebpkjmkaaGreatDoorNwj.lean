/-
  What nset.Only does, over this seat's program.
-/
import Derived.Test.YtihgmpebpkjmkaaGreatDoorNwi
import Derived.Lib.Small
set_option linter.unusedVariables false
namespace Go.Proofs.YtihgmpebpkjmkaaGreatDoor
open Go.RowKit Go.Proofs.Nst

set_option maxHeartbeats 400000 in
theorem cmpTo_any (x y n : Nat) (W : World) : Calls Tryz.prog 30 #[.agg #[.int .u32 (x : Int), .int .u32 (y : Int)], .int .u32 (n : Int)] W fun e w' => e = .returned (.int .i64 (Lib.compareInt (y : Int) (n : Int))) ∧ Below W.heap.size W w' := by
  have HC := hide (fun W => compare_any y n W)
  generalize Lib.compareInt (y : Int) (n : Int) = c at HC ⊢
  go_enter Tryz.func30, Tryz.ntmps30
  go_wp2_with fail
  refine (unhide HC _).mono ?_
  rintro e w1 ⟨rfl, hw1⟩
  subst hw1
  go_wp2
  go_ret
  exact ⟨rfl, below_alloc0 _ _⟩
theorem cmp_neg {y n : Nat} : Lib.compareInt (y : Int) (n : Int) < 0 ↔ y < n := by
  unfold Lib.compareInt
  by_cases h1 : (y : Int) < (n : Int)
  · rw [if_pos h1]
    constructor
    · intro _; omega
    · intro _; decide
  · rw [if_neg h1]
    constructor
    · intro h
      split at h
      · exact absurd h (by decide)
      · exact absurd h (by decide)
    · intro h; omega
theorem apart_to {l : List Sp} (h : Apart l) {i j : Nat} (hj : j < l.length) (hij : i < j) : (l[i]).2 < (l[j]).2 := by
  have h1 := List.pairwise_iff_getElem.1 h.up i j (by omega) hj hij
  have h2 := h.ok l[j] (List.getElem_mem hj)
  omega

def LoS (l : List Sp) (n k : Nat) : Prop := ∀ t (ht : t < l.length), t < k → (l[t]).2 < n
def HiS (l : List Sp) (n k : Nat) : Prop := ∀ t (ht : t < l.length), k ≤ t → ¬ (l[t]).2 < n

set_option maxHeartbeats 2000000 in
set_option maxRecDepth 100000 in
theorem bsearch_any (v : Value) (l : List Sp) (n : Nat) (w : World) (h : RowSp w v l) (hA : Apart l) (hl : l.length ≤ 1048576) :
    Calls Tryz.prog 29 #[v, .int .u32 (n : Int), .func (.func 30) #[] #[]] w fun e w' => (∃ (k : Nat) (b : Bool), e = .returned (.tuple #[.int .i64 (k : Int), .bool b]) ∧ k ≤ l.length ∧ LoS l n k ∧ HiS l n k) ∧ Below w.heap.size w w' := by
  have HR := hide h
  obtain ⟨a, cap, rfl, _, hfit, _⟩ := h
  have HAP := hide hA
  have hTi : (l.length : Int) ≤ 1048576 := by omega
  obtain ⟨T, hT⟩ : ∃ T, T = l.length := ⟨_, rfl⟩
  rw [← hT] at HR hl hTi ⊢
  have HTL := hide hT
  clear hA hfit hT
  go_enter Tryz.func29, Tryz.ntmps29
  go_wp2
  go_loopw [9, 10, 11] (fun x y z wr => ∃ lo hi : Nat, x = .int .i64 lo ∧ y = .int .i64 hi ∧ lo ≤ hi ∧ hi ≤ T ∧ Hid (LoS l n lo) ∧ Hid (HiS l n hi) ∧ Hid (Below w.heap.size w wr)) (fun x y _ _ => (intOf y).toNat - (intOf x).toNat)
  case atStart => exact ⟨0, T, rfl, rfl, Nat.zero_le _, Nat.le_refl _, hide (show LoS l n 0 from fun t ht h => absurd h (Nat.not_lt_zero _)), hide (show HiS l n T from fun t ht h => by have := unhide HTL; omega), hide (Below.refl _ _)⟩
  case round =>
    obtain ⟨lo, hi, rfl, rfl, hlh, hhl, HLO, HHI, HB⟩ := hrel
    by_cases hlt : lo < hi
    · obtain ⟨m, hm⟩ : ∃ m, m = (lo + hi) / 2 := ⟨_, rfl⟩
      have hml : m < l.length := by have := unhide HTL; omega
      have hmi : ((lo : Int) + (hi : Int)) / 2 = (m : Int) := by omega
      have hm1 : lo ≤ m := by omega
      have hm2 : m < hi := by omega
      clear hm
      obtain ⟨b, off, cp, hv1, hblt, hcell⟩ := RowG.at cellsS_len ((unhide HR).below (unhide HB)) (j := m) hml
      injection hv1 with e1 e2 e3
      subst e1
      have c0 := hcell 0 (by omega)
      have c1 := hcell 1 (by omega)
      simp only [cellsS, List.getElem?_cons_zero, List.getElem?_cons_succ, Nat.add_zero] at c0 c1
      clear e2 e3 hcell
      have HCM := hide (fun W => cmpTo_any (l[m]).1 (l[m]).2 n W)
      have hng := cmp_neg (y := (l[m]).2) (n := n)
      by_cases hq : (l[m]).2 < n
      · have hneg := hng.2 hq
        have HN := hide (show LoS l n (m + 1) from fun t ht h => by
          rcases Nat.lt_or_ge t m with h' | h'
          · have := apart_to (unhide HAP) hml h'; omega
          · have : t = m := by omega
            subst this; exact hq)
        clear hng hq
        generalize Lib.compareInt ((l[m]).2 : Int) (n : Int) = c at hneg HCM
        generalize (l[m]).1 = x at c0 HCM
        generalize (l[m]).2 = y at c1 HCM
        go_wp2_with fail
        refine (unhide HCM _).mono ?_
        rintro e w1 ⟨rfl, b1⟩
        have HB1 := hide (belows' (unhide HB) b1)
        clear b1 HCM
        go_wp2
        exact ⟨⟨m + 1, hi, by go_num, rfl, by omega, hhl, HN, HHI, HB1⟩, by simp [intOf]; omega⟩
      · have hneg : ¬ Lib.compareInt ((l[m]).2 : Int) (n : Int) < 0 := fun h => hq (hng.1 h)
        have HN := hide (show HiS l n m from fun t ht h => by
          rcases Nat.lt_or_ge m t with h' | h'
          · have := apart_to (unhide HAP) ht h'; omega
          · have : t = m := by omega
            subst this; exact hq)
        clear hng hq
        generalize Lib.compareInt ((l[m]).2 : Int) (n : Int) = c at hneg HCM
        generalize (l[m]).1 = x at c0 HCM
        generalize (l[m]).2 = y at c1 HCM
        go_wp2_with fail
        refine (unhide HCM _).mono ?_
        rintro e w1 ⟨rfl, b1⟩
        have HB1 := hide (belows' (unhide HB) b1)
        clear b1 HCM
        go_wp2
        exact ⟨⟨lo, m, rfl, by go_num, by omega, by omega, HLO, HN, HB1⟩, by simp [intOf]; omega⟩
    · have hle : hi = lo := by omega
      subst hle
      by_cases hn : hi < T
      · have hnl : hi < l.length := by have := unhide HTL; omega
        obtain ⟨b, off, cp, hv1, hblt, hcell⟩ := RowG.at cellsS_len ((unhide HR).below (unhide HB)) (j := hi) hnl
        injection hv1 with e1 e2 e3
        subst e1
        have c0 := hcell 0 (by omega)
        have c1 := hcell 1 (by omega)
        simp only [cellsS, List.getElem?_cons_zero, List.getElem?_cons_succ, Nat.add_zero] at c0 c1
        clear e2 e3 hcell
        have HCM := hide (fun W => cmpTo_any (l[hi]).1 (l[hi]).2 n W)
        generalize Lib.compareInt ((l[hi]).2 : Int) (n : Int) = c at HCM
        generalize (l[hi]).1 = x at c0 HCM
        generalize (l[hi]).2 = y at c1 HCM
        go_wp2_with fail
        refine (unhide HCM _).mono ?_
        rintro e w1 ⟨rfl, b1⟩
        have HB1 := hide (belows' (unhide HB) b1)
        clear b1 HCM
        go_wp2
        go_ret2
        exact ⟨⟨hi, _, rfl, hhl, unhide HLO, unhide HHI⟩, unhide HB1⟩
      · go_wp2
        go_ret2
        exact ⟨⟨hi, _, rfl, hhl, unhide HLO, unhide HHI⟩, unhide HB⟩

theorem u32I : (Tryz.prog.info? 25).map (fun i => (i.zero, i.size, i.bytes)) = some (some (.int .u32 0), 1, 4) := by kernel_rfl
theorem run_appN (w : World) (B : Nat) (v : Value) (k : List Nat) (p : Nat) (ty : TypeId) (hown : w.ownsRow B 25 1 v k.length (flatG cellsN k)) (hkl : k.length ≤ 4194304) (hB : B ≤ w.heap.size) :
    ∃ v' w', (Builtin.append_ #[22, 22] ty #[v, .slice (some ⟨w.heap.size, 0, none⟩) 1 1]).run Tryz.prog (w.alloc (.cells #[.int .u32 (p : Int)] 25)) = .ok v' w' ∧ w'.ownsRow B 25 1 v' (k ++ [p]).length (flatG cellsN (k ++ [p])) ∧ Below B w w' := by
  obtain ⟨i0, hi, hz0, hz1, hz2⟩ := info_partsN u32I
  have hx : (w.alloc (.cells (cellsN p).toArray 25)).ownsRow B 25 1 (.slice (some ⟨w.heap.size, 0, none⟩) 1 1) 1 (cellsN p).toArray.toList := World.ownsRow_lit w (cellsN p).toArray 1 hB (by unfold maxLen; omega) rfl
  have hc := hx.cells (g := w.heap.size) rfl
  have hown' := own_below hown ((Below.refl _ w).alloc (Nat.le_refl _) (.cells (cellsN p).toArray 25))
  obtain ⟨v', w', hrun, h2, h3, h4⟩ := run_append_own (P := Tryz.prog) (w.alloc (.cells (cellsN p).toArray 25)) B 22 ty 25 i0 (.int .u32 0) 1 4 Tryz.underlying22 hi hz0 hz1 hz2 rfl (by decide) v k.length (flatG cellsN k) hown' ⟨w.heap.size, 0, none⟩ 1 1 (cellsN p) rfl hc (by intro u hu; simp [cellsN] at hu; rcases hu with rfl; rfl) (by unfold maxLen; omega) (by omega) (by rw [World.size_alloc]; omega)
  refine ⟨v', w', hrun, ?_, ?_⟩
  · rw [List.length_append, flatG_append]
    simpa [flatG] using h2
  · exact below_own ((Below.refl B w).alloc hB _) hown' h3 (by rw [World.size_alloc]; omega)
theorem filter_take {ns : List Nat} {j : Nat} (h : j < ns.length) (p : Nat → Bool) : (ns.take (j + 1)).filter p = (ns.take j).filter p ++ (if p ns[j] then [ns[j]] else []) := by
  rw [List.take_succ_eq_append_getElem h, List.filter_append]
  congr 1
  by_cases hp : p ns[j] = true
  · rw [List.filter_cons_of_pos hp, if_pos hp]; rfl
  · rw [List.filter_cons_of_neg hp, if_neg hp]; rfl
/-- Whether a number is in spans apart, by the first one that does not end ahead of it. -/
theorem mem_at {A : List Sp} (hA : Apart A) {k n : Nat} (h1 : LoS A n k) (h2 : HiS A n k) : memS n A = true ↔ ∃ h : k < A.length, (A[k]).1 ≤ n := by
  rw [memS_iff]
  constructor
  · rintro ⟨s, hs, h3, h4⟩
    obtain ⟨t, ht, rfl⟩ := List.getElem_of_mem hs
    have hkt : k ≤ t := by
      rcases Nat.lt_or_ge t k with h | h
      · have := h1 t ht h; omega
      · exact h
    have hk : k < A.length := by omega
    refine ⟨hk, ?_⟩
    rcases Nat.lt_or_ge k t with h | h
    · have h5 := List.pairwise_iff_getElem.1 hA.up k t hk ht h
      have h6 := hA.ok A[k] (List.getElem_mem hk)
      omega
    · have : t = k := by omega
      subst this
      exact h3
  · rintro ⟨hk, h3⟩
    exact ⟨A[k], List.getElem_mem hk, h3, by have := h2 k hk (Nat.le_refl _); omega⟩
end Go.Proofs.YtihgmpebpkjmkaaGreatDoor
