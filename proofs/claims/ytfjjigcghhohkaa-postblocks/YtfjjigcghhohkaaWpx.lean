/-
  The walk of missivelaw13.PostBlocks, over this seat's program.
-/
import Derived.Test.YtfjjigcghhohkaaWpk
import Derived.BigQuiet
set_option linter.unusedVariables false
namespace Go.Proofs.Ytfjjigcghhohkaa
open Go.RowKit Go.Proofs.Num Go.Proofs.Dct Go.Proofs.Pna

/-- The blocks of a list, piece by piece. -/
theorem shape_of : ∀ (bs : List (Nat × List Nat)) (L : Nat), (∀ i (hi : i < bs.length), (bs[i]).2.length = min 32 (L - 32 * i)) → (∀ p ∈ bs, 1 ≤ p.2.length) → (flatB bs).length = L →
    L ≤ 32 * bs.length ∧ ∀ i (hi : i < bs.length), 32 * i < L ∧ ∀ j, j < (bs[i]).2.length → (flatB bs).getD (32 * i + j) 0 = (bs[i]).2.getD j 0
  | [], L, _, _, h => ⟨by rw [← h]; simp [flatB], fun i hi => absurd hi (by simp)⟩
  | b :: r, L, h1, h2, h3 => by
    have hb := h1 0 (by simp)
    simp only [List.getElem_cons_zero, Nat.mul_zero, Nat.sub_zero] at hb
    have hb1 := h2 b List.mem_cons_self
    rw [flatB_cons, List.length_append] at h3
    have hr : ∀ i (hi : i < r.length), (r[i]).2.length = min 32 (L - 32 * (i + 1)) := by
      intro i hi
      have := h1 (i + 1) (by simp; omega)
      simpa using this
    have ih := shape_of r (L - min 32 L) (fun i hi => by
        have h4 := hr i hi
        have h5 := h2 r[i] (List.mem_cons_of_mem _ (List.getElem_mem hi))
        omega) (fun p hp => h2 p (List.mem_cons_of_mem _ hp)) (by omega)
    refine ⟨?_, ?_⟩
    · have := ih.1
      rw [List.length_cons]
      omega
    · intro i hi
      cases i with
      | zero =>
        refine ⟨by omega, fun j hj => ?_⟩
        simp only [List.getElem_cons_zero] at hj ⊢
        rw [flatB_cons, List.getD_eq_getElem?_getD, List.getD_eq_getElem?_getD, Nat.mul_zero, Nat.zero_add, List.getElem?_append_left hj]
      | succ i =>
        have hi' : i < r.length := by simp at hi; omega
        have h4 := hr i hi'
        have h5 := h2 r[i] (List.mem_cons_of_mem _ (List.getElem_mem hi'))
        obtain ⟨h6, h7⟩ := ih.2 i hi'
        refine ⟨by omega, fun j hj => ?_⟩
        simp only [List.getElem_cons_succ] at hj ⊢
        rw [← h7 j hj, flatB_cons, List.getD_eq_getElem?_getD, List.getD_eq_getElem?_getD, List.getElem?_append_right (by omega)]
        congr 2
        omega

theorem wrap_sum {K M : Nat} (h : K + M ≤ 70000) : IntKind.i64.wrap ((K : Int) + (M : Int)) = (K : Int) + (M : Int) := by rw [IntKind.wrap_i64]; omega
theorem wrap_less {K M m : Nat} (h : K + M = m + 1) (hb : m ≤ 70000) : IntKind.i64.wrap ((K : Int) + (M : Int) - 1) = (m : Int) := by rw [IntKind.wrap_i64]; omega
theorem wrap_diff {L K D : Nat} (h : K + D = L) (hb : L ≤ 70000) : IntKind.i64.wrap ((L : Int) - (K : Int)) = (D : Int) := by rw [IntKind.wrap_i64]; omega
theorem wrap64_diff {L K D : Nat} (h : K + D = L) (hb : L ≤ 70000) : wrap64 ((L : Int) - (K : Int)) = (D : Int) := by unfold wrap64; omega
theorem wrap_one {N q : Nat} (h : q + 1 = N) (hb : N ≤ 70000) : IntKind.i64.wrap ((N : Int) - 1) = (q : Int) := by rw [IntKind.wrap_i64]; omega
theorem wrap64_one {N q : Nat} (h : q + 1 = N) (hb : N ≤ 70000) : wrap64 ((N : Int) - 1) = (q : Int) := by unfold wrap64; omega
theorem wrap64_next {i : Nat} (h : i ≤ 70000) : wrap64 ((i : Int) + 1) = ((i + 1 : Nat) : Int) := by unfold wrap64; omega
theorem wrap64_less {K M m : Nat} (h : K + M = m + 1) (hb : m ≤ 70000) : wrap64 ((K : Int) + (M : Int) - 1) = (m : Int) := by unfold wrap64; omega
set_option maxHeartbeats 4000000 in
set_option maxRecDepth 100000 in
theorem postBlocks_walk (s : ByteArray) (n : Nat) (w : World) (hn : n ≤ 4294967295) (hs : s.size ≤ 140737488355328) :
    Calls Try.prog 4 #[.string s, .int .u32 (n : Int)] w fun e w' => e = .returned (.bool true) ∧ Below w.heap.size w w' := by
  have HL := hide (packs_any w)
  have HK := hide (fun W => blocksS_any s W hs)
  have HU := hide (fun W => unpackT_any s W hs)
  have HH := hide (fun W => hasS_any s n W hn hs)
  go_enter Try.func4, Try.ntmps4
  go_wp2_with fail
  refine (unhide HL).mono ?_
  clear HL
  rintro e W1 ⟨rfl, hb1⟩
  have HB1 := hide hb1
  clear hb1
  by_cases h0 : (readS s.data.toList).2.er = 0
  · have hbk := readS_back h0
    have hsh := shape_of (readS s.data.toList).1 _ hbk.2.2.2 (fun p hp => ((readS_told s.data.toList).len p hp).1) rfl
    have HLN := hide hbk.2.2.2
    have HAT := hide hbk.2.2.1
    have HSH := hide hsh
    have HLE := hide (fun p hp => (readS_told s.data.toList).len p hp)
    have hfew := readS_few s.data.toList
    have hfb := readS_blocks s.data.toList
    have HFIT := hide (readS_fit s.data.toList)
    have HE0 := hide h0
    clear hbk hsh
    go_wp2_with fail
    refine (unhide HK _).mono ?_
    clear HK
    rintro e W2 ⟨h1, _, hb2⟩
    obtain ⟨vk, rfl, hown⟩ := h1 h0
    have HB2 := hide (belows' (unhide HB1) hb2)
    have HRK := hide (rowG_of_own (Fit := fun _ => True) cellsK_len hown (by omega) (fun _ _ => trivial))
    obtain ⟨ak, ck, hv, hck⟩ := own_sliceG hown
    subst hv
    clear hb2 HB1 hown h1
    generalize (readS s.data.toList).1 = bs at *
    obtain ⟨l, hl⟩ : ∃ l, l = flatB bs := ⟨_, rfl⟩
    go_wp2_with fail
    refine (unhide HU _).mono ?_
    clear HU
    rintro e W3 ⟨hr, hb3⟩
    rcases hr with ⟨_, ap, cp, x, rfl, hcp, hrow, hx⟩ | ⟨h9, _⟩
    rotate_left
    · exact absurd h0 h9
    have HB3 := hide (belows' (unhide HB2) hb3)
    have HRK3 := hide ((unhide HRK).below hb3)
    have HRL3 := hide hrow
    clear hb3 HB2 HRK hx hrow
    go_wp2_with fail
    refine (unhide HH _).mono ?_
    clear HH
    rintro e W4 ⟨h1, _, hb4⟩
    have h1' := h1 h0
    subst h1'
    have HB4 := hide (belows' (unhide HB3) hb4)
    have HRK4 := hide ((unhide HRK3).below hb4)
    have HRL4 := hide ((unhide HRL3).below hb4)
    clear hb4 HB3 HRK3 HRL3 h1 h0
    rw [← hl] at HLN HSH HFIT hfew hcp HRL4 ⊢
    obtain ⟨L, hL⟩ : ∃ L, L = l.length := ⟨_, rfl⟩
    obtain ⟨N, hN⟩ : ∃ N, N = bs.length := ⟨_, rfl⟩
    rw [← hL] at HLN HSH hfew hcp HRL4 ⊢
    rw [← hN] at hfb hck HRK4 ⊢
    have HLL := hide hL
    have HNN := hide hN
    clear hl hL hN
    have hs1 : (s.size : Int) ≤ 140737488355328 := by omega
    have HIN := hide (fun W (h : Row32 W (.slice ap L cp) l) => in_any (.slice ap L cp) l n W h hn)
    go_wp2
    go_loopw [12, 13, 14, 59] (fun y _ _ z wr => ∃ i K : Nat, z = .int .i64 i ∧ y = .int .i64 K ∧ i ≤ N ∧ Hid (K = min (32 * i) L) ∧ Hid (Below W4.heap.size W4 wr)) (fun _ _ _ z _ => N - (intOf z).toNat)
    case atStart => exact ⟨0, 0, rfl, rfl, Nat.zero_le _, hide (by omega), hide (Below.refl _ _)⟩
    case round =>
      obtain ⟨i, K, rfl, rfl, hi, HKE, HB⟩ := hrel
      by_cases hlt : i < N
      · have hlt1 : (i : Int) < (N : Int) := by omega
        have hib : i < bs.length := by have := unhide HNN; omega
        obtain ⟨b, off, cpk, hv1, hblt, hcell⟩ := RowG.at cellsK_len ((unhide HRK4).below (unhide HB)) (j := i) hib
        injection hv1 with e1 e2 e3
        subst e1
        have c0 := hcell 0 (by omega)
        have c1 := hcell 1 (by omega)
        have c2 := hcell 2 (by omega)
        have c3 := hcell 3 (by omega)
        simp only [cellsK, List.getElem?_cons_zero, List.getElem?_cons_succ, Nat.add_zero] at c0 c1 c2 c3
        clear e2 e3 hcell
        obtain ⟨h32, hget⟩ := (unhide HSH).2 i hib
        have hM := unhide HLN i hib
        have hlen := unhide HLE _ (List.getElem_mem hib)
        have hat := unhide HAT _ (List.getElem_mem hib)
        have hg0 := hget 0 (by omega)
        have hg1 := hget (bs[i].2.length - 1) (by omega)
        have hK : K = 32 * i := by have := unhide HKE; omega
        obtain ⟨M, hMe⟩ : ∃ M, M = (bs[i]).2.length := ⟨_, rfl⟩
        rw [← hMe] at c1 c2 hM hlen hg1
        have hj0 : K < l.length := by have := unhide HLL; omega
        have hj1 : K + M - 1 < l.length := by have := unhide HLL; omega
        obtain ⟨b4, off4, cp4, hv4, hblt4, hcell4⟩ := RowG.at cells32_len ((unhide HRL4).below (unhide HB)) (j := K) hj0
        obtain ⟨b5, off5, cp5, hv5, hblt5, hcell5⟩ := RowG.at cells32_len ((unhide HRL4).below (unhide HB)) (j := K + M - 1) hj1
        injection hv4 with e4 e5 e6
        injection hv5 with e7 e8 e9
        subst e4
        injection e7 with e7
        injection e7 with e10 e11
        subst e10 e11
        have d0 := hcell4 0 (by omega)
        have d1 := hcell5 0 (by omega)
        simp only [cells32, List.getElem?_cons_zero, Nat.add_zero, Nat.mul_one] at d0 d1
        have hx0 : l[K] = (bs[i]).2.getD 0 0 := by
          rw [← hg0, Nat.add_zero, ← hK, List.getD_eq_getElem?_getD, List.getElem?_eq_getElem hj0]
          rfl
        have hx1 : l[K + M - 1] = (bs[i]).2.getD (M - 1) 0 := by
          rw [← hg1, ← hK, show K + (M - 1) = K + M - 1 by omega, List.getD_eq_getElem?_getD, List.getElem?_eq_getElem hj1]
          rfl
        rw [hx0] at d0
        rw [hx1] at d1
        obtain ⟨x0, hx0e⟩ : ∃ x, x = (bs[i]).2.getD 0 0 := ⟨_, rfl⟩
        obtain ⟨x1, hx1e⟩ : ∃ x, x = (bs[i]).2.getD (M - 1) 0 := ⟨_, rfl⟩
        obtain ⟨P, hPe⟩ : ∃ x, x = (bs[i]).1 := ⟨_, rfl⟩
        rw [← hx0e] at c0 d0
        rw [← hx1e] at c1 d1
        rw [← hPe] at c3 hat
        have hP1 : 1 ≤ P := hat.1
        have hP2 : (P : Int) < (s.size : Int) := by have := hat.2; rw [sizeL] at this; omega
        have hM1 : 1 ≤ M := hlen.1
        have hM32 : M ≤ 32 := hlen.2
        have hKM : K + M ≤ L := by omega
        obtain ⟨m1, hm1⟩ : ∃ m1, K + M = m1 + 1 := ⟨K + M - 1, by omega⟩
        have hm1' : K + M - 1 = m1 := by omega
        rw [hm1'] at d1
        have HNX : Hid (K + M = min (32 * (i + 1)) L) := hide (by omega)
        have hlast : M = 32 ∨ (M ≠ 32 ∧ ¬ (i : Int) < (N : Int) - 1) := by
          by_cases h : M = 32
          · exact .inl h
          · refine .inr ⟨h, ?_⟩
            intro h9
            obtain ⟨h10, _⟩ := (unhide HSH).2 (i + 1) (by have := unhide HNN; omega)
            omega
        clear hx0 hx1 hx0e hx1e hPe hg0 hg1 hget hat hlen hM hMe hcell4 hcell5 e5 e6 e8 e9 hK h32
        have hK0 : (0 : Int) ≤ (K : Int) := by omega
        have hKL : (K : Int) < (L : Int) := by omega
        have hIX0 := index_runO b4 off4 L cp K (K : Int) rfl (by omega)
        have hIX1 := index_runO b4 off4 L cp m1 (IntKind.i64.wrap (IntKind.i64.wrap ((K : Int) + (M : Int)) - 1)) (by rw [wrap_sum (by omega), wrap_less hm1 (by omega)]) (by omega)
        have hIX2 := index_runO b4 off4 L cp m1 ((K : Int) + (M : Int) - 1) (by omega) (by omega)
        have hIX3 := index_runO b4 off4 L cp m1 (wrap64 ((K : Int) + (M : Int) - 1)) (wrap64_less hm1 (by omega)) (by omega)
        obtain ⟨D, hD⟩ : ∃ D, K + D = L := ⟨L - K, by omega⟩
        have hWD := wrap_diff hD (by omega)
        have hWE := wrap64_diff hD (by omega)
        have hMD : M ≤ D := by omega
        have hMD1 : ¬ (M : Int) > (D : Int) := by omega
        have hMD2 : ¬ (D : Int) < (M : Int) := by omega
        obtain ⟨q, hq⟩ : ∃ q, q + 1 = N := ⟨N - 1, by omega⟩
        have hWQ := wrap_one hq (by omega)
        have hWR := wrap64_one hq (by omega)
        have hM10 : decide ((M : Int) < 1) = false := decide_eq_false (by omega)
        have hMDd : decide (D < M) = false := decide_eq_false (by omega)
        have hP10 : decide ((P : Int) < 1) = false := decide_eq_false (by omega)
        have hPs : decide (s.size ≤ P) = false := decide_eq_false (by omega)
        have hPs2 : decide ((s.size : Int) ≤ (P : Int)) = false := decide_eq_false (by omega)
        have HWI : Hid (wrap64 ((i : Int) + 1) = ((i + 1 : Nat) : Int)) := hide (wrap64_next (by omega))
        have HLT := hide hlt
        have HD := hide hD
        have HQ := hide hq
        have HM1 := hide hm1
        rcases hlast with hl32 | ⟨hl32, hli⟩
        · have hb3 : ((M : Int) != 32) = false := by rw [hl32]; rfl
          have hb3' : ((M : Int) == 32) = true := by rw [hl32]; rfl
          clear hl32 hD hq hm1 hKM hMD hlt hi hP1 hM1 hfb hck hcp
          go_wp2_with fail
          go_quiet (fail)
          go_wp2
          refine ⟨⟨i + 1, K + M, by rw [unhide HWI], by rw [Int.natCast_add], unhide HLT, HNX, hide (below_drewN ((unhide HB).alloc (unhide HB).size _) _)⟩, ?_⟩
          rw [unhide HWI]
          simp only [intOf]
          have := unhide HLT
          omega
        · have hb3' : ((M : Int) == 32) = false := by simp; omega
          have hb3 : ((M : Int) != 32) = true := by simp [bne, hb3']
          have hiq : decide (i < q) = false := decide_eq_false (by omega)
          have hiq2 : decide ((i : Int) < (q : Int)) = false := decide_eq_false (by omega)
          clear hl32 hli hD hq hm1 hKM hMD hlt hi hP1 hM1 hfb hck hcp
          go_wp2_with fail
          go_quiet (fail)
          go_wp2
          refine ⟨⟨i + 1, K + M, by rw [unhide HWI], by rw [Int.natCast_add], unhide HLT, HNX, hide (below_drewN ((unhide HB).alloc (unhide HB).size _) _)⟩, ?_⟩
          rw [unhide HWI]
          simp only [intOf]
          have := unhide HLT
          omega
      · have hlt1 : ¬ (i : Int) < (N : Int) := by omega
        have hKL : K = L := by have h1 := unhide HKE; have h2 := (unhide HSH).1; have h3 := unhide HNN; omega
        subst hKL
        have HI := hide (unhide HIN wr ((unhide HRL4).below (unhide HB)))
        have HBF := hide (belows' (unhide HB4) (unhide HB))
        have hkk : ((K : Int) == (K : Int)) = true := by simp
        clear hfew hfb hck hcp hi hlt
        go_wp2_with fail
        refine (unhide HI).mono ?_
        rintro e w9 ⟨rfl, hw9⟩
        subst hw9
        go_wp2
        go_ret
        exact ⟨by simp, unhide HBF⟩
  · have HE0 := hide h0
    go_wp2_with fail
    refine (unhide HK _).mono ?_
    clear HK
    rintro e W2 ⟨_, h1, hb2⟩
    have h1' := h1 h0
    subst h1'
    have HB2 := hide (belows' (unhide HB1) hb2)
    clear hb2 HB1 h1
    go_wp2_with fail
    refine (unhide HU _).mono ?_
    clear HU
    rintro e W3 ⟨hr, hb3⟩
    rcases hr with ⟨h9, _⟩ | ⟨_, rfl⟩
    · exact absurd h9 h0
    have HB3 := hide (belows' (unhide HB2) hb3)
    clear hb3 HB2
    go_wp2_with fail
    refine (unhide HH _).mono ?_
    clear HH
    rintro e W4 ⟨_, h1, hb4⟩
    have h1' := h1 h0
    subst h1'
    have HB4 := hide (belows' (unhide HB3) hb4)
    clear hb4 HB3 h1
    generalize (readS s.data.toList).2.er = er at *
    have hne : ((er : Int) == 0) = false := by simp; omega
    have hne' : ((er : Int) != 0) = true := by simp [bne, hne]
    clear h0
    go_wp2
    go_ret
    exact ⟨by simp, unhide HB4⟩
end Go.Proofs.Ytfjjigcghhohkaa
