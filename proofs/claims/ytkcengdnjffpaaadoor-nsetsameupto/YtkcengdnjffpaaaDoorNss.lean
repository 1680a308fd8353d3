/-
  What missivelaw03.NsetSame does, over this seat's program.
-/
import Derived.Test.YtkcengdnjffpaaaDoorNop
import Derived.Test.YtkcengdnjffpaaaDoorNlv
import Derived.Test.YtkcengdnjffpaaaDoorNhs
set_option linter.unusedVariables false
namespace Go.Proofs.YtkcengdnjffpaaaDoor
open Go.RowKit Go.Proofs.Nst

theorem index_runS2 (b off n cp m : Nat) (k : Int) (hk : k = (m : Int)) (hm : m < n) (w : World) : (Instr.indexAt 22 (.slice (some ⟨b, off, none⟩) n cp) (.int .i64 k)).run Tryd.prog w = .ok (.pointer (some ⟨b, off + m * 2, none⟩)) w := by
  subst hk
  obtain ⟨i0, hi, hz0, hz1, hz2⟩ := info_partsN spInfo
  have he : Tryd.prog.elem 22 = 44 := by kernel_rfl
  rw [run_indexAt_slice (P := Tryd.prog) (w := w) (t := 22) (a := ⟨b, off, none⟩) (len := n) (cap := cp) (k := .i64) (i := (m : Int)) (h := by kernel_rfl)]
  rw [if_pos (by omega), he]
  have hadd : Addr.add ⟨b, off, none⟩ (m * 2) = ⟨b, off + m * 2, none⟩ := by rw [add_off0]
  go_simp
  (try omega)
theorem sub_u32 {x p : Nat} (h : p + 1 < x) (hx : x ≤ 4294967295) : ∃ d : Nat, 2 ≤ d ∧ IntKind.u32.wrap ((x : Int) - (p : Int)) = (d : Int) := ⟨x - p, by omega, by rw [IntKind.wrap_u32]; omega⟩

theorem below_dr {B : Nat} {a w : World} (h : Below B a w) (n : Nat) : Below B a (w.drewN n) := ⟨h.os, h.tape, h.output, h.size, h.block⟩
/-- What the sorted set is. -/
structure SortedS (m : Nat) (l q : List Sp) : Prop where
  ap : Apart q
  mem : ∀ n, memS n q = hasS m n l
  fit : ∀ x ∈ q, FitS x
  len : q.length ≤ 1024
theorem sorted_of {m : Nat} {l : List Sp} (hm : m ≤ 4294967295) (hf : ∀ x ∈ l, FitS x) (hl : l.length ≤ 1024) : SortedS m l (apartS m l) :=
  ⟨(apartS_ok m l).1, (apartS_ok m l).2, apartS_fit hm hf, Nat.le_trans (apartS_len m l) hl⟩
theorem sorted_zero {m : Nat} {l q : List Sp} (h : SortedS m l q) (h0 : 0 < q.length) (hz : (q[0]).1 = 0) : m = 0 ∧ ∀ n, hasS 0 n q = hasS m n l := by
  have hm0 : m = 0 := zero_most (l := l) (by rw [← h.mem 0, memS_iff]; exact ⟨q[0], List.getElem_mem h0, by omega, by omega⟩)
  exact ⟨hm0, fun n => by rw [(apartS_self h.ap (.inl rfl)).2, h.mem]⟩
theorem sorted_pos {m : Nat} {l q : List Sp} (h : SortedS m l q) (hz : ∀ h0 : 0 < q.length, (q[0]).1 ≠ 0) : sortR m q = (q, 0) ∧ ∀ n, hasS m n q = hasS m n l := by
  have hp : ∀ s ∈ q, 1 ≤ s.1 := by
    cases q with
    | nil => simp
    | cons a r => exact h.ap.pos rfl (by have := hz (by simp); simp at this; omega)
  have hs := apartS_self h.ap (most := m) (.inr hp)
  exact ⟨by unfold sortR; rw [if_pos h.len, hs.1], fun n => by rw [hs.2, h.mem]⟩

set_option maxHeartbeats 4000000 in
set_option maxRecDepth 100000 in
theorem nsetSame_walk (v : Value) (l : List Sp) (m n : Nat) (w : World) (hE : ErrN w) (ha : RowSpn w v l) (hm : m ≤ 4294967295) (hs : l.length ≤ 1048576) :
    Calls Tryd.prog 6 #[v, .int .u32 (m : Int), .int .u32 (n : Int)] w fun e w' => e = .returned (.bool true) ∧ Below w.heap.size w w' := by
  have HL := hide (lives_any w hE)
  obtain ⟨aa, ca, hva, _, hfit, _⟩ := ha.1
  have HA := hide ha.1
  have HFL := hide hfit
  subst hva
  have HM := hide hm
  clear ha hs hE hfit hm
  obtain ⟨la, hla⟩ : ∃ x, x = l.length := ⟨_, rfl⟩
  rw [← hla] at HA ⊢
  have HLA := hide hla
  clear hla
  go_enter Tryd.func6, Tryd.ntmps6
  go_wp2_with fail
  refine (unhide HL).mono ?_
  rintro e W1 ⟨rfl, hb1⟩
  have HB1 := hide hb1
  have HA1 := hide (RowSp.below (unhide HA) hb1)
  clear hb1 HL HA
  have HS := hide (nsort_any _ l m W1 (unhide HA1) (unhide HM))
  by_cases hlen : l.length ≤ 1024
  · have hsr : sortR m l = (apartS m l, 0) := by unfold sortR; rw [if_pos hlen]
    rw [hsr] at HS
    have HQ := hide (sorted_of (unhide HM) (unhide HFL) hlen)
    generalize apartS m l = q at HS HQ
    clear hsr hlen HLA HFL
    go_wp2_with fail
    refine (unhide HS).mono ?_
    rintro e W2 ⟨v2, rfl, ho, hb2⟩
    have HR2 := hide (rowG_of_own (Fit := FitS) cellsS_len ho (by have := (unhide HQ).len; omega) (unhide HQ).fit)
    have HB2 := hide (belows' (unhide HB1) hb2)
    have HA2 := hide (RowSp.below (unhide HA1) hb2)
    obtain ⟨a2, c2, hv2, _⟩ := unhide HR2
    subst hv2
    clear ho hb2 HS HB1 HA1
    obtain ⟨T, hT⟩ : ∃ T, T = q.length := ⟨_, rfl⟩
    rw [← hT] at HR2 ⊢
    have hTl : T ≤ 1024 := by rw [hT]; exact (unhide HQ).len
    have HTL := hide hT
    clear hT
    go_wp2
    go_loopw [9, 10, 28] (fun _ _ z wr => ∃ k : Nat, z = .int .i64 k ∧ k ≤ T ∧ Hid (Below W2.heap.size W2 wr)) (fun _ _ z _ => T - (intOf z).toNat)
    case atStart => exact ⟨0, rfl, Nat.zero_le _, hide (Below.refl _ _)⟩
    case round =>
      obtain ⟨k, rfl, hk, HB⟩ := hrel
      by_cases hlt : k < T
      · have hlt1 : (k : Int) < (T : Int) := by omega
        have hkl : k < q.length := by have := unhide HTL; omega
        obtain ⟨b, off, cp, hv1, hblt, hcell⟩ := RowG.at cellsS_len ((unhide HR2).below (unhide HB)) (j := k) hkl
        injection hv1 with e1 e2 e3
        have hxy := (unhide HQ).ap.ok _ (List.getElem_mem hkl)
        have hxf := ((unhide HQ).fit _ (List.getElem_mem hkl)).1
        cases k with
        | zero =>
          subst e1
          have c0 := hcell 0 (by omega)
          have c1 := hcell 1 (by omega)
          simp only [cellsS, List.getElem?_cons_zero, List.getElem?_cons_succ, Nat.add_zero, Nat.zero_mul] at c0 c1
          clear e2 e3 hcell
          generalize (q[0]).1 = x at c0 hxy hxf
          generalize (q[0]).2 = y at c1 hxy
          have hxy1 : ¬ (x : Int) > (y : Int) := by omega
          have hxy2 : decide (y < x) = false := decide_eq_false (by omega)
          have HBA := hide (belows' (unhide HB) (below_alloc0 wr (.cells #[.int .u32 (x : Int), .int .u32 (y : Int)] 44)))
          clear hxy hxf hkl
          go_wp2
          go_quiet (fail)
          go_wp2
          exact ⟨⟨1, by go_num, by omega, hide (below_dr (unhide HBA) _)⟩, by simp [intOf]; omega⟩
        | succ j =>
          have hjl : j < q.length := by omega
          obtain ⟨b2, off2, cap2, hv2, hblt2, hcell2⟩ := RowG.at cellsS_len ((unhide HR2).below (unhide HB)) (j := j) hjl
          injection hv2 with e4 e5 e6
          rw [e1] at e4
          injection e4 with e7
          injection e7 with e8 e9
          subst e8 e9 e1
          have hpp := List.pairwise_iff_getElem.1 (unhide HQ).ap.up j (j + 1) hjl hkl (by omega)
          have c0 := hcell 0 (by omega)
          have c1 := hcell 1 (by omega)
          have d1 := hcell2 1 (by omega)
          simp only [cellsS, List.getElem?_cons_zero, List.getElem?_cons_succ, Nat.add_zero] at c0 c1 d1
          clear e2 e3 e5 e6 hcell hcell2 hblt2
          have hI1 := fun W => index_runS2 b off T c2 (j + 1) ((j : Int) + 1) (by omega) hlt W
          have hI2 := fun W => index_runS2 b off T c2 j (j : Int) rfl (by omega) W
          have hwb1 := wrap64_back (k := j) (by omega)
          have hwb2 := wrap_back (k := j) (by omega)
          generalize (q[j + 1]).1 = x at c0 hxy hxf hpp
          generalize (q[j + 1]).2 = y at c1 hxy
          generalize (q[j]).2 = p at d1 hpp
          obtain ⟨d, hd2, hdw⟩ := sub_u32 hpp hxf
          have hxy1 : ¬ (x : Int) > (y : Int) := by omega
          have hxy2 : decide (y < x) = false := decide_eq_false (by omega)
          have hxp1 : ¬ (x : Int) ≤ (p : Int) := by omega
          have hxp2 : decide (x ≤ p) = false := decide_eq_false (by omega)
          have hd3 : ¬ (d : Int) < 2 := by omega
          have hd4 : decide ((d : Int) < 2) = false := decide_eq_false hd3
          have hk0 : decide ((0 : Int) < (j : Int) + 1) = true := decide_eq_true (by omega)
          have HBA := hide (belows' (unhide HB) (below_alloc0 wr (.cells #[.int .u32 (x : Int), .int .u32 (y : Int)] 44)))
          clear hxy hxf hkl hjl hpp hd2
          go_wp2
          go_quiet (fail)
          go_wp2
          exact ⟨⟨j + 2, by go_num, by omega, hide (below_dr (unhide HBA) _)⟩, by simp [intOf]; omega⟩
      · have hlt1 : ¬ (k : Int) < (T : Int) := by omega
        by_cases h0 : T = 0
        · have ht0 : ¬ (T : Int) > 0 := by omega
          have hz : ∀ h0 : 0 < q.length, (q[0]).1 ≠ 0 := fun h9 => by have := unhide HTL; omega
          clear h0
          have HSP := hide (sorted_pos (unhide HQ) hz)
          have HS2 := hide (nsort_any _ q m wr (RowSp.below (unhide HR2) (unhide HB)) (unhide HM))
          rw [(unhide HSP).1] at HS2
          have HBW := hide (belows' (unhide HB2) (unhide HB))
          have HRW := hide (RowSp.below (unhide HR2) (unhide HB))
          have HAW := hide (RowSp.below (unhide HA2) (unhide HB))
          clear hz HB HR2 HA2 HB2
          go_wp2_with fail
          refine (unhide HS2).mono ?_
          rintro e W4 ⟨v4, rfl, ho, hb4⟩
          have HG4 := hide (rowG_of_own (Fit := FitS) cellsS_len ho (by have := (unhide HQ).len; omega) (unhide HQ).fit)
          have HB4 := hide (belows' (unhide HBW) hb4)
          have HR4 := hide (RowSp.below (unhide HRW) hb4)
          have HA4 := hide (RowSp.below (unhide HAW) hb4)
          obtain ⟨a4, c4, hv4, _⟩ := own_sliceG ho
          rw [← unhide HTL] at hv4
          subst hv4
          clear ho hb4 HS2 HBW HRW HAW
          have HSM := hide (sameSp_any _ _ q q W4 (unhide HR4) (unhide HG4))
          rw [decide_eq_true rfl] at HSM
          go_wp2_with fail
          refine (unhide HSM).mono ?_
          rintro e W5 ⟨rfl, hb5⟩
          have HB5 := hide (belows' (unhide HB4) hb5)
          have HR5 := hide (RowSp.below (unhide HR4) hb5)
          have HH1 := hide (nhas_any _ l m n W5 (RowSp.below (unhide HA4) hb5))
          clear hb5 HSM HB4 HR4 HA4 HG4
          have HEQ := hide ((unhide HSP).2 n)
          generalize hasS m n l = r at HH1 HEQ
          go_wp2_with fail
          refine (unhide HH1).mono ?_
          rintro e W6 ⟨rfl, hb6⟩
          have HB6 := hide (belows' (unhide HB5) hb6)
          have HH2 := hide (nhas_any _ q m n W6 (RowSp.below (unhide HR5) hb6))
          rw [unhide HEQ] at HH2
          clear hb6 HH1 HB5 HR5 HSP HEQ
          go_wp2_with fail
          refine (unhide HH2).mono ?_
          rintro e W7 ⟨rfl, hb7⟩
          have HB7 := hide (belows' (unhide HB6) hb7)
          clear hb7 HH2 HB6
          go_wp2
          go_ret
          exact ⟨by simp, unhide HB7⟩
        · have ht0 : (T : Int) > 0 := by omega
          have hk0 : 0 < q.length := by have := unhide HTL; omega
          have hT0 : 0 < T := by omega
          obtain ⟨b, off, cp, hv1, hblt, hcell⟩ := RowG.at cellsS_len ((unhide HR2).below (unhide HB)) (j := 0) hk0
          injection hv1 with e1 e2 e3
          subst e1
          have c0 := hcell 0 (by omega)
          simp only [cellsS, List.getElem?_cons_zero, Nat.add_zero, Nat.zero_mul] at c0
          clear e2 e3 hcell
          by_cases hz0 : (q[0]).1 = 0
          · have hze : (((q[0]).1 : Int) == 0) = true := by simp [hz0]
            have HZ := hide (sorted_zero (unhide HQ) hk0 hz0)
            have hme : ((m : Int) == 0) = true := by rw [(unhide HZ).1]; rfl
            generalize (q[0]).1 = x at c0 hze
            have HEQ := hide ((unhide HZ).2 n)
            have HH1 := hide (nhas_any _ l m n wr (RowSp.below (unhide HA2) (unhide HB)))
            have HBW := hide (belows' (unhide HB2) (unhide HB))
            have HRW := hide (RowSp.below (unhide HR2) (unhide HB))
            generalize hasS m n l = r at HH1 HEQ
            clear hz0 HZ hk0 h0 HA2 HB2 HB
            go_wp2_with fail
            refine (unhide HH1).mono ?_
            rintro e W6 ⟨rfl, hb6⟩
            have HB6 := hide (belows' (unhide HBW) hb6)
            have HH2 := hide (refHas_any _ q 0 n W6 (RowSp.below (unhide HRW) hb6))
            rw [unhide HEQ] at HH2
            clear hb6 HH1 HBW HRW HEQ
            go_wp2_with fail
            refine (unhide HH2).mono ?_
            rintro e W7 ⟨rfl, hb7⟩
            have HB7 := hide (belows' (unhide HB6) hb7)
            clear hb7 HH2 HB6
            go_wp2
            go_ret
            exact ⟨by simp, unhide HB7⟩
          · have hze : (((q[0]).1 : Int) == 0) = false := by simp; omega
            have hz : ∀ h0 : 0 < q.length, (q[0]).1 ≠ 0 := fun _ => hz0
            have HZ9 := hide hz
            clear hz0 hz
            generalize (q[0]).1 = x at c0 hze
            have hz := unhide HZ9
            clear HZ9 hk0
            have HSP := hide (sorted_pos (unhide HQ) hz)
            have HS2 := hide (nsort_any _ q m wr (RowSp.below (unhide HR2) (unhide HB)) (unhide HM))
            rw [(unhide HSP).1] at HS2
            have HBW := hide (belows' (unhide HB2) (unhide HB))
            have HRW := hide (RowSp.below (unhide HR2) (unhide HB))
            have HAW := hide (RowSp.below (unhide HA2) (unhide HB))
            clear hz HB HR2 HA2 HB2
            go_wp2_with fail
            refine (unhide HS2).mono ?_
            rintro e W4 ⟨v4, rfl, ho, hb4⟩
            have HG4 := hide (rowG_of_own (Fit := FitS) cellsS_len ho (by have := (unhide HQ).len; omega) (unhide HQ).fit)
            have HB4 := hide (belows' (unhide HBW) hb4)
            have HR4 := hide (RowSp.below (unhide HRW) hb4)
            have HA4 := hide (RowSp.below (unhide HAW) hb4)
            obtain ⟨a4, c4, hv4, _⟩ := own_sliceG ho
            rw [← unhide HTL] at hv4
            subst hv4
            clear ho hb4 HS2 HBW HRW HAW
            have HSM := hide (sameSp_any _ _ q q W4 (unhide HR4) (unhide HG4))
            rw [decide_eq_true rfl] at HSM
            go_wp2_with fail
            refine (unhide HSM).mono ?_
            rintro e W5 ⟨rfl, hb5⟩
            have HB5 := hide (belows' (unhide HB4) hb5)
            have HR5 := hide (RowSp.below (unhide HR4) hb5)
            have HH1 := hide (nhas_any _ l m n W5 (RowSp.below (unhide HA4) hb5))
            clear hb5 HSM HB4 HR4 HA4 HG4
            have HEQ := hide ((unhide HSP).2 n)
            generalize hasS m n l = r at HH1 HEQ
            go_wp2_with fail
            refine (unhide HH1).mono ?_
            rintro e W6 ⟨rfl, hb6⟩
            have HB6 := hide (belows' (unhide HB5) hb6)
            have HH2 := hide (nhas_any _ q m n W6 (RowSp.below (unhide HR5) hb6))
            rw [unhide HEQ] at HH2
            clear hb6 HH1 HB5 HR5 HSP HEQ
            go_wp2_with fail
            refine (unhide HH2).mono ?_
            rintro e W7 ⟨rfl, hb7⟩
            have HB7 := hide (belows' (unhide HB6) hb7)
            clear hb7 HH2 HB6
            go_wp2
            go_ret
            exact ⟨by simp, unhide HB7⟩
  · have hsr : sortR m l = ([], 1) := by unfold sortR; rw [if_neg hlen]
    rw [hsr] at HS
    clear hsr hlen HLA HFL
    go_wp2_with fail
    refine (unhide HS).mono ?_
    rintro e W2 ⟨v2, rfl, ho, hb2⟩
    have HB2 := hide (belows' (unhide HB1) hb2)
    obtain ⟨a2, c2, hv2, _⟩ := own_sliceG ho
    rw [List.length_nil] at hv2
    subst hv2
    clear ho hb2 HS HB1 HA1
    go_wp2
    go_ret
    exact ⟨rfl, unhide HB2⟩
end Go.Proofs.YtkcengdnjffpaaaDoor
