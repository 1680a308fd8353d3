/-
  What tally.isOfSome, isRight and Check tell, over this seat's program.
-/
import Derived.Test.YtlolilhlpbpfjaaDoorTlf
import Derived.Test.YtlolilhlpbpfjaaDoorTlb
set_option linter.unusedVariables false
set_option linter.unusedSimpArgs false
namespace Go.Proofs.YtlolilhlpbpfjaaDoor
open Go.RowKit Go.Proofs.Nst

set_option maxHeartbeats 8000000 in
set_option maxRecDepth 100000 in
theorem isOfSome_any (t : Tly) (a : Option Addr) (n cap : Nat) (w : World) (hf : FitT t) :
    Calls Tryd.prog 44 #[tlV t (.slice a n cap)] w fun e w' => e = .returned (.bool (ofSome t)) ∧ Below w.heap.size w w' := by
  obtain ⟨wt, mn, lo, hi, al⟩ := t
  obtain ⟨f1, f2, f3, f4⟩ := hf
  simp only at f1 f2 f3 f4
  have b1 := bit_ne wt 1 1 rfl f1 (by decide)
  have b2 := bit_ne wt 2 2 rfl f1 (by decide)
  have b8 := bit8_eq wt f1
  obtain ⟨R, hR⟩ : ∃ R, ofSome ⟨wt, mn, lo, hi, al⟩ = R := ⟨_, rfl⟩
  rw [hR]
  obtain ⟨L, hL⟩ : ∃ L, leastE ⟨wt, mn, lo, hi, al⟩ = L := ⟨_, rfl⟩
  obtain ⟨M, hM⟩ : ∃ M, mostE ⟨wt, mn, lo, hi, al⟩ = M := ⟨_, rfl⟩
  obtain ⟨F, hF⟩ : ∃ F, fewE ⟨wt, mn, lo, hi, al⟩ = F := ⟨_, rfl⟩
  have HR : Hid (R = if L = 0 ∨ M < L then false else if bitW wt 8 = false then true else decide (F ≤ mn ∧ mn ≤ 65536 ∧ mn ≤ (M : Int) - L + 1)) := hide (by rw [← hR, ← hL, ← hM, ← hF]; rfl)
  have HL : Hid (L = if bitW wt 1 = true then lo else 1) := hide (by rw [← hL]; rfl)
  have HM : Hid (M = if bitW wt 2 = true then hi else 4294967295) := hide (by rw [← hM]; rfl)
  have HF : Hid (F = if lo ≠ 0 ∧ hi ≠ 0 ∧ L ≠ M then 2 else 1) := hide (by rw [← hF, ← hL, ← hM]; rfl)
  have hLl : L ≤ 4294967295 := by rw [unhide HL]; split <;> omega
  have hMl : M ≤ 4294967295 := by rw [unhide HM]; split <;> omega
  have hF1 : F = 1 ∨ F = 2 := by rw [unhide HF]; split <;> simp
  have HA := hide (show Below w.heap.size w (w.alloc (.cells #[.int .u8 (wt : Int), .int .i64 mn, .int .u32 (lo : Int), .int .u32 (hi : Int), .slice a n cap] 27)) from (Below.refl _ w).alloc (Nat.le_refl _) _)
  have HK := hide (Blk.new w 27 #[.int .u8 (wt : Int), .int .i64 mn, .int .u32 (lo : Int), .int .u32 (hi : Int), .slice a n cap])
  simp only [tlV, tlC]
  clear hR hL hM hF f1
  go_enter Tryd.func44, Tryd.ntmps44
  go_upto_region 2 with (fail)
  generalize w.alloc (.cells #[.int .u8 (wt : Int), .int .i64 mn, .int .u32 (lo : Int), .int .u32 (hi : Int), .slice a n cap] 27) = W at HA HK ⊢
  have c0 := (unhide HK).cell 0
  have c1 := (unhide HK).cell 1
  have c2 := (unhide HK).cell 2
  have c3 := (unhide HK).cell 3
  simp only [List.getElem?_toArray, List.getElem?_cons_succ, List.getElem?_cons_zero] at c0 c1 c2 c3
  clear HK
  go_upto_if 9 with (fail)
  go_cut [3] from 9 to 12 (fun v wx => v = .int .u64 (L : Int) ∧ wx = W)
  case first =>
    have hl := unhide HL
    cases hb : bitW wt 1 with
    | true =>
      rw [hb] at b1 hl
      rw [if_pos rfl] at hl
      subst hl
      clear HR HL HM HF
      go_wp2
      go_meet
      exact ⟨rfl, rfl⟩
    | false =>
      rw [hb] at b1 hl
      rw [if_neg (by simp)] at hl
      subst hl
      clear HR HL HM HF
      go_wp2
      go_meet
      exact ⟨rfl, rfl⟩
  case rest =>
  obtain ⟨rfl, hwc⟩ := hcut
  rw [hwc]
  clear hwc HL b1
  go_upto_if 16 with (fail)
  go_cut [4] from 16 to 19 (fun v wx => v = .int .u64 (M : Int) ∧ wx = W)
  case first =>
    have hl := unhide HM
    cases hb : bitW wt 2 with
    | true =>
      rw [hb] at b2 hl
      rw [if_pos rfl] at hl
      subst hl
      clear HR HM HF
      go_wp2
      go_meet
      exact ⟨rfl, rfl⟩
    | false =>
      rw [hb] at b2 hl
      rw [if_neg (by simp)] at hl
      subst hl
      clear HR HM HF
      go_wp2
      go_meet
      exact ⟨rfl, rfl⟩
  case rest =>
  obtain ⟨rfl, hwc⟩ := hcut
  rw [hwc]
  clear hwc HM b2
  by_cases z0 : L = 0
  · have q0 : ((L : Int) == 0) = true := by simp [z0]
    have HE : Hid (R = false) := hide (by rw [unhide HR, if_pos (.inl z0)])
    clear HR z0 HF
    go_wp2
    go_ret
    exact ⟨by rw [unhide HE]; rfl, unhide HA⟩
  · have q0 : ((L : Int) == 0) = false := by simp; omega
    by_cases z1 : M < L
    · have q1 : (M : Int) < (L : Int) := by omega
      have HE : Hid (R = false) := hide (by rw [unhide HR, if_pos (.inr z1)])
      clear HR z0 z1 HF
      go_wp2
      go_ret
      exact ⟨by rw [unhide HE]; rfl, unhide HA⟩
    · have q1 : ¬ (M : Int) < (L : Int) := by omega
      have hr := unhide HR
      rw [if_neg (by rintro (h9 | h9); exact z0 h9; exact z1 h9)] at hr
      clear HR
      cases hb : bitW wt 8 with
      | false =>
        rw [hb] at b8 hr
        rw [if_pos rfl] at hr
        have HE := hide hr
        clear hr z0 z1 HF
        go_wp2
        go_ret
        exact ⟨by rw [unhide HE]; rfl, unhide HA⟩
      | true =>
        rw [hb] at b8 hr
        rw [if_neg (by simp)] at hr
        have HE := hide hr
        have hML : L ≤ M := by omega
        clear hr z0 z1
        go_upto_region 11 with (fail)
        clear b8 hb
        obtain ⟨B, hB⟩ : ∃ B : Bool, B = decide (lo ≠ 0 ∧ hi ≠ 0 ∧ L ≠ M) := ⟨_, rfl⟩
        have HFB : Hid (F = if B = true then 2 else 1) := hide (by rw [unhide HF, hB]; simp only [decide_eq_true_eq])
        have HBB := hide hB
        clear hB HF
        go_cut [43] from 31 to 42 (fun v wx => v = .bool B ∧ wx = W)
        case first =>
          have hff := unhide HBB
          clear HE HFB hF1 HBB
          by_cases y0 : lo = 0
          · have p0 : ((lo : Int) != 0) = false := by simp [y0]
            rw [decide_eq_false (fun h9 => h9.1 y0)] at hff
            clear y0
            go_wp2
            go_meet
            exact ⟨by rw [hff], rfl⟩
          · have p0 : ((lo : Int) != 0) = true := by simp; omega
            by_cases y1 : hi = 0
            · have p1 : ((hi : Int) != 0) = false := by simp [y1]
              rw [decide_eq_false (fun h9 => h9.2.1 y1)] at hff
              clear y0 y1
              go_wp2
              go_meet
              exact ⟨by rw [hff], rfl⟩
            · have p1 : ((hi : Int) != 0) = true := by simp; omega
              have hff2 : B = ((L : Int) != (M : Int)) := by
                rw [hff]
                by_cases y2 : L = M
                · simp [y2]
                · rw [decide_eq_true ⟨y0, y1, y2⟩]; symm; simp; omega
              have HFF := hide hff2
              clear y0 y1 hff hff2
              go_wp2
              go_meet
              exact ⟨by rw [unhide HFF], rfl⟩
        case rest =>
        obtain ⟨rfl, hwc⟩ := hcut
        rw [hwc]
        clear hwc q0 q1 HBB
        have hfb := unhide HFB
        clear HFB
        cases B with
        | true =>
          rw [if_pos rfl] at hfb
          subst hfb
          clear hF1
          by_cases y0 : (2 : Int) ≤ mn
          · by_cases y1 : mn ≤ 65536
            · have p0 : IntKind.u64.wrap mn = mn := by rw [IntKind.wrap_u64]; omega
              have p1 : IntKind.u64.wrap ((M : Int) - (L : Int)) = (M : Int) - (L : Int) := by rw [IntKind.wrap_u64]; omega
              have p2 : IntKind.u64.wrap ((M : Int) - (L : Int) + 1) = (M : Int) - (L : Int) + 1 := by rw [IntKind.wrap_u64]; omega
              have HE2 : Hid (R = decide (mn ≤ (M : Int) - L + 1)) := hide (by rw [unhide HE]; simp [y0, y1])
              clear HE
              go_wp2
              go_ret
              exact ⟨by rw [unhide HE2]; rfl, unhide HA⟩
            · have HE2 : Hid (R = false) := hide (by rw [unhide HE]; simp [y1])
              clear HE
              go_wp2
              go_ret
              exact ⟨by rw [unhide HE2]; rfl, unhide HA⟩
          · have HE2 : Hid (R = false) := hide (by rw [unhide HE]; simp [y0])
            clear HE
            go_wp2
            go_ret
            exact ⟨by rw [unhide HE2]; rfl, unhide HA⟩
        | false =>
          rw [if_neg (by simp)] at hfb
          subst hfb
          clear hF1
          by_cases y0 : (1 : Int) ≤ mn
          · by_cases y1 : mn ≤ 65536
            · have p0 : IntKind.u64.wrap mn = mn := by rw [IntKind.wrap_u64]; omega
              have p1 : IntKind.u64.wrap ((M : Int) - (L : Int)) = (M : Int) - (L : Int) := by rw [IntKind.wrap_u64]; omega
              have p2 : IntKind.u64.wrap ((M : Int) - (L : Int) + 1) = (M : Int) - (L : Int) + 1 := by rw [IntKind.wrap_u64]; omega
              have HE2 : Hid (R = decide (mn ≤ (M : Int) - L + 1)) := hide (by rw [unhide HE]; simp [y0, y1])
              clear HE
              go_wp2
              go_ret
              exact ⟨by rw [unhide HE2]; rfl, unhide HA⟩
            · have HE2 : Hid (R = false) := hide (by rw [unhide HE]; simp [y1])
              clear HE
              go_wp2
              go_ret
              exact ⟨by rw [unhide HE2]; rfl, unhide HA⟩
          · have HE2 : Hid (R = false) := hide (by rw [unhide HE]; simp [y0])
            clear HE
            go_wp2
            go_ret
            exact ⟨by rw [unhide HE2]; rfl, unhide HA⟩
end Go.Proofs.YtlolilhlpbpfjaaDoor
