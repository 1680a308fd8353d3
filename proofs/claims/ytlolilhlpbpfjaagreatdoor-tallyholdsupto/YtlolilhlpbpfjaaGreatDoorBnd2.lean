/-
  What tally.isOfSome, isRight and Check tell, over this seat's program.
-/
import Derived.Test.YtlolilhlpbpfjaaGreatDoorBnd1
import Derived.Test.YtlolilhlpbpfjaaGreatDoorTlb
set_option linter.unusedVariables false
set_option linter.unusedSimpArgs false
namespace Go.Proofs.YtlolilhlpbpfjaaGreatDoor
open Go.RowKit Go.Proofs.Nst

set_option maxHeartbeats 8000000 in
set_option maxRecDepth 100000 in
theorem isOfSome_any (t : Tly) (a : Option Addr) (n cap : Nat) (w : World) (hf : FitT t) :
    Calls Tryz.prog 34 #[tlV t (.slice a n cap)] w fun e w' => e = .returned (.bool (ofSome t)) ∧ Below w.heap.size w w' := by
  obtain ⟨wt, mn, lo, hi, al⟩ := t
  obtain ⟨f1, f2, f3, f4⟩ := hf
  simp only at f1 f2 f3 f4
  have b1 := bit_ne wt 1 1 rfl f1 (by decide)
  have b2 := bit_ne wt 2 2 rfl f1 (by decide)
  have b8 := bit8_eq wt f1
  obtain ⟨R, hR⟩ : ∃ R, ofSome ⟨wt, mn, lo, hi, al⟩ = R := ⟨_, rfl⟩
  rw [hR]
  obtain ⟨L, hL⟩ : ∃ L, leastE ⟨wt, mn, lo, hi, al⟩ = L := ⟨_, rfl⟩
  obtain ⟨M, hM⟩ : ∃ M, mostE ⟨wt, mn, lo, hi, al⟩ = M := ⟨_, rfl⟩
  obtain ⟨F, hF⟩ : ∃ F, fewE ⟨wt, mn, lo, hi, al⟩ = F := ⟨_, rfl⟩
  have HR : Hid (R = if L = 0 ∨ M < L then false else if bitW wt 8 = false then true else decide (F ≤ mn ∧ mn ≤ 65536 ∧ mn ≤ (M : Int) - L + 1)) := hide (by rw [← hR, ← hL, ← hM, ← hF]; rfl)
  have HL : Hid (L = if bitW wt 1 = true then lo else 1) := hide (by rw [← hL]; rfl)
  have HM : Hid (M = if bitW wt 2 = true then hi else 4294967295) := hide (by rw [← hM]; rfl)
  have HF : Hid (F = if lo ≠ 0 ∧ hi ≠ 0 ∧ L ≠ M then 2 else 1) := hide (by rw [← hF, ← hL, ← hM]; rfl)
  have hLl : L ≤ 4294967295 := by rw [unhide HL]; split <;> omega
  have hMl : M ≤ 4294967295 := by rw [unhide HM]; split <;> omega
  have hF1 : F = 1 ∨ F = 2 := by rw [unhide HF]; split <;> simp
  have HA := hide (show Below w.heap.size w (w.alloc (.cells #[.int .u8 (wt : Int), .int .i64 mn, .int .u32 (lo : Int), .int .u32 (hi : Int), .slice a n cap] 28)) from (Below.refl _ w).alloc (Nat.le_refl _) _)
  have HK := hide (Blk.new w 28 #[.int .u8 (wt : Int), .int .i64 mn, .int .u32 (lo : Int), .int .u32 (hi : Int), .slice a n cap])
  simp only [tlV, tlC]
  clear hR hL hM hF f1
  go_enter Tryz.func34, Tryz.ntmps34
  go_upto_region 2 with (fail)
  generalize w.alloc (.cells #[.int .u8 (wt : Int), .int .i64 mn, .int .u32 (lo : Int), .int .u32 (hi : Int), .slice a n cap] 28) = W at HA HK ⊢
  have c0 := (unhide HK).cell 0
  have c1 := (unhide HK).cell 1
  have c2 := (unhide HK).cell 2
  have c3 := (unhide HK).cell 3
  simp only [List.getElem?_toArray, List.getElem?_cons_succ, List.getElem?_cons_zero] at c0 c1 c2 c3
  clear HK
  go_upto_if 9 with (fail)
  go_cut [3] from 9 to 12 (fun v wx => v = .int .u64 (L : Int) ∧ wx = W)
  case first =>
    have hl := unhide HL
    cases hb : bitW wt 1 with
    | true =>
      rw [hb] at b1 hl
      rw [if_pos rfl] at hl
      subst hl
      clear HR HL HM HF
      go_wp2
      go_meet
      exact ⟨rfl, rfl⟩
    | false =>
      rw [hb] at b1 hl
      rw [if_neg (by simp)] at hl
      subst hl
      clear HR HL HM HF
      go_wp2
      go_meet
      exact ⟨rfl, rfl⟩
  case rest =>
  obtain ⟨rfl, hwc⟩ := hcut
  rw [hwc]
  clear hwc HL b1
  go_upto_if 16 with (fail)
  go_cut [4] from 16 to 19 (fun v wx => v = .int .u64 (M : Int) ∧ wx = W)
  case first =>
    have hl := unhide HM
    cases hb : bitW wt 2 with
    | true =>
      rw [hb] at b2 hl
      rw [if_pos rfl] at hl
      subst hl
      clear HR HM HF
      go_wp2
      go_meet
      exact ⟨rfl, rfl⟩
    | false =>
      rw [hb] at b2 hl
      rw [if_neg (by simp)] at hl
      subst hl
      clear HR HM HF
      go_wp2
      go_meet
      exact ⟨rfl, rfl⟩
  case rest =>
  obtain ⟨rfl, hwc⟩ := hcut
  rw [hwc]
  clear hwc HM b2
  by_cases z0 : L = 0
  · have q0 : ((L : Int) == 0) = true := by simp [z0]
    have HE : Hid (R = false) := hide (by rw [unhide HR, if_pos (.inl z0)])
    clear HR z0 HF
    go_wp2
    go_ret
    exact ⟨by rw [unhide HE]; rfl, unhide HA⟩
  · have q0 : ((L : Int) == 0) = false := by simp; omega
    by_cases z1 : M < L
    · have q1 : (M : Int) < (L : Int) := by omega
      have HE : Hid (R = false) := hide (by rw [unhide HR, if_pos (.inr z1)])
      clear HR z0 z1 HF
      go_wp2
      go_ret
      exact ⟨by rw [unhide HE]; rfl, unhide HA⟩
    · have q1 : ¬ (M : Int) < (L : Int) := by omega
      have hr := unhide HR
      rw [if_neg (by rintro (h9 | h9); exact z0 h9; exact z1 h9)] at hr
      clear HR
      cases hb : bitW wt 8 with
      | false =>
        rw [hb] at b8 hr
        rw [if_pos rfl] at hr
        have HE := hide hr
        clear hr z0 z1 HF
        go_wp2
        go_ret
        exact ⟨by rw [unhide HE]; rfl, unhide HA⟩
      | true =>
        rw [hb] at b8 hr
        rw [if_neg (by simp)] at hr
        have HE := hide hr
        have hML : L ≤ M := by omega
        clear hr z0 z1
        go_upto_region 11 with (fail)
        clear b8 hb
        obtain ⟨B, hB⟩ : ∃ B : Bool, B = decide (lo ≠ 0 ∧ hi ≠ 0 ∧ L ≠ M) := ⟨_, rfl⟩
        have HFB : Hid (F = if B = true then 2 else 1) := hide (by rw [unhide HF, hB]; simp only [decide_eq_true_eq])
        have HBB := hide hB
        clear hB HF
        go_cut [43] from 31 to 42 (fun v wx => v = .bool B ∧ wx = W)
        case first =>
          have hff := unhide HBB
          clear HE HFB hF1 HBB
          by_cases y0 : lo = 0
          · have p0 : ((lo : Int) != 0) = false := by simp [y0]
            rw [decide_eq_false (fun h9 => h9.1 y0)] at hff
            clear y0
            go_wp2
            go_meet
            exact ⟨by rw [hff], rfl⟩
          · have p0 : ((lo : Int) != 0) = true := by simp; omega
            by_cases y1 : hi = 0
            · have p1 : ((hi : Int) != 0) = false := by simp [y1]
              rw [decide_eq_false (fun h9 => h9.2.1 y1)] at hff
              clear y0 y1
              go_wp2
              go_meet
              exact ⟨by rw [hff], rfl⟩
            · have p1 : ((hi : Int) != 0) = true := by simp; omega
              have hff2 : B = ((L : Int) != (M : Int)) := by
                rw [hff]
                by_cases y2 : L = M
                · simp [y2]
                · rw [decide_eq_true ⟨y0, y1, y2⟩]; symm; simp; omega
              have HFF := hide hff2
              clear y0 y1 hff hff2
              go_wp2
              go_meet
              exact ⟨by rw [unhide HFF], rfl⟩
        case rest =>
        obtain ⟨rfl, hwc⟩ := hcut
        rw [hwc]
        clear hwc q0 q1 HBB
        have hfb := unhide HFB
        clear HFB
        cases B with
        | true =>
          rw [if_pos rfl] at hfb
          subst hfb
          clear hF1
          by_cases y0 : (2 : Int) ≤ mn
          · by_cases y1 : mn ≤ 65536
            · have p0 : IntKind.u64.wrap mn = mn := by rw [IntKind.wrap_u64]; omega
              have p1 : IntKind.u64.wrap ((M : Int) - (L : Int)) = (M : Int) - (L : Int) := by rw [IntKind.wrap_u64]; omega
              have p2 : IntKind.u64.wrap ((M : Int) - (L : Int) + 1) = (M : Int) - (L : Int) + 1 := by rw [IntKind.wrap_u64]; omega
              have HE2 : Hid (R = decide (mn ≤ (M : Int) - L + 1)) := hide (by rw [unhide HE]; simp [y0, y1])
              clear HE
              go_wp2
              go_ret
              exact ⟨by rw [unhide HE2]; rfl, unhide HA⟩
            · have HE2 : Hid (R = false) := hide (by rw [unhide HE]; simp [y1])
              clear HE
              go_wp2
              go_ret
              exact ⟨by rw [unhide HE2]; rfl, unhide HA⟩
          · have HE2 : Hid (R = false) := hide (by rw [unhide HE]; simp [y0])
            clear HE
            go_wp2
            go_ret
            exact ⟨by rw [unhide HE2]; rfl, unhide HA⟩
        | false =>
          rw [if_neg (by simp)] at hfb
          subst hfb
          clear hF1
          by_cases y0 : (1 : Int) ≤ mn
          · by_cases y1 : mn ≤ 65536
            · have p0 : IntKind.u64.wrap mn = mn := by rw [IntKind.wrap_u64]; omega
              have p1 : IntKind.u64.wrap ((M : Int) - (L : Int)) = (M : Int) - (L : Int) := by rw [IntKind.wrap_u64]; omega
              have p2 : IntKind.u64.wrap ((M : Int) - (L : Int) + 1) = (M : Int) - (L : Int) + 1 := by rw [IntKind.wrap_u64]; omega
              have HE2 : Hid (R = decide (mn ≤ (M : Int) - L + 1)) := hide (by rw [unhide HE]; simp [y0, y1])
              clear HE
              go_wp2
              go_ret
              exact ⟨by rw [unhide HE2]; rfl, unhide HA⟩
            · have HE2 : Hid (R = false) := hide (by rw [unhide HE]; simp [y1])
              clear HE
              go_wp2
              go_ret
              exact ⟨by rw [unhide HE2]; rfl, unhide HA⟩
          · have HE2 : Hid (R = false) := hide (by rw [unhide HE]; simp [y0])
            clear HE
            go_wp2
            go_ret
            exact ⟨by rw [unhide HE2]; rfl, unhide HA⟩
end Go.Proofs.YtlolilhlpbpfjaaGreatDoor

/-
  What tally.isRight and Check tell, over this seat's program.
-/
set_option linter.unusedVariables false
set_option linter.unusedSimpArgs false
namespace Go.Proofs.YtlolilhlpbpfjaaGreatDoor
open Go.RowKit Go.Proofs.Nst

set_option maxHeartbeats 8000000 in
set_option maxRecDepth 100000 in
theorem isRight_any (t : Tly) (v : Value) (w : World) (hf : FitT t) (h : RowSp w v t.all) (hl : t.all.length ≤ 1048576) :
    Calls Tryz.prog 16 #[tlV t v] w fun e w' => e = .returned (.bool (rightT t)) ∧ Below w.heap.size w w' := by
  have HAL := hide (fun W (hb : Below w.heap.size w W) => isOfAll_any t v W hf (RowSp.below h hb) hl)
  obtain ⟨a, cap, rfl, _⟩ := id h
  obtain ⟨n, hn⟩ : ∃ n, n = t.all.length := ⟨_, rfl⟩
  rw [← hn] at HAL h ⊢
  have HW := hide (fun W => isWanted_any t a n cap W hf hn)
  have HS := hide (fun W => isOfSome_any t a n cap W hf)
  obtain ⟨wt, mn, lo, hi, al⟩ := t
  obtain ⟨f1, _, f2, f3⟩ := hf
  simp only at f1 f2 f3 hn
  have b0 := over15n wt f1
  have b4 := bit_ne wt 4 4 rfl f1 (by decide)
  have HA := hide (show Below w.heap.size w (w.alloc (.cells #[.int .u8 (wt : Int), .int .i64 mn, .int .u32 (lo : Int), .int .u32 (hi : Int), .slice a n cap] 28)) from (Below.refl _ w).alloc (Nat.le_refl _) _)
  have HK := hide (Blk.new w 28 #[.int .u8 (wt : Int), .int .i64 mn, .int .u32 (lo : Int), .int .u32 (hi : Int), .slice a n cap])
  obtain ⟨R, hR⟩ : ∃ R, rightT ⟨wt, mn, lo, hi, al⟩ = R := ⟨_, rfl⟩
  rw [hR]
  have HR : Hid (R = if 15 < wt ∨ wanted ⟨wt, mn, lo, hi, al⟩ = false then false else if bitW wt 4 = true then ofAll ⟨wt, mn, lo, hi, al⟩ else decide (mn = 0 ∧ lo = 0 ∧ hi = 0) || ofSome ⟨wt, mn, lo, hi, al⟩) := hide (by rw [← hR]; rfl)
  generalize wanted ⟨wt, mn, lo, hi, al⟩ = G at HW HR
  generalize ofAll ⟨wt, mn, lo, hi, al⟩ = P at HAL HR
  generalize ofSome ⟨wt, mn, lo, hi, al⟩ = S at HS HR
  simp only [tlV, tlC] at HAL HW HS ⊢
  clear hR h hn hl f1 f2 f3
  go_enter Tryz.func16, Tryz.ntmps16
  go_upto_region 1 with (fail)
  generalize w.alloc (.cells #[.int .u8 (wt : Int), .int .i64 mn, .int .u32 (lo : Int), .int .u32 (hi : Int), .slice a n cap] 28) = W at HA HK ⊢
  have c0 := (unhide HK).cell 0
  have c1 := (unhide HK).cell 1
  have c2 := (unhide HK).cell 2
  have c3 := (unhide HK).cell 3
  have c4 := (unhide HK).cell 4
  simp only [List.getElem?_toArray, List.getElem?_cons_succ, List.getElem?_cons_zero] at c0 c1 c2 c3 c4
  by_cases z0 : 15 < wt
  · rw [decide_eq_true z0] at b0
    have HE : Hid (R = false) := hide (by rw [unhide HR, if_pos (.inl z0)])
    clear HR z0 b4 HW HAL HS
    go_wp2
    go_ret
    exact ⟨by rw [unhide HE]; rfl, unhide HA⟩
  · rw [decide_eq_false z0] at b0
    have hr := unhide HR
    clear HR
    go_wp2_with fail
    refine (unhide HW _).mono ?_
    rintro e w1 ⟨rfl, hb1⟩
    have HB := hide (belows' (unhide HA) hb1)
    have HK1 := hide ((unhide HK).below hb1)
    clear hb1 HW HA HK c0 c1 c2 c3 c4 b0
    cases G with
    | false =>
      rw [if_pos (.inr rfl)] at hr
      have HE := hide hr
      clear hr z0 b4 HAL HS
      go_wp2
      go_ret
      exact ⟨by rw [unhide HE]; rfl, unhide HB⟩
    | true =>
      rw [if_neg (by rintro (h9 | h9); exact z0 h9; cases h9)] at hr
      have c0 := (unhide HK1).cell 0
      have c1 := (unhide HK1).cell 1
      have c2 := (unhide HK1).cell 2
      have c3 := (unhide HK1).cell 3
      have c4 := (unhide HK1).cell 4
      simp only [List.getElem?_toArray, List.getElem?_cons_succ, List.getElem?_cons_zero] at c0 c1 c2 c3 c4
      clear z0
      cases hb : bitW wt 4 with
      | true =>
        rw [hb] at b4 hr
        rw [if_pos rfl] at hr
        have HE := hide hr
        clear hr HS
        go_wp2_with fail
        refine (unhide HAL _ (unhide HB)).mono ?_
        rintro e w2 ⟨rfl, hb2⟩
        have HB2 := hide (belows' (unhide HB) hb2)
        clear hb2 HAL
        go_wp2
        go_ret
        exact ⟨by rw [unhide HE]; rfl, unhide HB2⟩
      | false =>
        rw [hb] at b4 hr
        rw [if_neg (by simp)] at hr
        have HE := hide hr
        clear hr HAL
        go_upto_region 5 with (fail)
        clear b4 hb
        obtain ⟨Z, hZ⟩ : ∃ Z : Bool, Z = decide (mn = 0 ∧ lo = 0 ∧ hi = 0) := ⟨_, rfl⟩
        rw [← hZ] at HE
        have HZ := hide hZ
        clear hZ
        go_cut [3] from 21 to 33 (fun v wx => v = .bool Z ∧ wx = w1)
        case first =>
          have hz := unhide HZ
          clear HE HZ HS
          by_cases y0 : mn = 0
          · have p0 : (mn == 0) = true := by simp [y0]
            by_cases y1 : lo = 0
            · have p1 : ((lo : Int) == 0) = true := by simp [y1]
              have hz2 : Z = ((hi : Int) == 0) := by
                rw [hz]
                by_cases y2 : hi = 0
                · simp [y0, y1, y2]
                · simp [y2]
              have HZ2 := hide hz2
              clear hz hz2 y0 y1
              go_wp2
              go_meet
              exact ⟨by rw [unhide HZ2], rfl⟩
            · have p1 : ((lo : Int) == 0) = false := by simp; omega
              have HZ2 : Hid (Z = false) := hide (by rw [hz]; simp [y1])
              clear hz y0 y1
              go_wp2
              go_meet
              exact ⟨by rw [unhide HZ2], rfl⟩
          · have p0 : (mn == 0) = false := by simp; omega
            have HZ2 : Hid (Z = false) := hide (by rw [hz]; simp [y0])
            clear hz y0
            go_wp2
            go_meet
            exact ⟨by rw [unhide HZ2], rfl⟩
        case rest =>
        obtain ⟨rfl, hwc⟩ := hcut
        rw [hwc]
        clear hwc HZ
        cases Z with
        | true =>
          clear HS
          go_wp2
          go_ret
          exact ⟨by rw [unhide HE]; rfl, unhide HB⟩
        | false =>
          go_wp2_with fail
          refine (unhide HS _).mono ?_
          rintro e w2 ⟨rfl, hb2⟩
          have HB2 := hide (belows' (unhide HB) hb2)
          clear hb2 HS
          go_wp2
          go_ret
          exact ⟨by rw [unhide HE]; simp, unhide HB2⟩

set_option maxHeartbeats 1000000 in
theorem tcheck_any (t : Tly) (v : Value) (w : World) (hf : FitT t) (h : RowSp w v t.all) (hl : t.all.length ≤ 1048576) :
    Calls Tryz.prog 11 #[tlV t v] w fun e w' => e = .returned (.int .i64 (if rightT t = true then 0 else 2)) ∧ Below w.heap.size w w' := by
  have HA := hide (show Below w.heap.size w (w.alloc (.cells (tlC t v) 28)) from (Below.refl _ w).alloc (Nat.le_refl _) _)
  have HI := hide (isRight_any t v _ hf (RowSp.below h (unhide HA)) hl)
  generalize rightT t = R at HI ⊢
  obtain ⟨wt, mn, lo, hi, al⟩ := t
  simp only [tlV, tlC] at HA HI ⊢
  clear h hf hl
  go_enter Tryz.func11, Tryz.ntmps11
  go_wp2_with fail
  refine (unhide HI).mono ?_
  rintro e w1 ⟨rfl, hb1⟩
  have HB := hide (belows' (unhide HA) hb1)
  clear hb1 HI HA
  cases R with
  | true =>
    go_wp2
    go_ret
    exact ⟨rfl, unhide HB⟩
  | false =>
    go_wp2
    go_ret
    exact ⟨rfl, unhide HB⟩
end Go.Proofs.YtlolilhlpbpfjaaGreatDoor

/-
  What tally.textOf tells, over this seat's program.
-/
set_option linter.unusedVariables false
set_option linter.unusedSimpArgs false
namespace Go.Proofs.YtlolilhlpbpfjaaGreatDoor
open Go.RowKit Go.Proofs.Nst

theorem itoaT_any (n : Nat) (hn : n ≤ 9223372036854775807) (w : World) (ht : PowT w) :
    Calls Tryz.prog 37 #[.int .i64 (n : Int)] w fun e w' => e = .returned (.string ⟨(Lib.decDigits n).toArray⟩) ∧ Below w.heap.size w w' := by
  refine (Tryz.strconv_Itoa (n : Int) (by omega) (by omega) w ht).mono ?_
  rintro e w' ⟨rfl, k, os, rfl⟩
  rw [Lib.itoa_nonneg]
  exact ⟨rfl, Lib.below_grow _ _ (Nat.le_refl _) k os⟩

set_option maxHeartbeats 8000000 in
set_option maxRecDepth 100000 in
theorem textOf_any (t : Tly) (v : Value) (k : Nat) (q : Int) (hq : q = (k : Int)) (w : World) (hk : k = 1 ∨ k = 2 ∨ k = 4 ∨ k = 8) (hf : FitT t) (hm : 0 ≤ t.many) (h : RowSp w v t.all) (hp : PowT w) :
    Calls Tryz.prog 17 #[tlV t v, .int .u8 q] w fun e w' => e = .returned (.string ⟨(textT t k).toArray⟩) ∧ Below w.heap.size w w' := by
  obtain ⟨a, cap, hva, hh⟩ := id h
  subst hva
  clear hh
  obtain ⟨n, hn⟩ : ∃ n, n = t.all.length := ⟨_, rfl⟩
  rw [← hn] at h ⊢
  obtain ⟨wt, mn, lo, hi, al⟩ := t
  obtain ⟨f1, fm, f2, f3⟩ := hf
  simp only at f1 f2 f3 hm fm h hn
  have HA := hide (show Below w.heap.size w (w.alloc (.cells #[.int .u8 (wt : Int), .int .i64 mn, .int .u32 (lo : Int), .int .u32 (hi : Int), .slice a n cap] 28)) from (Below.refl _ w).alloc (Nat.le_refl _) _)
  have HK := hide (Blk.new w 28 #[.int .u8 (wt : Int), .int .i64 mn, .int .u32 (lo : Int), .int .u32 (hi : Int), .slice a n cap])
  have b8 := bit_ne wt 8 8 rfl f1 (by decide)
  have HP := hide (hp.below (unhide HA))
  have HRW := hide (RowSp.below h (unhide HA))
  have HFI : Hid (∀ x ∈ al, x.1 ≤ 4294967295 ∧ x.2 ≤ 4294967295) := hide (by obtain ⟨_, _, _, _, hfit, _⟩ := id h; exact hfit)
  obtain ⟨R, hR⟩ : ∃ R, textT ⟨wt, mn, lo, hi, al⟩ k = R := ⟨_, rfl⟩
  rw [hR]
  have HR : Hid (R = if k = 1 ∧ lo ≠ 0 then Lib.decDigits lo else if k = 2 ∧ hi ≠ 0 then Lib.decDigits hi else if k = 4 ∧ n ≠ 0 then (writeR al).1 else if k = 8 ∧ bitW wt 8 = true then Lib.decDigits mn.toNat else []) := hide (by rw [← hR, hn]; rfl)
  have HLO : Hid (∀ W, Below (w.alloc (.cells #[.int .u8 (wt : Int), .int .i64 mn, .int .u32 (lo : Int), .int .u32 (hi : Int), .slice a n cap] 28)).heap.size (w.alloc (.cells #[.int .u8 (wt : Int), .int .i64 mn, .int .u32 (lo : Int), .int .u32 (hi : Int), .slice a n cap] 28)) W → Calls Tryz.prog 35 #[.int .u64 (lo : Int), .int .i64 10] W fun e w' => e = .returned (.string ⟨(Lib.decDigits lo).toArray⟩) ∧ Below W.heap.size W w') := hide (fmt_any _ lo f2 (unhide HP))
  have HHI : Hid (∀ W, Below (w.alloc (.cells #[.int .u8 (wt : Int), .int .i64 mn, .int .u32 (lo : Int), .int .u32 (hi : Int), .slice a n cap] 28)).heap.size (w.alloc (.cells #[.int .u8 (wt : Int), .int .i64 mn, .int .u32 (lo : Int), .int .u32 (hi : Int), .slice a n cap] 28)) W → Calls Tryz.prog 35 #[.int .u64 (hi : Int), .int .i64 10] W fun e w' => e = .returned (.string ⟨(Lib.decDigits hi).toArray⟩) ∧ Below W.heap.size W w') := hide (fmt_any _ hi f3 (unhide HP))
  have HWR := hide (nwrite_any (.slice a n cap) al _ (unhide HRW) (fun x hx => ⟨fun _ => fmt_any _ _ (unhide HFI x hx).1 (unhide HP), fun _ => fmt_any _ _ (unhide HFI x hx).2 (unhide HP)⟩))
  obtain ⟨mN, hmN⟩ : ∃ mN : Nat, mn = (mN : Int) := ⟨mn.toNat, by omega⟩
  have hmt : mn.toNat = mN := by omega
  have hmN9 : mN ≤ 9223372036854775807 := by omega
  have HIT := hide (itoaT_any mN hmN9 _ (unhide HP))
  rw [hmt] at HR
  have w1 : IntKind.u64.wrap (lo : Int) = (lo : Int) := by rw [IntKind.wrap_u64]; omega
  have w2 : IntKind.u64.wrap (hi : Int) = (hi : Int) := by rw [IntKind.wrap_u64]; omega
  have hlo8 : lo ≤ 4294967295 := f2
  have hhi8 : hi ≤ 4294967295 := f3
  simp only [tlV, tlC]
  rw [hmN] at HA HK HP HRW HLO HHI HWR HIT ⊢
  clear hR h hp hn hmN hmt hm fm f1 f2 f3 hmN9 HFI HRW HP
  rcases hk with rfl | rfl | rfl | rfl
  · have hq1 : q = 1 := hq
    clear hq
    subst hq1
    by_cases z : lo = 0
    · have p0 : ((lo : Int) != 0) = false := by simp [z]
      have HE : Hid (R = []) := hide (by rw [unhide HR]; simp [z])
      clear z HR
      go_enter Tryz.func17, Tryz.ntmps17
      go_wp2
      go_ret
      exact ⟨by rw [unhide HE]; rfl, unhide HA⟩
    · have p0 : ((lo : Int) != 0) = true := by simp; omega
      have HE : Hid (R = Lib.decDigits lo) := hide (by rw [unhide HR]; simp [z])
      clear z HR
      go_enter Tryz.func17, Tryz.ntmps17
      go_wp2_with fail
      refine (unhide HLO _ (Below.refl _ _)).mono ?_
      rintro e w1 ⟨rfl, hb⟩
      have HB := hide (belows' (unhide HA) hb)
      clear hb
      go_wp2
      go_ret
      exact ⟨by rw [unhide HE]; rfl, unhide HB⟩
  · have hq1 : q = 2 := hq
    clear hq
    subst hq1
    by_cases z : hi = 0
    · have p0 : ((hi : Int) != 0) = false := by simp [z]
      have HE : Hid (R = []) := hide (by rw [unhide HR]; simp [z])
      clear z HR
      go_enter Tryz.func17, Tryz.ntmps17
      go_wp2
      go_ret
      exact ⟨by rw [unhide HE]; rfl, unhide HA⟩
    · have p0 : ((hi : Int) != 0) = true := by simp; omega
      have HE : Hid (R = Lib.decDigits hi) := hide (by rw [unhide HR]; simp [z])
      clear z HR
      go_enter Tryz.func17, Tryz.ntmps17
      go_wp2_with fail
      refine (unhide HHI _ (Below.refl _ _)).mono ?_
      rintro e w1 ⟨rfl, hb⟩
      have HB := hide (belows' (unhide HA) hb)
      clear hb
      go_wp2
      go_ret
      exact ⟨by rw [unhide HE]; rfl, unhide HB⟩
  · have hq1 : q = 4 := hq
    clear hq
    subst hq1
    by_cases z : n = 0
    · have p0 : ¬ 0 < n := by omega
      have HE : Hid (R = []) := hide (by rw [unhide HR]; simp [z])
      clear z HR
      go_enter Tryz.func17, Tryz.ntmps17
      go_wp2
      go_ret
      exact ⟨by rw [unhide HE]; rfl, unhide HA⟩
    · have p0 : 0 < n := by omega
      have HE : Hid (R = (writeR al).1) := hide (by rw [unhide HR]; simp [z])
      clear z HR
      go_enter Tryz.func17, Tryz.ntmps17
      go_wp2_with fail
      refine (unhide HWR).mono ?_
      rintro e w1 ⟨rfl, hb⟩
      have HB := hide (belows' (unhide HA) hb)
      clear hb
      go_wp2
      go_ret
      exact ⟨by rw [unhide HE]; rfl, unhide HB⟩
  · have hq1 : q = 8 := hq
    clear hq
    subst hq1
    cases hb : bitW wt 8 with
    | false =>
      rw [hb] at b8
      have HE : Hid (R = []) := hide (by rw [unhide HR]; simp [hb])
      clear hb HR
      go_enter Tryz.func17, Tryz.ntmps17
      go_wp2
      go_ret
      exact ⟨by rw [unhide HE]; rfl, unhide HA⟩
    | true =>
      rw [hb] at b8
      have HE : Hid (R = Lib.decDigits mN) := hide (by rw [unhide HR]; simp [hb])
      clear hb HR
      go_enter Tryz.func17, Tryz.ntmps17
      go_wp2_with fail
      refine (unhide HIT).mono ?_
      rintro e w1 ⟨rfl, hb⟩
      have HB := hide (belows' (unhide HA) hb)
      clear hb
      go_wp2
      go_ret
      exact ⟨by rw [unhide HE]; rfl, unhide HB⟩
end Go.Proofs.YtlolilhlpbpfjaaGreatDoor

/-
  What tally.Write tells, over this seat's program.
-/
set_option linter.unusedVariables false
set_option linter.unusedSimpArgs false
namespace Go.Proofs.YtlolilhlpbpfjaaGreatDoor
open Go.RowKit Go.Proofs.Nst

theorem dec_len : ∀ (k u : Nat), u < 10 ^ k → 1 ≤ k → (Lib.decDigits u).length ≤ k
  | 0, u, _, h1 => by omega
  | k + 1, u, hu, _ => by
    rw [Lib.decDigits]
    split
    · simp
    · rename_i hge
      rw [List.length_append]
      have h2 : u / 10 < 10 ^ k := by rw [Nat.pow_succ] at hu; omega
      have h3 : 1 ≤ k := by
        rcases Nat.eq_zero_or_pos k with h4 | h4
        · subst h4; simp at hu; omega
        · exact h4
      have := dec_len k (u / 10) h2 h3
      simp
      omega
theorem dec_ne (u : Nat) : Lib.decDigits u ≠ [] := by
  rw [Lib.decDigits]
  split
  · simp
  · simp
theorem textT_len {t : Tly} {k : Nat} (hf : FitT t) (ha : ∀ x ∈ t.all, FitS x) : (textT t k).length ≤ 24600 := by
  obtain ⟨_, fm, f2, f3⟩ := hf
  unfold textT
  split
  · have := dec_len 10 t.least (by omega) (by decide); omega
  · split
    · have := dec_len 10 t.most (by omega) (by decide); omega
    · split
      · unfold writeR
        split
        · simp
        · rename_i h9
          have := accT_len ha t.all.length (Nat.le_refl _)
          rw [List.take_length] at this
          have e : writeP t.all = accT t.all := rfl
          simp only [e]
          omega
      · split
        · have := dec_len 19 t.many.toNat (by have := fm.2; omega) (by decide); omega
        · simp
theorem right_many {t : Tly} (h : rightT t = true) : 0 ≤ t.many := by
  unfold rightT at h
  split at h
  · cases h
  · rename_i hno
    split at h
    · unfold ofAll at h
      split at h
      · cases h
      · rename_i ns _
        simp only [Bool.and_eq_true, decide_eq_true_eq] at h
        rw [h.2.1]
        unfold ofR
        split
        · simp [zT]
        · split
          · simp [zT]
          · split
            · simp
            · split
              · simp [zT]
              · unfold ofT
                simp only
                split <;> omega
    · rw [Bool.or_eq_true] at h
      rcases h with h | h
      · unfold ofNone at h; rw [decide_eq_true_eq] at h; omega
      · unfold ofSome at h
        split at h
        · cases h
        · split at h
          · rename_i hb
            have hw : wanted t = true := by
              cases hw : wanted t with
              | true => rfl
              | false => exact absurd (.inr hw) hno
            unfold wanted at hw
            rw [hb] at hw
            simp only [Bool.and_eq_true, Bool.false_or, decide_eq_true_eq] at hw
            rw [hw.2.2.2]
            omega
          · rw [decide_eq_true_eq] at h
            have : 1 ≤ fewE t := by unfold fewE; split <;> omega
            omega
/-- The text of the first words. -/
def bT (t : Tly) (k : Nat) : List UInt8 := (wordsT.take k).foldl (stepT t) []
theorem bT_next (t : Tly) {k : Nat} (h : k < 4) : bT t (k + 1) = stepT t (bT t k) ((wn k).data.toList, wb k) := by
  unfold bT
  rw [take_words h, List.foldl_append]
  rfl
theorem bT_len {t : Tly} (hf : FitT t) (ha : ∀ x ∈ t.all, FitS x) : ∀ k, k ≤ 4 → (bT t k).length ≤ 24610 * k
  | 0, _ => by simp [bT]
  | k + 1, h => by
    have ih := bT_len hf ha k (by omega)
    rw [bT_next t (by omega)]
    have h1 := textT_len (k := wb k) hf ha
    have h2 := wn_size k
    have h3 : (wn k).data.toList.length = (wn k).size := rfl
    unfold stepT
    split
    · omega
    · simp only [List.length_append, List.length_cons]
      split
      · simp only [List.length_nil]; omega
      · simp only [List.length_append, List.length_cons, List.length_nil]; omega
theorem wb_of {k : Nat} (h : k < 4) : wb k = 1 ∨ wb k = 2 ∨ wb k = 4 ∨ wb k = 8 := by
  rcases (show k = 0 ∨ k = 1 ∨ k = 2 ∨ k = 3 by omega) with rfl | rfl | rfl | rfl <;> decide
theorem words_all : wordsT.take 4 = wordsT := rfl

set_option maxHeartbeats 8000000 in
set_option maxRecDepth 100000 in
theorem twrite_any (t : Tly) (v : Value) (w : World) (hf : FitT t) (h : RowSp w v t.all) (hl : t.all.length ≤ 1048576) (hp : PowT w) (ht : WTab w) :
    Calls Tryz.prog 7 #[tlV t v] w fun e w' => e = .returned (.tuple #[.string ⟨(writeT t).1.toArray⟩, .int .i64 ((writeT t).2 : Int)]) ∧ Below w.heap.size w w' := by
  have hA : Below w.heap.size w (w.alloc (.cells (tlC t v) 28)) := (Below.refl _ w).alloc (Nat.le_refl _) _
  have HA := hide hA
  have HK := hide (Blk.new w 28 (tlC t v))
  have HI := hide (isRight_any t v _ hf (RowSp.below h hA) hl)
  have HRM : Hid (rightT t = true → 0 ≤ t.many) := hide right_many
  have HFIT : Hid (∀ x ∈ t.all, FitS x) := hide (by obtain ⟨_, _, _, _, hfit, _⟩ := id h; exact hfit)
  have HLEN := hide (fun k (hk : k ≤ 4) => bT_len hf (unhide HFIT) k hk)
  have HNX := hide (fun k (hk : k < 4) => bT_next t hk)
  have HTX := hide (fun W (hb : Below w.heap.size w W) (k : Nat) (q : Int) (hq : q = (k : Int)) (hk : k = 1 ∨ k = 2 ∨ k = 4 ∨ k = 8) (hm : 0 ≤ t.many) => textOf_any t v k q hq W hk hf hm (RowSp.below h hb) (hp.below hb))
  have HWT := hide (fun W (hb : Below w.heap.size w W) => load_words (ht.below hb))
  have HTL := hide (fun k => textT_len (k := k) hf (unhide HFIT))
  obtain ⟨R, hR⟩ : ∃ R, writeT t = R := ⟨_, rfl⟩
  rw [hR]
  have HR : Hid (R = if rightT t = true then (bT t 4, 0) else ([], 2)) := hide (by rw [← hR]; rfl)
  generalize rightT t = G at HI HRM HR
  obtain ⟨wt, mn, lo, hi, al⟩ := t
  simp only [tlV, tlC] at HA HK HI HTX ⊢
  clear hR hA h hl hp ht HFIT
  go_enter Tryz.func7, Tryz.ntmps7
  go_wp2_with fail
  refine (unhide HI).mono ?_
  rintro e w1 ⟨rfl, hb1⟩
  have HB := hide (belows' (unhide HA) hb1)
  have HK1 := hide ((unhide HK).below hb1)
  clear hb1 HI HK HA
  cases G with
  | false =>
    have HE : Hid (R = ([], 2)) := hide (by rw [unhide HR]; rfl)
    clear HR HRM HLEN HNX HTX HWT
    go_wp2
    go_ret2
    exact ⟨by rw [unhide HE]; rfl, unhide HB⟩
  | true =>
    have HE : Hid (R = (bT ⟨wt, mn, lo, hi, al⟩ 4, 0)) := hide (by rw [unhide HR]; rfl)
    have hmn := unhide HRM rfl
    have HMN := hide hmn
    have HW0 := hide (Wr.new w1)
    have HLD := hide (unhide HWT _ ((unhide HB).trans ((Below.alloc (Below.refl _ w1) (Nat.le_refl _) (.cells #[.pointer none, .slice none 0 0] 54)).mono (unhide HB).size)))
    clear HR HRM hmn HWT
    go_wp2_with (refine wpList_load_var rfl 56 _ rfl ⟨0, 0, none⟩ rfl _ (unhide HLD) ?_)
    go_loopw [6, 7, 12] (fun _ _ z wr => ∃ k : Nat, z = .int .i64 k ∧ k ≤ 4 ∧ Hid (Wr w1 wr (bT ⟨wt, mn, lo, hi, al⟩ k))) (fun _ _ z _ => 4 - (intOf z).toNat)
    case atStart => exact ⟨0, rfl, Nat.zero_le _, HW0⟩
    case round =>
      obtain ⟨k, rfl, hk, HW⟩ := hrel
      clear HLD HW0
      by_cases hlt : k < 4
      · have hix := index_words k hlt
        have hnz := wn_size k
        have hwl := wb_lt k
        have HWO := hide (wb_of hlt)
        have HNX1 := hide (unhide HNX k hlt)
        have hlen := unhide HLEN k hk
        generalize bT ⟨wt, mn, lo, hi, al⟩ k = B at HW HNX1 hlen
        have hBW := (unhide HB).trans ((unhide HW).bel.mono (unhide HB).size)
        have hbx := (unhide HK1).below (unhide HW).bel
        have HX1 := hide (WrX.new (unhide HW) 55 #[.string (wn k), .int .u8 (wb k : Int)])
        have hal := Below.alloc (Below.refl _ wr) (Nat.le_refl _) (.cells #[.string (wn k), .int .u8 (wb k : Int)] 55)
        have HTX1 := hide (unhide HTX _ (hBW.trans (hal.mono hBW.size)) (wb k) _ rfl (unhide HWO) (unhide HMN))
        have HTL1 := hide (unhide HTL (wb k))
        have HBX := hide (hbx.below hal)
        have HBW := hide (hBW.trans (hal.mono hBW.size))
        clear hBW hbx hal HTX HNX HLEN HTL HW
        generalize wn k = x at hix hnz HX1 HTX1 HNX1 HBX HBW
        generalize wb k = y at hix hwl HX1 HTX1 HNX1 HTL1 HBX HBW HWO
        obtain ⟨V, hV⟩ : ∃ V, V = wr.alloc (.cells #[.string x, .int .u8 (y : Int)] 55) := ⟨_, rfl⟩
        rw [← hV] at HX1 HTX1 HBX HBW
        have HV := hide hV
        clear hV
        go_upto_region 7 with (fail)
        rw [← unhide HV]
        obtain ⟨K, hK⟩ : ∃ K, K = wr.heap.size := ⟨_, rfl⟩
        rw [← hK] at HX1 ⊢
        clear hK HV
        have HST : Hid (bT ⟨wt, mn, lo, hi, al⟩ (k + 1) = if textT ⟨wt, mn, lo, hi, al⟩ y = [] then B else (if B = [] then [] else B ++ [32]) ++ (x.data.toList ++ 32 :: textT ⟨wt, mn, lo, hi, al⟩ y)) := hide (unhide HNX1)
        have htl := unhide HTL1
        generalize textT ⟨wt, mn, lo, hi, al⟩ y = TX at HTX1 HST htl
        have d0 := (unhide HBX).cell 0
        have d1 := (unhide HBX).cell 1
        have d2 := (unhide HBX).cell 2
        have d3 := (unhide HBX).cell 3
        have d4 := (unhide HBX).cell 4
        have e0 := (unhide HX1).box.cell 0
        have e1 := (unhide HX1).box.cell 1
        simp only [List.getElem?_toArray, List.getElem?_cons_succ, List.getElem?_cons_zero] at d0 d1 d2 d3 d4 e0 e1
        clear HNX1 HTL1 HWO
        go_wp2_with fail
        refine (unhide HTX1).mono ?_
        rintro e w2 ⟨rfl, hb2⟩
        have HX2 := hide ((unhide HX1).below hb2)
        clear d0 d1 d2 d3 d4 e0 e1 HTX1 HX1 HBX HBW hb2
        by_cases hz : TX = []
        · have HN2 : Hid (Wr w1 w2 (bT ⟨wt, mn, lo, hi, al⟩ (k + 1))) := hide (by rw [unhide HST, if_pos hz]; exact (unhide HX2).wr)
          rw [hz]
          clear HST hz
          go_wp2
          exact ⟨⟨k + 1, by go_num, by omega, HN2⟩, by simp [intOf]; omega⟩
        · have pz : ¬ ((⟨TX.toArray⟩ : ByteArray) = ⟨#[]⟩) := by
            intro h9
            have := congrArg (fun z => z.data.toList) h9
            simp at this
            exact hz this
          have pz2 := beqS (⟨TX.toArray⟩ : ByteArray) ⟨#[]⟩
          rw [decide_eq_false pz] at pz2
          have pz3 : (⟨TX.toArray⟩ : ByteArray).toList.isEmpty = false := by rw [ByteArray.toList_eq]; cases TX with | nil => exact absurd rfl hz | cons a r => rfl
          have HST2 := hide (show bT ⟨wt, mn, lo, hi, al⟩ (k + 1) = (if B = [] then [] else B ++ [32]) ++ (x.data.toList ++ 32 :: TX) by rw [unhide HST, if_neg hz])
          have HLN := hide (Tryz.Builder_Len_f _ _ _ w2 (unhide HX2).wr.isb)
          rw [Lib.byteCells_length] at HLN
          obtain ⟨TB, hTB⟩ : ∃ TB : ByteArray, TB = ⟨TX.toArray⟩ := ⟨_, rfl⟩
          rw [← hTB] at pz pz2 pz3 ⊢
          have hTBl : TB.data.toList = TX := by rw [hTB]
          have hTBs : TB.size = TX.length := by rw [hTB]; rfl
          have HTB := hide hTBl
          clear HST hz hTB hTBl
          go_wp2_with fail
          refine (unhide HLN).mono ?_
          rintro e w3 ⟨rfl, rfl⟩
          by_cases hB0 : B = []
          · have hlB : ¬ 0 < B.length := by rw [hB0]; simp
            have e0 := (unhide HX2).box.cell 0
            simp only [List.getElem?_toArray, List.getElem?_cons_succ, List.getElem?_cons_zero] at e0
            have HS3 := hide (fun (z : ByteArray) (hz : z.size ≤ 100000) => xStr (unhide HX2) (by decide) z (by omega))
            have HST3 := hide (show ∀ z : ByteArray, z.data.toList = x.data.toList ++ 32 :: TX → B ++ z.data.toList = bT ⟨wt, mn, lo, hi, al⟩ (k + 1) from fun z hz => by rw [unhide HST2, if_pos hB0, hB0, hz])
            clear HLN HX2 HST2 hB0
            go_wp2_with fail
            refine (unhide HS3 _ ?_).mono ?_
            · simp only [ByteArray.size_append]
              have : (⟨#[32]⟩ : ByteArray).size = 1 := rfl
              omega
            rintro e w4 ⟨rfl, hw4⟩
            have HN2 : Hid (Wr w1 w4 (bT ⟨wt, mn, lo, hi, al⟩ (k + 1))) := hide (by
              rw [← unhide HST3 _ ?_]
              · exact hw4.wr
              · rw [ByteArray.data_append, Array.toList_append, ByteArray.data_append, Array.toList_append, unhide HTB]; simp)
            clear HS3 hw4
            go_wp2
            exact ⟨⟨k + 1, by go_num, by omega, HN2⟩, by simp [intOf]; omega⟩
          · have hlB : 0 < B.length := List.length_pos_iff.2 hB0
            have HS2 := hide (xStr (unhide HX2) (by decide) ⟨#[32]⟩ (by have : (⟨#[32]⟩ : ByteArray).size = 1 := rfl; omega))
            clear HLN HX2
            go_wp2_with fail
            refine (unhide HS2).mono ?_
            rintro e w4 ⟨rfl, hw4⟩
            have e0 := hw4.box.cell 0
            simp only [List.getElem?_toArray, List.getElem?_cons_succ, List.getElem?_cons_zero] at e0
            have HS3 := hide (fun (z : ByteArray) (hz : z.size ≤ 100000) => xStr hw4 (by decide) z (by rw [List.length_append, List.length_singleton]; omega))
            have HST3 := hide (show ∀ z : ByteArray, z.data.toList = x.data.toList ++ 32 :: TX → B ++ (⟨#[32]⟩ : ByteArray).data.toList ++ z.data.toList = bT ⟨wt, mn, lo, hi, al⟩ (k + 1) from fun z hz => by rw [unhide HST2, if_neg hB0, hz])
            clear HS2 hw4 HST2 hB0
            go_wp2_with fail
            refine (unhide HS3 _ ?_).mono ?_
            · simp only [ByteArray.size_append]
              have : (⟨#[32]⟩ : ByteArray).size = 1 := rfl
              omega
            rintro e w5 ⟨rfl, hw5⟩
            have HN2 : Hid (Wr w1 w5 (bT ⟨wt, mn, lo, hi, al⟩ (k + 1))) := hide (by
              rw [← unhide HST3 _ ?_]
              · exact hw5.wr
              · rw [ByteArray.data_append, Array.toList_append, ByteArray.data_append, Array.toList_append, unhide HTB]; simp)
            clear HS3 hw5
            go_wp2
            exact ⟨⟨k + 1, by go_num, by omega, HN2⟩, by simp [intOf]; omega⟩
      · have hk4 : k = 4 := by omega
        subst hk4
        have HSTR := hide (Tryz.Builder_String_any_f _ _ _ wr (unhide HW).isb (unhide HW).bel.size)
        have HBW := hide ((unhide HB).trans ((unhide HW).bel.mono (unhide HB).size))
        clear HW HNX HLEN HTX HTL
        generalize bT ⟨wt, mn, lo, hi, al⟩ 4 = AC at HSTR HE
        go_wp2_with fail
        refine (unhide HSTR).mono ?_
        rintro e w2 ⟨rfl, _, hb2⟩
        have HB2 := hide ((unhide HBW).trans (hb2.mono (unhide HB).size))
        clear hb2 HSTR
        go_wp2
        go_ret2
        exact ⟨by rw [unhide HE]; rfl, unhide HB2⟩
end Go.Proofs.YtlolilhlpbpfjaaGreatDoor

/-
  What strings.CutPrefix at whatever text, and tally.read do, over this seat's program.
-/
set_option linter.unusedVariables false
set_option linter.unusedSimpArgs false
namespace Go.Proofs.YtlolilhlpbpfjaaGreatDoor
open Go.RowKit Go.Proofs.Nst

/-- What is behind a text that another one begins with, or all. -/
def cutPB (s p : ByteArray) : ByteArray := if Lib.hasPrefix s.data.toList p.data.toList = true then s.extract p.size s.size else s
theorem hasPrefix_len {a b : List UInt8} (h : Lib.hasPrefix a b = true) : b.length ≤ a.length := by
  unfold Lib.hasPrefix at h
  have := List.isPrefixOf_iff_prefix.1 h
  exact this.length_le
theorem cutPB_list (s p : ByteArray) : (cutPB s p).data.toList = if Lib.hasPrefix s.data.toList p.data.toList = true then s.data.toList.drop p.data.toList.length else s.data.toList := by
  unfold cutPB
  split
  · rename_i h
    have hl := hasPrefix_len h
    rw [ByteArray.data_extract, Array.toList_extract, List.extract_eq_take_drop]
    rw [List.take_of_length_le]
    · rfl
    · rw [List.length_drop]; exact Nat.le_refl _
  · rfl
theorem cutPB_size (s p : ByteArray) : (cutPB s p).size ≤ s.size := by
  have h := congrArg List.length (cutPB_list s p)
  have e1 : (cutPB s p).data.toList.length = (cutPB s p).size := rfl
  have e2 : s.data.toList.length = s.size := rfl
  split at h
  · rw [List.length_drop] at h; omega
  · omega

set_option maxHeartbeats 1000000 in
theorem cutPL_any (s p : ByteArray) (w : World) (hs : s.size ≤ 281474976710656) :
    Calls Tryz.prog 39 #[.string s, .string p] w fun e w' => e = .returned (.tuple #[.string (cutPB s p), .bool (Lib.hasPrefix s.data.toList p.data.toList)]) ∧ w' = w := by
  have HP := hide (fun W => Tryz.stringslite_HasPrefix s p W)
  cases h : Lib.hasPrefix s.data.toList p.data.toList with
  | true =>
    rw [h] at HP
    have e : cutPB s p = s.extract p.size s.size := by unfold cutPB; rw [if_pos h]
    have hl : p.size ≤ s.size := hasPrefix_len h
    rw [e]
    have HS := fun W => slice_from s (p.size : Int) p.size rfl hl W
    clear h
    go_enter Tryz.func39, Tryz.ntmps39
    go_wp2_with (go_at_call 55; refine (unhide HP _).mono ?_; rintro e _ ⟨rfl, rfl⟩)
    go_ret2
    exact ⟨rfl, rfl⟩
  | false =>
    rw [h] at HP
    have e : cutPB s p = s := by unfold cutPB; rw [if_neg (by rw [h]; simp)]
    rw [e]
    clear h
    go_enter Tryz.func39, Tryz.ntmps39
    go_wp2_with (go_at_call 55; refine (unhide HP _).mono ?_; rintro e _ ⟨rfl, rfl⟩)
    go_ret2
    exact ⟨rfl, rfl⟩
set_option maxHeartbeats 1000000 in
theorem cutP_any (s p : ByteArray) (w : World) (hs : s.size ≤ 281474976710656) :
    Calls Tryz.prog 21 #[.string s, .string p] w fun e w' => e = .returned (.tuple #[.string (cutPB s p), .bool (Lib.hasPrefix s.data.toList p.data.toList)]) ∧ w' = w := by
  have HP := hide (fun W => cutPL_any s p W hs)
  generalize Lib.hasPrefix s.data.toList p.data.toList = r at HP ⊢
  generalize cutPB s p = t at HP ⊢
  go_enter Tryz.func21, Tryz.ntmps21
  go_wp2_with (go_at_call 39; refine (unhide HP _).mono ?_; rintro e _ ⟨rfl, rfl⟩)
  go_ret2
  exact ⟨rfl, rfl⟩

theorem nText_le (s : List UInt8) : nText s ≤ 4294967295 := by
  unfold nText
  split
  · exact parse_fit32 ‹_›
  · omega
theorem parse_num (s : ByteArray) (w : World) (hE : ErrN w) (hs : s.size ≤ 281474976710656) :
    Calls Tryz.prog 41 #[.string s, .int .i64 10, .int .i64 32] w fun e w' => (e = .returned (.tuple #[.int .u64 (nText s.data.toList : Int), .nilIface]) ∨ (nText s.data.toList = 0 ∧ ∃ (m : Int) (t : TypeId) (p : Value), e = .returned (.tuple #[.int .u64 m, .iface t p]))) ∧ Below w.heap.size w w' := by
  refine (parse_any s w hE hs).mono ?_
  rintro e w' ⟨h, hb⟩
  refine ⟨?_, hb⟩
  unfold nText
  cases hp : Lib.parseUintB 32 s.data.toList with
  | ok u => rw [hp] at h; exact Or.inl h
  | range => rw [hp] at h; obtain ⟨t, p, he⟩ := h; exact Or.inr ⟨rfl, _, t, p, he⟩
  | _ => rw [hp] at h; obtain ⟨t, p, he⟩ := h; exact Or.inr ⟨rfl, _, t, p, he⟩

theorem own_low {w : World} {C B e k n : Nat} {v : Value} {xs : List Value} (h : w.ownsRow C e k v n xs) (hB : B ≤ C) : w.ownsRow B e k v n xs := by
  refine ⟨h.1, ?_⟩
  rcases h.2 with h | ⟨g, cap, cur, hv, hg, rest⟩
  · exact Or.inl h
  · exact Or.inr ⟨g, cap, cur, hv, Nat.le_trans hB hg, rest⟩
/-- A tally at work, with what it has in All. -/
structure PS (w W : World) (C : Nat) (t : Tly) (v : Value) : Prop where
  os : OS w W C (tlC t v)
  own : W.ownsRow w.heap.size 49 2 v t.all.length (flatG cellsS t.all)
  fit : ∀ x ∈ t.all, FitS x
theorem PS.below {w W W' : World} {C : Nat} {t : Tly} {v : Value} (h : PS w W C t v) (hb : Below W.heap.size W W') : PS w W' C t v :=
  ⟨h.os.below hb, own_below h.own hb, h.fit⟩
theorem PS.cell {w W : World} {C : Nat} {t t' : Tly} {v : Value} (h : PS w W C t v) (i : Nat) (u : Value) (hc : (tlC t v).setIfInBounds i u = tlC t' v) (ha : t'.all = t.all) : PS w (W.setCell ⟨C, i, none⟩ u) C t' v := by
  refine ⟨?_, ?_, by rw [ha]; exact h.fit⟩
  · rw [← hc]; exact h.os.set i u
  · rw [ha]; exact own_setT h.own h.os.k1 (by decide)

set_option maxHeartbeats 8000000 in
set_option maxRecDepth 100000 in
theorem read_any (w W : World) (C : Nat) (t : Tly) (v : Value) (k : Nat) (q : Int) (hq : q = (k : Int)) (s : ByteArray) (h : PS w W C t v) (hE : ErrN W) (hk : k = 1 ∨ k = 2 ∨ k = 4 ∨ k = 8) (hs : s.size ≤ 1048576) :
    Calls Tryz.prog 23 #[.pointer (some ⟨C, 0, none⟩), .int .u8 q, .string s] W fun e W' => e = .returned (.tuple #[]) ∧ ∃ v', PS w W' C (readT t k s.data.toList) v' := by
  have HPN := hide (parse_num s W hE (by omega))
  have HNP := hide (fun X (hb : Below W.heap.size W X) => nparse_any s X (hE.below hb) (by omega))
  have hnl := nText_le s.data.toList
  have HPF : Hid (∀ x ∈ (parseP s.data.toList).1, FitS x) := hide (parse_fit _)
  have HH := hide h
  obtain ⟨wt, mn, lo, hi, al⟩ := t
  obtain ⟨R, hR⟩ : ∃ R, readT ⟨wt, mn, lo, hi, al⟩ k s.data.toList = R := ⟨_, rfl⟩
  rw [hR]
  have HR : Hid (R = if k = 1 then ⟨wt, mn, nText s.data.toList, hi, al⟩ else if k = 2 then ⟨wt, mn, lo, nText s.data.toList, al⟩ else if k = 4 then ⟨wt, mn, lo, hi, (parseP s.data.toList).1⟩ else if k = 8 then ⟨wt, (nText s.data.toList : Int), lo, hi, al⟩ else ⟨wt, mn, lo, hi, al⟩) := hide (by rw [← hR]; rfl)
  have hB := h.os.bel.size
  clear hR h hE
  generalize nText s.data.toList = n at HPN HR hnl
  generalize parseP s.data.toList = P at HNP HPF HR
  obtain ⟨PL, pe⟩ := P
  simp only at HNP HPF HR
  have w1 : IntKind.u32.wrap (n : Int) = (n : Int) := by rw [IntKind.wrap_u32]; omega
  have w2 : IntKind.i64.wrap (n : Int) = (n : Int) := by rw [IntKind.wrap_i64]; omega
  rcases hk with rfl | rfl | rfl | rfl
  · have hq1 : q = 1 := hq
    clear hq
    subst hq1
    go_enter Tryz.func23, Tryz.ntmps23
    go_wp2_with fail
    refine (unhide HPN).mono ?_
    rintro e w1 ⟨he, hb1⟩
    have HH1 := hide ((unhide HH).below hb1)
    have HB1 := hide hb1
    clear hb1 HPN HH
    rcases he with rfl | ⟨rfl, m, ty, pv, rfl⟩
    · have HE : Hid (R = ({ want := wt, many := mn, least := n, most := hi, all := al } : Tly)) := hide (by rw [unhide HR]; simp)
      have HC := hide ((unhide HH1).cell (t' := ({ want := wt, many := mn, least := n, most := hi, all := al } : Tly)) 2 (.int .u32 (n : Int)) (by simp [tlC]) rfl)
      clear HR
      have c0 := (unhide HH1).os.k1.cell 0
      have c1 := (unhide HH1).os.k1.cell 1
      have c2 := (unhide HH1).os.k1.cell 2
      have c3 := (unhide HH1).os.k1.cell 3
      have c4 := (unhide HH1).os.k1.cell 4
      have f0 := (unhide HH1).os.k1.frozen 0
      have f1 := (unhide HH1).os.k1.frozen 1
      have f2 := (unhide HH1).os.k1.frozen 2
      have f3 := (unhide HH1).os.k1.frozen 3
      have f4 := (unhide HH1).os.k1.frozen 4
      simp only [tlC, List.getElem?_toArray, List.getElem?_cons_succ, List.getElem?_cons_zero] at c0 c1 c2 c3 c4
      go_wp2
      refine bodyPost_end (results_none rfl _ _ _) rfl ?_
      exact ⟨rfl, _, by rw [unhide HE]; exact unhide HC⟩
    · have HE : Hid (R = ({ want := wt, many := mn, least := 0, most := hi, all := al } : Tly)) := hide (by rw [unhide HR]; simp)
      have HC := hide ((unhide HH1).cell (t' := ({ want := wt, many := mn, least := 0, most := hi, all := al } : Tly)) 2 (.int .u32 0) (by simp [tlC]) rfl)
      clear HR
      have c0 := (unhide HH1).os.k1.cell 0
      have c1 := (unhide HH1).os.k1.cell 1
      have c2 := (unhide HH1).os.k1.cell 2
      have c3 := (unhide HH1).os.k1.cell 3
      have c4 := (unhide HH1).os.k1.cell 4
      have f0 := (unhide HH1).os.k1.frozen 0
      have f1 := (unhide HH1).os.k1.frozen 1
      have f2 := (unhide HH1).os.k1.frozen 2
      have f3 := (unhide HH1).os.k1.frozen 3
      have f4 := (unhide HH1).os.k1.frozen 4
      simp only [tlC, List.getElem?_toArray, List.getElem?_cons_succ, List.getElem?_cons_zero] at c0 c1 c2 c3 c4
      go_wp2
      refine bodyPost_end (results_none rfl _ _ _) rfl ?_
      exact ⟨rfl, _, by rw [unhide HE]; exact unhide HC⟩
  · have hq1 : q = 2 := hq
    clear hq
    subst hq1
    go_enter Tryz.func23, Tryz.ntmps23
    go_wp2_with fail
    refine (unhide HPN).mono ?_
    rintro e w1 ⟨he, hb1⟩
    have HH1 := hide ((unhide HH).below hb1)
    have HB1 := hide hb1
    clear hb1 HPN HH
    rcases he with rfl | ⟨rfl, m, ty, pv, rfl⟩
    · have HE : Hid (R = ({ want := wt, many := mn, least := lo, most := n, all := al } : Tly)) := hide (by rw [unhide HR]; simp)
      have HC := hide ((unhide HH1).cell (t' := ({ want := wt, many := mn, least := lo, most := n, all := al } : Tly)) 3 (.int .u32 (n : Int)) (by simp [tlC]) rfl)
      clear HR
      have c0 := (unhide HH1).os.k1.cell 0
      have c1 := (unhide HH1).os.k1.cell 1
      have c2 := (unhide HH1).os.k1.cell 2
      have c3 := (unhide HH1).os.k1.cell 3
      have c4 := (unhide HH1).os.k1.cell 4
      have f0 := (unhide HH1).os.k1.frozen 0
      have f1 := (unhide HH1).os.k1.frozen 1
      have f2 := (unhide HH1).os.k1.frozen 2
      have f3 := (unhide HH1).os.k1.frozen 3
      have f4 := (unhide HH1).os.k1.frozen 4
      simp only [tlC, List.getElem?_toArray, List.getElem?_cons_succ, List.getElem?_cons_zero] at c0 c1 c2 c3 c4
      go_wp2
      refine bodyPost_end (results_none rfl _ _ _) rfl ?_
      exact ⟨rfl, _, by rw [unhide HE]; exact unhide HC⟩
    · have HE : Hid (R = ({ want := wt, many := mn, least := lo, most := 0, all := al } : Tly)) := hide (by rw [unhide HR]; simp)
      have HC := hide ((unhide HH1).cell (t' := ({ want := wt, many := mn, least := lo, most := 0, all := al } : Tly)) 3 (.int .u32 0) (by simp [tlC]) rfl)
      clear HR
      have c0 := (unhide HH1).os.k1.cell 0
      have c1 := (unhide HH1).os.k1.cell 1
      have c2 := (unhide HH1).os.k1.cell 2
      have c3 := (unhide HH1).os.k1.cell 3
      have c4 := (unhide HH1).os.k1.cell 4
      have f0 := (unhide HH1).os.k1.frozen 0
      have f1 := (unhide HH1).os.k1.frozen 1
      have f2 := (unhide HH1).os.k1.frozen 2
      have f3 := (unhide HH1).os.k1.frozen 3
      have f4 := (unhide HH1).os.k1.frozen 4
      simp only [tlC, List.getElem?_toArray, List.getElem?_cons_succ, List.getElem?_cons_zero] at c0 c1 c2 c3 c4
      go_wp2
      refine bodyPost_end (results_none rfl _ _ _) rfl ?_
      exact ⟨rfl, _, by rw [unhide HE]; exact unhide HC⟩
  · have hq1 : q = 4 := hq
    clear hq
    subst hq1
    go_enter Tryz.func23, Tryz.ntmps23
    go_wp2_with fail
    refine (unhide HPN).mono ?_
    rintro e w1 ⟨he, hb1⟩
    have HH1 := hide ((unhide HH).below hb1)
    have HB1 := hide hb1
    clear hb1 HPN HH
    rcases he with rfl | ⟨rfl, m, ty, pv, rfl⟩
    · have HE : Hid (R = ({ want := wt, many := mn, least := lo, most := hi, all := PL } : Tly)) := hide (by rw [unhide HR]; simp)
      clear HR
      have c0 := (unhide HH1).os.k1.cell 0
      have c1 := (unhide HH1).os.k1.cell 1
      have c2 := (unhide HH1).os.k1.cell 2
      have c3 := (unhide HH1).os.k1.cell 3
      have c4 := (unhide HH1).os.k1.cell 4
      have f0 := (unhide HH1).os.k1.frozen 0
      have f1 := (unhide HH1).os.k1.frozen 1
      have f2 := (unhide HH1).os.k1.frozen 2
      have f3 := (unhide HH1).os.k1.frozen 3
      have f4 := (unhide HH1).os.k1.frozen 4
      simp only [tlC, List.getElem?_toArray, List.getElem?_cons_succ, List.getElem?_cons_zero] at c0 c1 c2 c3 c4
      go_wp2_with fail
      refine (unhide HNP _ (unhide HB1)).mono ?_
      rintro e w2 ⟨vp, rfl, ho2, hb2⟩
      have HH2 := hide ((unhide HH1).below hb2)
      obtain ⟨ap, cp, rfl, _⟩ := own_sliceG ho2
      have hbz := (unhide HB1).size
      have HPS : Hid (PS w (w2.setCell ⟨C, 4, none⟩ (.slice ap PL.length cp)) C ⟨wt, mn, lo, hi, PL⟩ (.slice ap PL.length cp)) := hide ⟨by have := (unhide HH2).os.set 4 (.slice ap PL.length cp); simpa [tlC] using this, own_setT (own_low ho2 (by omega)) (unhide HH2).os.k1 (by decide), unhide HPF⟩
      clear ho2 hb2 hbz c0 c1 c2 c3 c4 f0 f1 f2 f3 f4
      have c0 := (unhide HH2).os.k1.cell 0
      have c1 := (unhide HH2).os.k1.cell 1
      have c2 := (unhide HH2).os.k1.cell 2
      have c3 := (unhide HH2).os.k1.cell 3
      have c4 := (unhide HH2).os.k1.cell 4
      have f0 := (unhide HH2).os.k1.frozen 0
      have f1 := (unhide HH2).os.k1.frozen 1
      have f2 := (unhide HH2).os.k1.frozen 2
      have f3 := (unhide HH2).os.k1.frozen 3
      have f4 := (unhide HH2).os.k1.frozen 4
      simp only [tlC, List.getElem?_toArray, List.getElem?_cons_succ, List.getElem?_cons_zero] at c0 c1 c2 c3 c4
      generalize PL.length = pn at HPS ⊢
      go_wp2
      refine bodyPost_end (results_none rfl _ _ _) rfl ?_
      exact ⟨rfl, _, by rw [unhide HE]; exact unhide HPS⟩
    · have HE : Hid (R = ({ want := wt, many := mn, least := lo, most := hi, all := PL } : Tly)) := hide (by rw [unhide HR]; simp)
      clear HR
      have c0 := (unhide HH1).os.k1.cell 0
      have c1 := (unhide HH1).os.k1.cell 1
      have c2 := (unhide HH1).os.k1.cell 2
      have c3 := (unhide HH1).os.k1.cell 3
      have c4 := (unhide HH1).os.k1.cell 4
      have f0 := (unhide HH1).os.k1.frozen 0
      have f1 := (unhide HH1).os.k1.frozen 1
      have f2 := (unhide HH1).os.k1.frozen 2
      have f3 := (unhide HH1).os.k1.frozen 3
      have f4 := (unhide HH1).os.k1.frozen 4
      simp only [tlC, List.getElem?_toArray, List.getElem?_cons_succ, List.getElem?_cons_zero] at c0 c1 c2 c3 c4
      go_wp2_with fail
      refine (unhide HNP _ (unhide HB1)).mono ?_
      rintro e w2 ⟨vp, rfl, ho2, hb2⟩
      have HH2 := hide ((unhide HH1).below hb2)
      obtain ⟨ap, cp, rfl, _⟩ := own_sliceG ho2
      have hbz := (unhide HB1).size
      have HPS : Hid (PS w (w2.setCell ⟨C, 4, none⟩ (.slice ap PL.length cp)) C ⟨wt, mn, lo, hi, PL⟩ (.slice ap PL.length cp)) := hide ⟨by have := (unhide HH2).os.set 4 (.slice ap PL.length cp); simpa [tlC] using this, own_setT (own_low ho2 (by omega)) (unhide HH2).os.k1 (by decide), unhide HPF⟩
      clear ho2 hb2 hbz c0 c1 c2 c3 c4 f0 f1 f2 f3 f4
      have c0 := (unhide HH2).os.k1.cell 0
      have c1 := (unhide HH2).os.k1.cell 1
      have c2 := (unhide HH2).os.k1.cell 2
      have c3 := (unhide HH2).os.k1.cell 3
      have c4 := (unhide HH2).os.k1.cell 4
      have f0 := (unhide HH2).os.k1.frozen 0
      have f1 := (unhide HH2).os.k1.frozen 1
      have f2 := (unhide HH2).os.k1.frozen 2
      have f3 := (unhide HH2).os.k1.frozen 3
      have f4 := (unhide HH2).os.k1.frozen 4
      simp only [tlC, List.getElem?_toArray, List.getElem?_cons_succ, List.getElem?_cons_zero] at c0 c1 c2 c3 c4
      generalize PL.length = pn at HPS ⊢
      go_wp2
      refine bodyPost_end (results_none rfl _ _ _) rfl ?_
      exact ⟨rfl, _, by rw [unhide HE]; exact unhide HPS⟩
  · have hq1 : q = 8 := hq
    clear hq
    subst hq1
    go_enter Tryz.func23, Tryz.ntmps23
    go_wp2_with fail
    refine (unhide HPN).mono ?_
    rintro e w1 ⟨he, hb1⟩
    have HH1 := hide ((unhide HH).below hb1)
    have HB1 := hide hb1
    clear hb1 HPN HH
    rcases he with rfl | ⟨rfl, m, ty, pv, rfl⟩
    · have HE : Hid (R = ({ want := wt, many := (n : Int), least := lo, most := hi, all := al } : Tly)) := hide (by rw [unhide HR]; simp)
      have HC := hide ((unhide HH1).cell (t' := ({ want := wt, many := (n : Int), least := lo, most := hi, all := al } : Tly)) 1 (.int .i64 (n : Int)) (by simp [tlC]) rfl)
      clear HR
      have c0 := (unhide HH1).os.k1.cell 0
      have c1 := (unhide HH1).os.k1.cell 1
      have c2 := (unhide HH1).os.k1.cell 2
      have c3 := (unhide HH1).os.k1.cell 3
      have c4 := (unhide HH1).os.k1.cell 4
      have f0 := (unhide HH1).os.k1.frozen 0
      have f1 := (unhide HH1).os.k1.frozen 1
      have f2 := (unhide HH1).os.k1.frozen 2
      have f3 := (unhide HH1).os.k1.frozen 3
      have f4 := (unhide HH1).os.k1.frozen 4
      simp only [tlC, List.getElem?_toArray, List.getElem?_cons_succ, List.getElem?_cons_zero] at c0 c1 c2 c3 c4
      go_wp2
      refine bodyPost_end (results_none rfl _ _ _) rfl ?_
      exact ⟨rfl, _, by rw [unhide HE]; exact unhide HC⟩
    · have HE : Hid (R = ({ want := wt, many := 0, least := lo, most := hi, all := al } : Tly)) := hide (by rw [unhide HR]; simp)
      have HC := hide ((unhide HH1).cell (t' := ({ want := wt, many := 0, least := lo, most := hi, all := al } : Tly)) 1 (.int .i64 0) (by simp [tlC]) rfl)
      clear HR
      have c0 := (unhide HH1).os.k1.cell 0
      have c1 := (unhide HH1).os.k1.cell 1
      have c2 := (unhide HH1).os.k1.cell 2
      have c3 := (unhide HH1).os.k1.cell 3
      have c4 := (unhide HH1).os.k1.cell 4
      have f0 := (unhide HH1).os.k1.frozen 0
      have f1 := (unhide HH1).os.k1.frozen 1
      have f2 := (unhide HH1).os.k1.frozen 2
      have f3 := (unhide HH1).os.k1.frozen 3
      have f4 := (unhide HH1).os.k1.frozen 4
      simp only [tlC, List.getElem?_toArray, List.getElem?_cons_succ, List.getElem?_cons_zero] at c0 c1 c2 c3 c4
      go_wp2
      refine bodyPost_end (results_none rfl _ _ _) rfl ?_
      exact ⟨rfl, _, by rw [unhide HE]; exact unhide HC⟩
end Go.Proofs.YtlolilhlpbpfjaaGreatDoor

/-
  What tally.Parse tells, over this seat's program.
-/
set_option linter.unusedVariables false
set_option linter.unusedSimpArgs false
namespace Go.Proofs.YtlolilhlpbpfjaaGreatDoor
open Go.RowKit Go.Proofs.Nst

/-- What is read of the first words, and what is left. -/
def pT (wt : Nat) (s : List UInt8) (k : Nat) : Tly × List UInt8 := (wordsT.take k).foldl stepP ((⟨wt, 0, 0, 0, []⟩ : Tly), s)
theorem pT_next (wt : Nat) (s : List UInt8) {k : Nat} (h : k < 4) : pT wt s (k + 1) = stepP (pT wt s k) ((wn k).data.toList, wb k) := by
  unfold pT
  rw [take_words h, List.foldl_append]
  rfl
theorem parseP_len (s : List UInt8) : (parseP s).1.length ≤ 1024 := by
  unfold parseP
  split
  · split
    · rename_i h9; simpa using h9
    · simp
  · simp
theorem readT_ok {t : Tly} {k : Nat} {s : List UInt8} (h : FitT t ∧ t.all.length ≤ 1024) : FitT (readT t k s) ∧ (readT t k s).all.length ≤ 1024 := by
  obtain ⟨⟨h1, h2, h3, h4⟩, h5⟩ := h
  have hn := nText_le s
  have hp := parseP_len s
  unfold readT
  split
  · exact ⟨⟨h1, h2, hn, h4⟩, h5⟩
  · split
    · exact ⟨⟨h1, h2, h3, hn⟩, h5⟩
    · split
      · exact ⟨⟨h1, h2, h3, h4⟩, hp⟩
      · split
        · exact ⟨⟨h1, by simp only; omega, h3, h4⟩, h5⟩
        · exact ⟨⟨h1, h2, h3, h4⟩, h5⟩
theorem pT_ok (wt : Nat) (hw : wt ≤ 255) (s : List UInt8) : ∀ k, k ≤ 4 → FitT (pT wt s k).1 ∧ (pT wt s k).1.all.length ≤ 1024
  | 0, _ => ⟨⟨hw, by simp [pT], by simp [pT], by simp [pT]⟩, by simp [pT]⟩
  | k + 1, h => by
    rw [pT_next wt s (by omega)]
    unfold stepP
    split
    · exact readT_ok (pT_ok wt hw s k (by omega))
    · exact pT_ok wt hw s k (by omega)

set_option maxHeartbeats 8000000 in
set_option maxRecDepth 100000 in
theorem tparse_any (wt : Nat) (s : ByteArray) (w : World) (hw : wt ≤ 255) (hs : s.size ≤ 1048576) (hE : ErrN w) (hp : PowT w) (ht : WTab w) :
    Calls Tryz.prog 8 #[.int .u8 (wt : Int), .string s] w fun e w' => ∃ v', e = .returned (.tuple #[tlV (parseT wt s.data.toList).1 v', .int .i64 ((parseT wt s.data.toList).2 : Int)]) ∧ RowSp w' v' (parseT wt s.data.toList).1.all ∧ Below w.heap.size w w' := by
  have ho := over15n wt hw
  obtain ⟨E, hEE⟩ : ∃ E, parseT wt s.data.toList = E := ⟨_, rfl⟩
  rw [hEE]
  by_cases hb : 15 < wt
  · rw [decide_eq_true hb] at ho
    have HA := hide (show Below w.heap.size w (w.alloc (.cells zC 28)) from (Below.refl _ w).alloc (Nat.le_refl _) _)
    have HE : Hid (E = (zT, 1)) := hide (by rw [← hEE]; unfold parseT; rw [if_pos hb])
    simp only [zC] at HA
    clear hb hEE hE hp ht
    go_enter Tryz.func8, Tryz.ntmps8
    go_wp2
    refine bodyPost_ret (v := .tuple #[.agg #[.int .u8 0, .int .i64 0, .int .u32 0, .int .u32 0, .slice none 0 0], .int .i64 1]) ?_ rfl ⟨_, by rw [unhide HE]; rfl, by rw [unhide HE]; exact RowG.nil _ _ _, unhide HA⟩
    rw [results_cell_tmp rfl]
    go_simp
  · rw [decide_eq_false hb] at ho
    have HEX : Hid (E = if writeT (pT wt s.data.toList 4).1 = (s.data.toList, 0) then ((pT wt s.data.toList 4).1, 0) else (zT, 7)) := hide (by rw [← hEE]; unfold parseT; rw [if_neg hb]; rfl)
    have HNX := hide (fun k (hk : k < 4) => pT_next wt s.data.toList hk)
    have HOK := hide (fun k (hk : k ≤ 4) => pT_ok wt hw s.data.toList k hk)
    have HWT := hide (fun W (hb : Below w.heap.size w W) => load_words (ht.below hb))
    have HER := hide (fun W (hb : Below w.heap.size w W) => hE.below hb)
    have HTW := hide (fun (t : Tly) (v : Value) (W : World) (hb : Below w.heap.size w W) (hf : FitT t) (h : RowSp W v t.all) (hl : t.all.length ≤ 1048576) => twrite_any t v W hf h hl (hp.below hb) (ht.below hb))
    have hA0 : Below w.heap.size w (w.alloc (.cells zC 28)) := (Below.refl _ w).alloc (Nat.le_refl _) _
    have HOS := hide (OS.new hA0 (Blk.new w 28 zC) #[.int .u8 (wt : Int), .int .i64 0, .int .u32 0, .int .u32 0, .slice none 0 0])
    have HPS : Hid (PS w ((w.alloc (.cells zC 28)).alloc (.cells #[.int .u8 (wt : Int), .int .i64 0, .int .u32 0, .int .u32 0, .slice none 0 0] 28)) (w.alloc (.cells zC 28)).heap.size (pT wt s.data.toList 0).1 (.slice none 0 0)) := hide ⟨unhide HOS, World.ownsRow_nil _ _ _ _, by simp [pT]⟩
    have HL0 : Hid (s.data.toList = (pT wt s.data.toList 0).2) := hide rfl
    simp only [zC, World.size_alloc] at HPS
    generalize pT wt s.data.toList = P at HEX HNX HOK HPS HL0
    have HLD := hide (unhide HWT _ (unhide HPS).os.bel)
    clear hb hEE hE hp ht hA0 HOS
    go_enter Tryz.func8, Tryz.ntmps8
    go_wp2_with (refine wpList_load_var rfl 56 _ rfl ⟨0, 0, none⟩ rfl _ (unhide HLD) ?_)
    go_loopw [7, 9, 10, 11, 12, 23] (fun y _ _ _ _ z wr => ∃ (k : Nat) (sl : ByteArray) (v : Value), y = .string sl ∧ z = .int .i64 k ∧ k ≤ 4 ∧ sl.size ≤ 1048576 ∧ Hid (sl.data.toList = (P k).2) ∧ Hid (PS w wr (w.heap.size + 1) (P k).1 v)) (fun _ _ _ _ _ z _ => 4 - (intOf z).toNat)
    case atStart => exact ⟨0, s, _, rfl, rfl, Nat.zero_le _, hs, HL0, HPS⟩
    case round =>
      obtain ⟨k, sl, v, rfl, rfl, hk, hsl, HL, HP⟩ := hrel
      clear HPS HL0 HLD
      by_cases hlt : k < 4
      · have hix := index_words k hlt
        have hnz := wn_size k
        have hwl := wb_lt k
        have HWO := hide (wb_of hlt)
        have hnx1 := unhide HNX k hlt
        have hb1 := (unhide HP).os.bel
        have HX1 := hide ((unhide HP).below ((Below.refl _ wr).alloc (Nat.le_refl _) (.cells #[.string (wn k), .int .u8 (wb k : Int)] 55)))
        have HXB := hide (Blk.new wr 55 #[.string (wn k), .int .u8 (wb k : Int)])
        have HST : Hid (P (k + 1) = if Lib.hasPrefix sl.data.toList ((wn k).data.toList ++ [32]) = true then (readT (P k).1 (wb k) (cutB 32 (sl.data.toList.drop ((wn k).data.toList.length + 1))).1, (cutB 32 (sl.data.toList.drop ((wn k).data.toList.length + 1))).2.1) else P k) := hide (by rw [hnx1]; unfold stepP; rw [← unhide HL])
        have hbX : Below w.heap.size w (wr.alloc (.cells #[.string (wn k), .int .u8 (wb k : Int)] 55)) := hb1.alloc hb1.size _
        have HBX := hide hbX
        clear hb1 hbX hnx1 HNX HP
        generalize wn k = x at hix hnz HX1 HXB HST HBX
        generalize wb k = y at hix hwl HX1 HXB HST HBX HWO
        go_upto_region 8 with (fail)
        generalize wr.alloc (.cells #[.string x, .int .u8 (y : Int)] 55) = V at HX1 HXB HBX ⊢
        generalize wr.heap.size = K at HXB ⊢
        obtain ⟨pf, hpf⟩ : ∃ pf, pf = x ++ (⟨#[32]⟩ : ByteArray) := ⟨_, rfl⟩
        have hpl : pf.data.toList = x.data.toList ++ [32] := by rw [hpf, ByteArray.data_append, Array.toList_append]
        have HPL := hide hpl
        have HCP := hide (cutP_any sl pf V (by omega))
        have hcl := cutPB_list sl pf
        have hcs := cutPB_size sl pf
        rw [hpl] at hcl
        have e0 := (unhide HXB).cell 0
        have e1 := (unhide HXB).cell 1
        simp only [List.getElem?_toArray, List.getElem?_cons_succ, List.getElem?_cons_zero] at e0 e1
        have HCL := hide hcl
        rw [hpl] at HCP
        clear hcl hpl
        go_wp2_with fail
        rw [← hpf]
        clear hpf
        refine (unhide HCP).mono ?_
        rintro e V ⟨rfl, rfl⟩
        cases hh : Lib.hasPrefix sl.data.toList (x.data.toList ++ [32]) with
        | false =>
          have HS1 : Hid (P (k + 1) = P k) := hide (by rw [unhide HST, if_neg (by rw [hh]; simp)])
          have HL1 : Hid (sl.data.toList = (P (k + 1)).2) := hide (by rw [unhide HS1]; exact unhide HL)
          have HP1 : Hid (PS w V (w.heap.size + 1) (P (k + 1)).1 v) := hide (by rw [unhide HS1]; exact unhide HX1)
          clear HST HS1 hh HCP HCL hcs HWO HX1 HXB
          go_wp2
          exact ⟨⟨k + 1, sl, v, rfl, by go_num, by omega, hsl, HL1, HP1⟩, by simp [intOf]; omega⟩
        | true =>
          have hst := unhide HST
          rw [if_pos hh] at hst
          have hcl := unhide HCL
          rw [if_pos hh] at hcl
          rw [List.length_append, List.length_singleton] at hcl
          rw [← hcl] at hst
          have HST1 := hide hst
          generalize cutPB sl pf = bh at hcs HST1
          have HCU := hide (cutN_any 32 bh V (by omega))
          clear HST hh HCP HCL hst hcl HL
          go_wp2_with fail
          refine (unhide HCU).mono ?_
          rintro e w2 ⟨⟨tx, ly, rfl, htx, hly, htz, hlz⟩, hb2⟩
          rw [← htx, ← hly] at HST1
          have HX2 := hide ((unhide HX1).below hb2)
          have HXB2 := hide ((unhide HXB).below hb2)
          have HER2 := hide (unhide HER _ ((unhide HBX).trans (hb2.mono (unhide HBX).size)))
          have e1 := (unhide HXB2).cell 1
          simp only [List.getElem?_toArray, List.getElem?_cons_succ, List.getElem?_cons_zero] at e1
          have HRD := hide (read_any w w2 (w.heap.size + 1) (P k).1 v y _ rfl tx (unhide HX2) (unhide HER2) (unhide HWO) (by omega))
          have hly1 : ly.size ≤ 1048576 := by omega
          clear htx hly hb2 HCU HX1 HXB HX2 HXB2 HER2 e0 HWO HBX
          go_wp2_with fail
          refine (unhide HRD).mono ?_
          rintro e w3 ⟨rfl, v3, hp3⟩
          have HL1 : Hid (ly.data.toList = (P (k + 1)).2) := hide (by rw [unhide HST1])
          have HP1 : Hid (PS w w3 (w.heap.size + 1) (P (k + 1)).1 v3) := hide (by rw [unhide HST1]; exact hp3)
          clear HST1 hp3 HRD
          go_wp2
          exact ⟨⟨k + 1, ly, v3, rfl, by go_num, by omega, hly1, HL1, HP1⟩, by simp [intOf]; omega⟩
      · have hk4 : k = 4 := by omega
        subst hk4
        have hok := unhide HOK 4 (by omega)
        clear HNX HOK HER HL
        generalize (P 4).1 = t at HEX HP hok
        have hrw : RowSp wr v t.all := rowG_of_own cellsS_len (unhide HP).own (by omega) (unhide HP).fit
        have HTW1 := hide (unhide HTW t v wr (unhide HP).os.bel hok.1 hrw (by omega))
        obtain ⟨av, cv, hv, _⟩ := own_sliceG (unhide HP).own
        have hlv := hok.2
        clear HTW hok hrw
        obtain ⟨nv, hnv⟩ : ∃ nv, nv = t.all.length := ⟨_, rfl⟩
        rw [← hnv] at hv
        subst hv
        have HNV := hide hnv
        have HLV := hide hlv
        clear hnv hlv
        obtain ⟨wt', mn, lo, hi, al⟩ := t
        simp only [tlV, tlC] at HTW1
        have c0 := (unhide HP).os.k1.cell 0
        have c1 := (unhide HP).os.k1.cell 1
        have c2 := (unhide HP).os.k1.cell 2
        have c3 := (unhide HP).os.k1.cell 3
        have c4 := (unhide HP).os.k1.cell 4
        have f0 := (unhide HP).os.k1.frozen 0
        have f1 := (unhide HP).os.k1.frozen 1
        have f2 := (unhide HP).os.k1.frozen 2
        have f3 := (unhide HP).os.k1.frozen 3
        have f4 := (unhide HP).os.k1.frozen 4
        simp only [tlC, zC, List.getElem?_toArray, List.getElem?_cons_succ, List.getElem?_cons_zero] at c0 c1 c2 c3 c4
        go_wp2_with fail
        refine (unhide HTW1).mono ?_
        rintro e w4 ⟨rfl, hb4⟩
        have HP4 := hide ((unhide HP).below hb4)
        clear hb4 HTW1 HP c0 c1 c2 c3 c4 f0 f1 f2 f3 f4
        obtain ⟨WT, hWT⟩ : ∃ WT, WT = writeT ⟨wt', mn, lo, hi, al⟩ := ⟨_, rfl⟩
        rw [← hWT] at HEX ⊢
        clear hWT
        obtain ⟨wl, we⟩ := WT
        simp only at HEX ⊢
        by_cases z0 : we = 0
        · subst z0
          have b1 := beqS (⟨wl.toArray⟩ : ByteArray) s
          by_cases z1 : wl = s.data.toList
          · have hbe : (⟨wl.toArray⟩ : ByteArray) = s := by rw [z1]
            rw [decide_eq_true hbe] at b1
            have HE : Hid (E = (⟨wt', mn, lo, hi, al⟩, 0)) := hide (by rw [unhide HEX, if_pos (by rw [z1])])
            rw [hbe] at b1 ⊢
            clear HEX z1 hbe
            have c0 := (unhide HP4).os.k1.cell 0
            have c1 := (unhide HP4).os.k1.cell 1
            have c2 := (unhide HP4).os.k1.cell 2
            have c3 := (unhide HP4).os.k1.cell 3
            have c4 := (unhide HP4).os.k1.cell 4
            have f0 := (unhide HP4).os.k1.frozen 0
            have f1 := (unhide HP4).os.k1.frozen 1
            have f2 := (unhide HP4).os.k1.frozen 2
            have f3 := (unhide HP4).os.k1.frozen 3
            have f4 := (unhide HP4).os.k1.frozen 4
            simp only [tlC, List.getElem?_toArray, List.getElem?_cons_succ, List.getElem?_cons_zero] at c0 c1 c2 c3 c4
            have d0 := (unhide HP4).os.k0.cell 0
            have d1 := (unhide HP4).os.k0.cell 1
            have d2 := (unhide HP4).os.k0.cell 2
            have d3 := (unhide HP4).os.k0.cell 3
            have d4 := (unhide HP4).os.k0.cell 4
            have g0 := (unhide HP4).os.k0.frozen 0
            have g1 := (unhide HP4).os.k0.frozen 1
            have g2 := (unhide HP4).os.k0.frozen 2
            have g3 := (unhide HP4).os.k0.frozen 3
            have g4 := (unhide HP4).os.k0.frozen 4
            simp only [zC, List.getElem?_toArray, List.getElem?_cons_succ, List.getElem?_cons_zero] at d0 d1 d2 d3 d4
            go_wp2
            refine bodyPost_ret (v := .tuple #[.agg #[.int .u8 (wt' : Int), .int .i64 mn, .int .u32 (lo : Int), .int .u32 (hi : Int), .slice av nv cv], .int .i64 0]) ?_ rfl ⟨_, by rw [unhide HE]; rfl, ?_, below5 (unhide HP4).os.bel (Nat.le_refl _) _ _ _ _ _⟩
            · rw [results_cell_tmp rfl]
              go_simp
            · rw [unhide HE]
              have o1 := (unhide HP4).own
              have z0 := (unhide HP4).os.k0
              have o2 := own_setT (i := 0) (u := .int .u8 (wt' : Int)) o1 z0 (by decide)
              have z1 := z0.set 0 (.int .u8 (wt' : Int))
              have o3 := own_setT (i := 1) (u := .int .i64 mn) o2 z1 (by decide)
              have z2 := z1.set 1 (.int .i64 mn)
              have o4 := own_setT (i := 2) (u := .int .u32 (lo : Int)) o3 z2 (by decide)
              have z3 := z2.set 2 (.int .u32 (lo : Int))
              have o5 := own_setT (i := 3) (u := .int .u32 (hi : Int)) o4 z3 (by decide)
              have z4 := z3.set 3 (.int .u32 (hi : Int))
              have o6 := own_setT (i := 4) (u := .slice av nv cv) o5 z4 (by decide)
              exact rowG_of_own cellsS_len o6 (by have := unhide HLV; exact Nat.le_trans this (by decide)) (unhide HP4).fit
          · have hbe : ¬ (⟨wl.toArray⟩ : ByteArray) = s := fun h9 => z1 (by rw [← h9])
            rw [decide_eq_false hbe] at b1
            have HE : Hid (E = (zT, 7)) := hide (by rw [unhide HEX, if_neg (by intro h9; injection h9 with h9 _; exact z1 h9)])
            obtain ⟨TB, hTB⟩ : ∃ TB : ByteArray, TB = ⟨wl.toArray⟩ := ⟨_, rfl⟩
            rw [← hTB] at b1 ⊢
            clear HEX z1 hbe hTB
            have c0 := (unhide HP4).os.k1.cell 0
            have c1 := (unhide HP4).os.k1.cell 1
            have c2 := (unhide HP4).os.k1.cell 2
            have c3 := (unhide HP4).os.k1.cell 3
            have c4 := (unhide HP4).os.k1.cell 4
            have f0 := (unhide HP4).os.k1.frozen 0
            have f1 := (unhide HP4).os.k1.frozen 1
            have f2 := (unhide HP4).os.k1.frozen 2
            have f3 := (unhide HP4).os.k1.frozen 3
            have f4 := (unhide HP4).os.k1.frozen 4
            simp only [tlC, List.getElem?_toArray, List.getElem?_cons_succ, List.getElem?_cons_zero] at c0 c1 c2 c3 c4
            have d0 := (unhide HP4).os.k0.cell 0
            have d1 := (unhide HP4).os.k0.cell 1
            have d2 := (unhide HP4).os.k0.cell 2
            have d3 := (unhide HP4).os.k0.cell 3
            have d4 := (unhide HP4).os.k0.cell 4
            have g0 := (unhide HP4).os.k0.frozen 0
            have g1 := (unhide HP4).os.k0.frozen 1
            have g2 := (unhide HP4).os.k0.frozen 2
            have g3 := (unhide HP4).os.k0.frozen 3
            have g4 := (unhide HP4).os.k0.frozen 4
            simp only [zC, List.getElem?_toArray, List.getElem?_cons_succ, List.getElem?_cons_zero] at d0 d1 d2 d3 d4
            go_wp2
            refine bodyPost_ret (v := .tuple #[.agg #[.int .u8 0, .int .i64 0, .int .u32 0, .int .u32 0, .slice none 0 0], .int .i64 7]) ?_ rfl ⟨_, by rw [unhide HE]; rfl, by rw [unhide HE]; exact RowG.nil _ _ _, below5 (unhide HP4).os.bel (Nat.le_refl _) _ _ _ _ _⟩
            rw [results_cell_tmp rfl]
            go_simp
        · have q0 : ((we : Int) != 0) = true := by simp; omega
          have HE : Hid (E = (zT, 7)) := hide (by rw [unhide HEX, if_neg (by intro h9; injection h9 with _ h9; exact z0 h9)])
          clear HEX z0
          have c0 := (unhide HP4).os.k1.cell 0
          have c1 := (unhide HP4).os.k1.cell 1
          have c2 := (unhide HP4).os.k1.cell 2
          have c3 := (unhide HP4).os.k1.cell 3
          have c4 := (unhide HP4).os.k1.cell 4
          have f0 := (unhide HP4).os.k1.frozen 0
          have f1 := (unhide HP4).os.k1.frozen 1
          have f2 := (unhide HP4).os.k1.frozen 2
          have f3 := (unhide HP4).os.k1.frozen 3
          have f4 := (unhide HP4).os.k1.frozen 4
          simp only [tlC, List.getElem?_toArray, List.getElem?_cons_succ, List.getElem?_cons_zero] at c0 c1 c2 c3 c4
          have d0 := (unhide HP4).os.k0.cell 0
          have d1 := (unhide HP4).os.k0.cell 1
          have d2 := (unhide HP4).os.k0.cell 2
          have d3 := (unhide HP4).os.k0.cell 3
          have d4 := (unhide HP4).os.k0.cell 4
          have g0 := (unhide HP4).os.k0.frozen 0
          have g1 := (unhide HP4).os.k0.frozen 1
          have g2 := (unhide HP4).os.k0.frozen 2
          have g3 := (unhide HP4).os.k0.frozen 3
          have g4 := (unhide HP4).os.k0.frozen 4
          simp only [zC, List.getElem?_toArray, List.getElem?_cons_succ, List.getElem?_cons_zero] at d0 d1 d2 d3 d4
          go_wp2
          refine bodyPost_ret (v := .tuple #[.agg #[.int .u8 0, .int .i64 0, .int .u32 0, .int .u32 0, .slice none 0 0], .int .i64 7]) ?_ rfl ⟨_, by rw [unhide HE]; rfl, by rw [unhide HE]; exact RowG.nil _ _ _, below5 (unhide HP4).os.bel (Nat.le_refl _) _ _ _ _ _⟩
          rw [results_cell_tmp rfl]
          go_simp
end Go.Proofs.YtlolilhlpbpfjaaGreatDoor

/-
  What tally.Word and missiveref27.Same tell, over this seat's program.
-/
set_option linter.unusedVariables false
set_option linter.unusedSimpArgs false
namespace Go.Proofs.YtlolilhlpbpfjaaGreatDoor
open Go.RowKit Go.Proofs.Nst

def wordF (l : List UInt8) : List (List UInt8 × Nat) → Nat × Nat
  | [] => (0, 7)
  | p :: r => if smL l = smL p.1 then (p.2, 0) else wordF l r
def wordR (l : List UInt8) : Nat × Nat := wordF l wordsT
set_option maxHeartbeats 2000000 in
set_option maxRecDepth 100000 in
theorem word_any (s : ByteArray) (w : World) (ht : WTab w) (hs : s.size ≤ 281474976710656) :
    Calls Tryz.prog 9 #[.string s] w fun e w' => e = .returned (.tuple #[.int .u8 ((wordR s.data.toList).1 : Int), .int .i64 ((wordR s.data.toList).2 : Int)]) ∧ Below w.heap.size w w' := by
  have HLD := hide (load_words ht)
  have HF0 : Hid (wordR s.data.toList = wordF s.data.toList (wordsT.drop 0)) := hide rfl
  generalize wordR s.data.toList = R at HF0 ⊢
  clear ht
  go_enter Tryz.func9, Tryz.ntmps9
  go_wp2_with (refine wpList_load_var rfl 56 _ rfl ⟨0, 0, none⟩ rfl _ (unhide HLD) ?_)
  go_loopw [5, 7] (fun y z wr => ∃ k : Nat, z = .int .i64 k ∧ k ≤ 4 ∧ Hid (R = wordF s.data.toList (wordsT.drop k)) ∧ Below w.heap.size w wr) (fun _ z _ => 4 - (intOf z).toNat)
  case atStart => exact ⟨0, rfl, by omega, HF0, Below.refl _ _⟩
  case round =>
    obtain ⟨k, rfl, hk, HF, hbw⟩ := hrel
    have hzr := hbw.size
    by_cases hlt : k < 4
    · have hix := index_words k hlt
      have hnz := wn_size k
      have hch := wb_lt k
      have hfin := unhide HF
      rw [drop_words hlt, wordF] at hfin
      have HA := hide (fun W => like_any s (wn k) W hs (by omega))
      clear HF HF0
      by_cases he : smL s.data.toList = smL (wn k).data.toList
      · rw [if_pos he] at hfin
        rw [decide_eq_true he] at HA
        have HF := hide hfin
        clear hfin he
        generalize wn k = x at hix HA hnz
        generalize wb k = y at hix HF hch
        go_wp2_with fail
        refine (unhide HA _).mono ?_
        rintro e w1 ⟨rfl, q, rfl⟩
        go_wp2
        go_ret2
        exact ⟨by rw [unhide HF]; rfl, below_dr (hbw.alloc (by omega) _) _⟩
      · rw [if_neg he] at hfin
        rw [decide_eq_false he] at HA
        have HF := hide hfin
        clear hfin he
        generalize wn k = x at hix HA hnz
        generalize wb k = y at hix hch
        go_wp2_with fail
        refine (unhide HA _).mono ?_
        rintro e w1 ⟨rfl, q, rfl⟩
        go_wp2
        exact ⟨⟨k + 1, by go_num, by omega, HF, below_dr (hbw.alloc (by omega) _) _⟩, by simp [intOf]; omega⟩
    · have hfin : R = (0, 7) := by
        rw [unhide HF, show k = 4 by omega]; rfl
      have HF := hide hfin
      clear hfin
      go_wp2
      go_ret2
      exact ⟨by rw [unhide HF]; rfl, hbw⟩

set_option maxHeartbeats 4000000 in
set_option maxRecDepth 100000 in
theorem sameT_any (t u : Tly) (v v' : Value) (w : World) (h : RowSp w v t.all) (h' : RowSp w v' u.all) :
    Calls Tryz.prog 10 #[tlV t v, tlV u v'] w fun e w' => e = .returned (.bool (decide (t = u))) ∧ Below w.heap.size w w' := by
  obtain ⟨wt, mn, lo, hi, al⟩ := t
  obtain ⟨ow, om, ol, ox, oa⟩ := u
  simp only at h h'
  have hb1 : Below w.heap.size w (w.alloc (.cells #[.int .u8 (wt : Int), .int .i64 mn, .int .u32 (lo : Int), .int .u32 (hi : Int), v] 28)) := (Below.refl _ w).alloc (Nat.le_refl _) _
  have hb2 : Below w.heap.size w ((w.alloc (.cells #[.int .u8 (wt : Int), .int .i64 mn, .int .u32 (lo : Int), .int .u32 (hi : Int), v] 28)).alloc (.cells #[.int .u8 (ow : Int), .int .i64 om, .int .u32 (ol : Int), .int .u32 (ox : Int), v'] 28)) := hb1.alloc hb1.size _
  have HB3 := hide hb2
  have HK3 := hide ((Blk.new w 28 #[.int .u8 (wt : Int), .int .i64 mn, .int .u32 (lo : Int), .int .u32 (hi : Int), v]).below ((Below.refl _ _).alloc (Nat.le_refl _) (.cells #[.int .u8 (ow : Int), .int .i64 om, .int .u32 (ol : Int), .int .u32 (ox : Int), v'] 28)))
  have HK4 := hide (Blk.new (w.alloc (.cells #[.int .u8 (wt : Int), .int .i64 mn, .int .u32 (lo : Int), .int .u32 (hi : Int), v] 28)) 28 #[.int .u8 (ow : Int), .int .i64 om, .int .u32 (ol : Int), .int .u32 (ox : Int), v'])
  have HEQ := hide (sameSp_any v v' al oa _ (RowSp.below h hb2) (RowSp.below h' hb2))
  obtain ⟨R, hR⟩ : ∃ R, decide (({ want := wt, many := mn, least := lo, most := hi, all := al } : Tly) = { want := ow, many := om, least := ol, most := ox, all := oa }) = R := ⟨_, rfl⟩
  rw [hR]
  have HRE : Hid (R = (decide (wt = ow) && (decide (mn = om) && (decide (lo = ol) && (decide (hi = ox) && decide (al = oa)))))) := hide (by rw [← hR, Bool.eq_iff_iff]; simp)
  simp only [tlV, tlC]
  simp only [World.size_alloc] at HK4
  clear hR h h' hb1 hb2
  go_enter Tryz.func10, Tryz.ntmps10
  go_upto_region 1 with (fail)
  generalize (w.alloc (.cells #[.int .u8 (wt : Int), .int .i64 mn, .int .u32 (lo : Int), .int .u32 (hi : Int), v] 28)).alloc (.cells #[.int .u8 (ow : Int), .int .i64 om, .int .u32 (ol : Int), .int .u32 (ox : Int), v'] 28) = W at HB3 HK3 HK4 HEQ ⊢
  have c0 := (unhide HK3).cell 0
  have c1 := (unhide HK3).cell 1
  have c2 := (unhide HK3).cell 2
  have c3 := (unhide HK3).cell 3
  have c4 := (unhide HK3).cell 4
  simp only [List.getElem?_toArray, List.getElem?_cons_succ, List.getElem?_cons_zero] at c0 c1 c2 c3 c4
  have d0 := (unhide HK4).cell 0
  have d1 := (unhide HK4).cell 1
  have d2 := (unhide HK4).cell 2
  have d3 := (unhide HK4).cell 3
  have d4 := (unhide HK4).cell 4
  simp only [List.getElem?_toArray, List.getElem?_cons_succ, List.getElem?_cons_zero] at d0 d1 d2 d3 d4
  by_cases e0 : wt = ow
  · have q0 : ((wt : Int) == (ow : Int)) = true := by simp [e0]
    have E0 := hide e0
    clear e0
    by_cases e1 : mn = om
    · have q1 : (mn == om) = true := by simp [e1]
      have E1 := hide e1
      clear e1
      by_cases e2 : lo = ol
      · have q2 : ((lo : Int) == (ol : Int)) = true := by simp [e2]
        have E2 := hide e2
        clear e2
        by_cases e3 : hi = ox
        · have q3 : ((hi : Int) == (ox : Int)) = true := by simp [e3]
          have E3 := hide e3
          clear e3
          have HF : Hid (R = decide (al = oa)) := hide (by rw [unhide HRE]; simp [unhide E0, unhide E1, unhide E2, unhide E3])
          clear HRE
          go_wp2_with fail
          refine (unhide HEQ).mono ?_
          rintro e w5 ⟨rfl, b5⟩
          have HB5 := hide (belows' (unhide HB3) b5)
          clear b5 HEQ
          rw [← unhide HF]
          go_wp2
          go_ret
          exact ⟨rfl, unhide HB5⟩
        · have q3 : ((hi : Int) == (ox : Int)) = false := by simp; omega
          have E3 := hide e3
          clear e3
          have HF : Hid (R = false) := hide (by rw [unhide HRE]; simp [unhide E0, unhide E1, unhide E2, unhide E3])
          clear HRE
          go_wp2
          go_ret
          exact ⟨by rw [unhide HF]; rfl, unhide HB3⟩
      · have q2 : ((lo : Int) == (ol : Int)) = false := by simp; omega
        have E2 := hide e2
        clear e2
        have HF : Hid (R = false) := hide (by rw [unhide HRE]; simp [unhide E0, unhide E1, unhide E2])
        clear HRE
        go_wp2
        go_ret
        exact ⟨by rw [unhide HF]; rfl, unhide HB3⟩
    · have q1 : (mn == om) = false := by simp; omega
      have E1 := hide e1
      clear e1
      have HF : Hid (R = false) := hide (by rw [unhide HRE]; simp [unhide E0, unhide E1])
      clear HRE
      go_wp2
      go_ret
      exact ⟨by rw [unhide HF]; rfl, unhide HB3⟩
  · have q0 : ((wt : Int) == (ow : Int)) = false := by simp; omega
    have E0 := hide e0
    clear e0
    have HF : Hid (R = false) := hide (by rw [unhide HRE]; simp [unhide E0])
    clear HRE
    go_wp2
    go_ret
    exact ⟨by rw [unhide HF]; rfl, unhide HB3⟩
end Go.Proofs.YtlolilhlpbpfjaaGreatDoor
