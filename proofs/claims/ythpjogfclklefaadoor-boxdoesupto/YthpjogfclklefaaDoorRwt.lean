/-
  What the document's right and WriteTime of layer 10 do, over this seat's program.
-/
import Derived.Test.YthpjogfclklefaaDoorRww
import Derived.Test.YthpjogfclklefaaDoorDwz
import Derived.Deep.RegionHeld3
import Derived.Deep.CutRange
set_option linter.unusedVariables false
namespace Go.Proofs.YthpjogfclklefaaDoor
open Go.RowKit Go.Proofs.Dcl

theorem rightB_is {d s z : Int} : rightB d s z = true ↔ (-719162 ≤ d ∧ d ≤ 2932896 ∧ 0 ≤ s ∧ s ≤ 86399 ∧ -5999 ≤ z ∧ z ≤ 5999) := by
  unfold rightB dayB
  simp only [Bool.and_eq_true, decide_eq_true_eq]
  omega

set_option maxHeartbeats 2000000 in
set_option maxRecDepth 100000 in
theorem refRight_any (d s z : Int) (w : World) :
    Calls Tryd.prog 50 #[.agg #[.int .i64 d, .int .i64 s, .int .i64 z]] w fun e w' => e = .returned (.bool (rightB d s z)) ∧ Below w.heap.size w w' := by
  by_cases a0 : -719162 ≤ d
  · skip
    by_cases a1 : d ≤ 2932896
    · skip
      by_cases a2 : 0 ≤ s
      · skip
        by_cases a3 : s ≤ 86399
        · skip
          by_cases a4 : -5999 ≤ z
          · skip
            by_cases a5 : z ≤ 5999
            · skip
              have hr : rightB d s z = true := rightB_is.2 ⟨a0, a1, a2, a3, a4, a5⟩
              have b3 : s < 86400 := by omega
              go_enter Tryd.func50, Tryd.ntmps50
              go_wp2
              go_ret
              exact ⟨by first | rfl | (simp; done) | (simp; omega), (Below.refl _ w).alloc (Nat.le_refl _) _⟩
            · have hr : rightB d s z = false := by
                cases hq : rightB d s z
                · rfl
                · exact absurd (rightB_is.1 hq).2.2.2.2.2 a5
              have b3 : s < 86400 := by omega
              have c5 : 5999 < z := by omega
              have e5 : decide (z ≤ 5999) = false := decide_eq_false a5
              go_enter Tryd.func50, Tryd.ntmps50
              go_wp2
              go_ret
              exact ⟨by first | rfl | (simp; done) | (simp; omega), (Below.refl _ w).alloc (Nat.le_refl _) _⟩
          · have hr : rightB d s z = false := by
              cases hq : rightB d s z
              · rfl
              · exact absurd (rightB_is.1 hq).2.2.2.2.1 a4
            have b3 : s < 86400 := by omega
            have c4 : z < -5999 := by omega
            have e4 : decide (-5999 ≤ z) = false := decide_eq_false a4
            go_enter Tryd.func50, Tryd.ntmps50
            go_wp2
            go_ret
            exact ⟨by first | rfl | (simp; done) | (simp; omega), (Below.refl _ w).alloc (Nat.le_refl _) _⟩
        · have hr : rightB d s z = false := by
            cases hq : rightB d s z
            · rfl
            · exact absurd (rightB_is.1 hq).2.2.2.1 a3
          have b3 : ¬ s < 86400 := by omega
          have c3 : 86399 < s := by omega
          have e3 : decide (s ≤ 86399) = false := decide_eq_false a3
          go_enter Tryd.func50, Tryd.ntmps50
          go_wp2
          go_ret
          exact ⟨by first | rfl | (simp; done) | (simp; omega), (Below.refl _ w).alloc (Nat.le_refl _) _⟩
      · have hr : rightB d s z = false := by
          cases hq : rightB d s z
          · rfl
          · exact absurd (rightB_is.1 hq).2.2.1 a2
        have c2 : s < 0 := by omega
        have e2 : decide (0 ≤ s) = false := decide_eq_false a2
        go_enter Tryd.func50, Tryd.ntmps50
        go_wp2
        go_ret
        exact ⟨by first | rfl | (simp; done) | (simp; omega), (Below.refl _ w).alloc (Nat.le_refl _) _⟩
    · have hr : rightB d s z = false := by
        cases hq : rightB d s z
        · rfl
        · exact absurd (rightB_is.1 hq).2.1 a1
      have c1 : 2932896 < d := by omega
      have e1 : decide (d ≤ 2932896) = false := decide_eq_false a1
      go_enter Tryd.func50, Tryd.ntmps50
      go_wp2
      go_ret
      exact ⟨by first | rfl | (simp; done) | (simp; omega), (Below.refl _ w).alloc (Nat.le_refl _) _⟩
  · have hr : rightB d s z = false := by
      cases hq : rightB d s z
      · rfl
      · exact absurd (rightB_is.1 hq).1 a0
    have c0 : d < -719162 := by omega
    have e0 : decide (-719162 ≤ d) = false := decide_eq_false a0
    go_enter Tryd.func50, Tryd.ntmps50
    go_wp2
    go_ret
    exact ⟨by first | rfl | (simp; done) | (simp; omega), (Below.refl _ w).alloc (Nat.le_refl _) _⟩

set_option maxHeartbeats 2000000 in
set_option maxRecDepth 100000 in
theorem refWriteT_no (d s z : Int) (w : World) (h : rightB d s z = false) :
    Calls Tryd.prog 41 #[.agg #[.int .i64 d, .int .i64 s, .int .i64 z]] w fun e w' => e = .returned (.tuple #[.string (bts []), .int .i64 2]) ∧ Below w.heap.size w w' := by
  have HR := hide (fun W => refRight_any d s z W)
  rw [h] at HR
  clear h
  go_enter Tryd.func41, Tryd.ntmps41
  go_wp2_with fail
  refine (unhide HR _).mono ?_
  rintro e w2 ⟨rfl, hb⟩
  have HB := hide (belows' ((Below.refl _ w).alloc (Nat.le_refl _) (.cells #[.int .i64 d, .int .i64 s, .int .i64 z] 31)) hb)
  clear hb HR
  go_wp2
  go_ret2
  exact ⟨rfl, unhide HB⟩

theorem wrap_s (q : Nat) (h : q < 1000000) : IntKind.i64.wrap (q : Int) = (q : Int) := by rw [IntKind.wrap_i64]; omega
theorem wide_size (n : Nat) (h : n < 100) : (bts (wideL n 2)).size = 2 := by rw [size_bts, wide_two h]; rfl

set_option maxHeartbeats 4000000 in
set_option maxRecDepth 100000 in
theorem refWriteT_yes (y m dd s : Nat) (d z : Int) (w : World) (hv : vldB y m dd = true) (hn : num y m dd = d) (hs : s ≤ 86399) (hz1 : -5999 ≤ z) (hz2 : z ≤ 5999) :
    Calls Tryd.prog 41 #[.agg #[.int .i64 d, .int .i64 (s : Int), .int .i64 z]] w fun e w' => e = .returned (.tuple #[.string (bts (timT y m dd s z)), .int .i64 0]) ∧ Below w.heap.size w w' := by
  have HR := hide (fun W => refRight_any d s z W)
  have hr : rightB d s z = true := by
    unfold rightB
    rw [← hn, day_of_vld hv, decide_eq_true (by omega)]
    rfl
  rw [hr] at HR
  have HW := hide (fun W => refWriteD_yes y m dd d W hv hn)
  obtain ⟨y1, y2, m1, m2, d1, d2⟩ := vld_iff.1 hv
  have d3 := dim_le y m
  have hdl := dayT_len y m dd (by omega) (by omega)
  obtain ⟨sg, hsg⟩ : ∃ sg : ByteArray, sg = bts [if z < 0 then 45 else 43] := ⟨_, rfl⟩
  obtain ⟨zn, hzn⟩ : ∃ zn : Nat, zn = z.natAbs := ⟨_, rfl⟩
  obtain ⟨a1, h1⟩ : ∃ a, a = s / 3600 := ⟨_, rfl⟩
  obtain ⟨q2, k2⟩ : ∃ a, a = s / 60 := ⟨_, rfl⟩
  obtain ⟨a2, h2⟩ : ∃ a, a = q2 % 60 := ⟨_, rfl⟩
  obtain ⟨a3, h3⟩ : ∃ a, a = s % 60 := ⟨_, rfl⟩
  obtain ⟨a4, h4⟩ : ∃ a, a = zn / 60 := ⟨_, rfl⟩
  obtain ⟨a5, h5⟩ : ∃ a, a = zn % 60 := ⟨_, rfl⟩
  obtain ⟨X, hX⟩ : ∃ X, X = bts ((if dd < 10 then [32] else []) ++ dayT y m dd) := ⟨_, rfl⟩
  have HE : Hid (bts (timT y m dd s z) = ((((((((((X ++ ⟨#[32]⟩) ++ bts (wideL a1 2)) ++ ⟨#[58]⟩) ++ bts (wideL a2 2)) ++ ⟨#[58]⟩) ++ bts (wideL a3 2)) ++ ⟨#[32]⟩) ++ sg) ++ bts (wideL a4 2)) ++ bts (wideL a5 2))) := hide (by
    rw [wide_two (by omega), wide_two (by omega), wide_two (by omega), wide_two (by omega), wide_two (by omega), hX, hsg, show (⟨#[32]⟩ : ByteArray) = bts [32] from rfl, show (⟨#[58]⟩ : ByteArray) = bts [58] from rfl]
    simp only [bts_app]
    rw [h1, h2, k2, h3, h4, h5, hzn]
    unfold timT
    simp)
  have HA1 := hide (fun W => refWide_any a1 2 W (by omega) (by omega))
  have HA2 := hide (fun W => refWide_any a2 2 W (by omega) (by omega))
  have HA3 := hide (fun W => refWide_any a3 2 W (by omega) (by omega))
  have HA4 := hide (fun W => refWide_any a4 2 W (by omega) (by omega))
  have HA5 := hide (fun W => refWide_any a5 2 W (by omega) (by omega))
  have z1 := wide_size a1 (by omega)
  have z2 := wide_size a2 (by omega)
  have z3 := wide_size a3 (by omega)
  have z4 := wide_size a4 (by omega)
  have z5 := wide_size a5 (by omega)
  have zX : X.size = 11 := by
    rw [hX, size_bts, List.length_append, hdl]
    by_cases h : dd < 10
    · rw [if_pos h, if_neg (by omega)]; rfl
    · rw [if_neg h, if_pos (by omega)]; rfl
  have zS : sg.size = 1 := by rw [hsg, size_bts]; rfl
  have e1 : (s : Int) / 3600 = (a1 : Int) := by omega
  have e2 : (s : Int) / 60 = (q2 : Int) := by omega
  have e3 : (q2 : Int) % 60 = (a2 : Int) := by omega
  have e4 : (s : Int) % 60 = (a3 : Int) := by omega
  have e5 : (zn : Int) / 60 = (a4 : Int) := by omega
  have e6 : (zn : Int) % 60 = (a5 : Int) := by omega
  have e7 : (q2 : Int).tmod 60 = (a2 : Int) := by rw [Int.tmod_eq_emod_of_nonneg (by omega)]; omega
  have e8 : (s : Int).tmod 60 = (a3 : Int) := by rw [Int.tmod_eq_emod_of_nonneg (by omega)]; omega
  have e9 : (zn : Int).tmod 60 = (a5 : Int) := by rw [Int.tmod_eq_emod_of_nonneg (by omega)]; omega
  have u1 := wrap_s a1 (by omega)
  have u2 := wrap_s q2 (by omega)
  have u3 := wrap_s a2 (by omega)
  have u4 := wrap_s a3 (by omega)
  have u5 := wrap_s a4 (by omega)
  have u6 := wrap_s a5 (by omega)
  obtain ⟨T, hT⟩ : ∃ T, T = bts (dayT y m dd) := ⟨_, rfl⟩
  have HXT : Hid (if dd < 10 then T.size = 10 ∧ X = ⟨#[32]⟩ ++ T else T.size = 11 ∧ X = T) := hide (by
    by_cases h : dd < 10
    · rw [if_pos h, hT, size_bts, hdl, if_neg (by omega), hX, if_pos h, show (⟨#[32]⟩ : ByteArray) = bts [32] from rfl, bts_app]
      exact ⟨rfl, rfl⟩
    · rw [if_neg h, hT, size_bts, hdl, if_pos (by omega), hX, if_neg h]
      exact ⟨rfl, rfl⟩)
  rw [← hT] at HW
  have HSG : Hid (sg = if z < 0 then ⟨#[45]⟩ else ⟨#[43]⟩) := hide (by rw [hsg]; split <;> rfl)
  have HZN : Hid (zn = z.natAbs) := hide hzn
  generalize bts (wideL a1 2) = A1 at HA1 HE z1
  generalize bts (wideL a2 2) = A2 at HA2 HE z2
  generalize bts (wideL a3 2) = A3 at HA3 HE z3
  generalize bts (wideL a4 2) = A4 at HA4 HE z4
  generalize bts (wideL a5 2) = A5 at HA5 HE z5
  have hzz : zn ≤ 5999 := by omega
  clear hr hv hn hsg hzn h1 k2 h2 h3 h4 h5 hX hT y1 y2 m1 m2 d1 d2 d3 hdl
  go_enter Tryd.func41, Tryd.ntmps41
  go_wp2_with fail
  refine (unhide HR _).mono ?_
  rintro e w2 ⟨rfl, hb⟩
  have HB2 := hide (belows' ((Below.refl _ w).alloc (Nat.le_refl _) (.cells #[.int .i64 d, .int .i64 (s : Int), .int .i64 z] 31)) hb)
  have HK2 := hide (Blk.below (Blk.new w 31 #[.int .i64 d, .int .i64 (s : Int), .int .i64 z]) hb)
  clear hb HR
  have c0 : w2.cell? ⟨w.heap.size, 0, none⟩ = some (.int .i64 d) := (Blk.cell (unhide HK2) 0).trans rfl
  go_wp2_with fail
  refine (unhide HW _).mono ?_
  rintro e w3 ⟨rfl, hb⟩
  have HB3 := hide (belows' (unhide HB2) hb)
  have HK3 := hide ((unhide HK2).below hb)
  clear hb HW HB2 HK2 c0
  go_upto_if 19 with (fail)
  go_cut [4] from 17 to 21 (fun v wx => v = .string X ∧ wx = w3)
  case first =>
    have hx := unhide HXT
    clear HXT HE HA1 HA2 HA3 HA4 HA5 HB3 HK3 HSG HZN
    by_cases h : dd < 10
    · rw [if_pos h] at hx
      obtain ⟨hx1, hx2⟩ := hx
      have q1 : ((T.size : Int) == 10) = true := by rw [hx1]; rfl
      have q2 : T.size ≤ 12 := by omega
      clear h hx1
      go_wp2
      go_meet
      exact ⟨by rw [hx2], rfl⟩
    · rw [if_neg h] at hx
      obtain ⟨hx1, hx2⟩ := hx
      have q1 : ((T.size : Int) == 10) = false := by rw [hx1]; rfl
      clear h hx1
      go_wp2
      go_meet
      exact ⟨by rw [hx2], rfl⟩
  case rest =>
  obtain ⟨rfl, hwc⟩ := hcut
  rw [hwc]
  clear hwc
  have c1 : w3.cell? ⟨w.heap.size, 1, none⟩ = some (.int .i64 (s : Int)) := (Blk.cell (unhide HK3) 1).trans rfl
  have c2 : w3.cell? ⟨w.heap.size, 2, none⟩ = some (.int .i64 z) := (Blk.cell (unhide HK3) 2).trans rfl
  clear HXT
  go_upto_if 25 with (fail)
  go_cut [6, 7] from 22 to 27 (fun a b wx => a = .int .i64 (zn : Int) ∧ b = .string sg ∧ wx = w3)
  case first =>
    have hz := unhide HZN
    have hg := unhide HSG
    clear HE HA1 HA2 HA3 HA4 HA5 HB3 HK3 HSG HZN e5 e6
    by_cases h : z < 0
    · rw [if_pos h] at hg
      have hz' : -z = (zn : Int) := by omega
      clear hz
      go_wp2
      go_meet
      exact ⟨by first | rfl | rw [hz'] | simp [hz'], by rw [hg], rfl⟩
    · rw [if_neg h] at hg
      have hz' : z = (zn : Int) := by omega
      clear hz
      have h' : 0 ≤ z := by omega
      have HZ := hide hz'
      clear hz'
      go_wp2
      go_meet
      exact ⟨by rw [← unhide HZ], by rw [hg], rfl⟩
  case rest =>
  obtain ⟨rfl, rfl, hwc⟩ := hcut
  rw [hwc]
  clear hwc
  have HCC := hide (fun W (hb : Below w3.heap.size w3 W) => (Blk.cell ((unhide HK3).below hb) 1).trans (show (#[Value.int .i64 d, .int .i64 (s : Int), .int .i64 z] : Array Value)[1]? = some (.int .i64 (s : Int)) from rfl))
  clear c2 HZN HSG
  go_upto_region 9 with (fail)
  go_region_held3 (fun w' => w'.cell? ⟨w.heap.size, 1, none⟩ = some (.int .i64 (s : Int))) (first | exact unhide HCC _ b5 | exact unhide HCC _ b4 | exact unhide HCC _ b3 | exact unhide HCC _ b2 | exact unhide HCC _ b1 | go_keep) (first
    | (go_at_call_of 52 (Value.int IntKind.i64 (a1 : Int)); refine (unhide HA1 _).mono ?_; rintro e x1 ⟨rfl, b1⟩; have b1 := below_drew0 b1)
    | (go_at_call_of 52 (Value.int IntKind.i64 (a2 : Int)); refine (unhide HA2 _).mono ?_; rintro e x2 ⟨rfl, b2⟩; have b2 := belows' b1 b2)
    | (go_at_call_of 52 (Value.int IntKind.i64 (a3 : Int)); refine (unhide HA3 _).mono ?_; rintro e x3 ⟨rfl, b3⟩; have b3 := belows' b2 b3)
    | (go_at_call_of 52 (Value.int IntKind.i64 (a4 : Int)); refine (unhide HA4 _).mono ?_; rintro e x4 ⟨rfl, b4⟩; have b4 := belows' b3 b4)
    | (go_at_call_of 52 (Value.int IntKind.i64 (a5 : Int)); refine (unhide HA5 _).mono ?_; rintro e x5 ⟨rfl, b5⟩; have b5 := belows' b4 b5))
  have HB5 := hide (belows' (unhide HB3) b5)
  clear b1 b2 b3 b4 b5
  go_simp
  go_wp2
  go_ret2
  exact ⟨ret_strE (unhide HE).symm, unhide HB5⟩
end Go.Proofs.YthpjogfclklefaaDoor
