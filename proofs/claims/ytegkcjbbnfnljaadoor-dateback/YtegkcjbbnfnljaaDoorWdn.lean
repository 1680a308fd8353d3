/-
  The walks of missivelaw10.days, DateNext and DateDays, over this seat's program.
-/
import Derived.Test.YtegkcjbbnfnljaaDoorDse
set_option linter.unusedVariables false
namespace Go.Proofs.YtegkcjbbnfnljaaDoor
open Go.RowKit Go.Proofs.Dcl

theorem belowsD {w a b : World} (h1 : Below w.heap.size w a) (h2 : Below a.heap.size a b) : Below w.heap.size w b := h1.trans (h2.mono h1.size)

theorem civ_known {n y m d : Int} {v : Value} (h : CivIs n v) (hv : vldB y m d = true) (hn : num y m d = n) : v = .tuple #[.int .i64 y, .int .i64 m, .int .i64 d, .int .i64 0] := by
  have hd : dayB n = true := by rw [← hn]; exact day_of_vld hv
  obtain ⟨y', m', d', hv', hn', rfl⟩ := h.yes hd
  obtain ⟨rfl, rfl, rfl⟩ := num_inj hv' hv (by rw [hn, hn'])
  rfl

set_option maxHeartbeats 2000000 in
theorem days_any (w : World) (ht : LTab w) :
    Calls Tryd.prog 15 #[] w fun e w' => e = .returned (.bool true) ∧ Below w.heap.size w w' := by
  have H1 := fun W (h : LTab W) => day_any 1996 2 5 W h
  rw [show dayV 1996 2 5 = .tuple #[.int .i64 9531, .int .i64 0] by rw [dayV_t (by decide)]; rfl] at H1
  have H2 := fun W (h : LTab W) => day_any 1900 2 29 W h
  rw [show dayV 1900 2 29 = .tuple #[.int .i64 0, .int .i64 1] from dayV_f (by decide)] at H2
  have H3 := fun W => weekday_any 0 W
  rw [show weekV 0 = .tuple #[.int .i64 4, .int .i64 0] by rfl] at H3
  have H4 := fun W (h : LTab W) => civil_any (-1) W h
  go_enter Tryd.func15, Tryd.ntmps15
  go_wp2_with (go_at_call 9; refine (H1 _ ht).mono ?_; rintro e w' ⟨rfl, rfl⟩)
  refine (H4 _ ht).mono ?_
  rintro e u ⟨v, rfl, hv, hb⟩
  obtain rfl := civ_known hv (y := 1969) (m := 12) (d := 31) (by decide) (by decide)
  have ht1 := ht.below hb
  clear hv
  go_wp2_with (first | (go_at_call 13; refine (H3 _).mono ?_; rintro e w' ⟨rfl, rfl⟩) | (go_at_call 9; refine (H2 _ ht1).mono ?_; rintro e w' ⟨rfl, rfl⟩))
  go_ret
  exact ⟨rfl, hb⟩

theorem week_t {n : Int} (h : dayB n = true) : weekV n = .tuple #[.int .i64 ((n + 719163) % 7), .int .i64 0] := by simp [weekV, h]

set_option maxHeartbeats 400000 in
theorem dateNext_no (n : Int) (w : World) (ht : LTab w) (hd : dayB n = false) :
    Calls Tryd.prog 7 #[.int .i64 n] w fun e w' => e = .returned (.bool true) ∧ Below w.heap.size w w' := by
  have HD := hid (days_any w ht)
  have HT := hid ht
  clear ht
  go_enter Tryd.func7, Tryd.ntmps7
  go_wp2_with fail
  refine (unhid HD).mono ?_
  rintro e u1 ⟨rfl, b1⟩
  have HC := hid (civil_any n u1 ((unhid HT).below b1))
  go_wp2_with fail
  refine (unhid HC).mono ?_
  rintro e u2 ⟨v, rfl, hv, b2⟩
  obtain rfl := hv.no hd
  clear hv
  go_wp2
  go_ret
  exact ⟨rfl, belowsD b1 b2⟩

set_option maxHeartbeats 400000 in
theorem dateNext_last (n : Int) (w : World) (ht : LTab w) (hm : n = 2932896) :
    Calls Tryd.prog 7 #[.int .i64 n] w fun e w' => e = .returned (.bool true) ∧ Below w.heap.size w w' := by
  have HD := hid (days_any w ht)
  have HT := hid ht
  clear ht
  have hm' : (n == 2932896) = true := by simpa using hm
  have HM := hid hm
  clear hm
  go_enter Tryd.func7, Tryd.ntmps7
  go_wp2_with fail
  refine (unhid HD).mono ?_
  rintro e u1 ⟨rfl, b1⟩
  have HC := hid (civil_any n u1 ((unhid HT).below b1))
  go_wp2_with fail
  refine (unhid HC).mono ?_
  rintro e u2 ⟨v, rfl, hv, b2⟩
  obtain rfl := civ_known hv (y := 9999) (m := 12) (d := 31) (by decide) (by rw [unhid HM]; decide)
  clear hv
  go_wp2
  go_ret
  exact ⟨by simp, belowsD b1 b2⟩

set_option maxHeartbeats 400000 in
theorem dateNext_more (n : Int) (w : World) (ht : LTab w) (hd : dayB n = true) (hm : ¬ n = 2932896) :
    Calls Tryd.prog 7 #[.int .i64 n] w fun e w' => e = .returned (.bool true) ∧ Below w.heap.size w w' := by
  have HD := hid (days_any w ht)
  have HT := hid ht
  clear ht
  have hm' : (n == 2932896) = false := by simpa using hm
  have hr := dayB_t hd
  have hd1 : dayB (n + 1) = true := by unfold dayB; exact decide_eq_true (by omega)
  have HW1 := fun W => weekday_any n W
  have HW2 := fun W => weekday_any (n + 1) W
  rw [week_t hd] at HW1
  rw [week_t hd1] at HW2
  obtain ⟨p, hp⟩ : ∃ p, p = (n + 719163) % 7 := ⟨_, rfl⟩
  obtain ⟨q, hq⟩ : ∃ q, q = (n + 1 + 719163) % 7 := ⟨_, rfl⟩
  rw [← hp] at HW1
  rw [← hq] at HW2
  have p1 : 0 ≤ p ∧ p ≤ 6 := by omega
  have pq : (q = p + 1) ∨ (p = 6 ∧ q = 0) := by omega
  clear hp hq
  have HC1 := hid (fun W h => (civil_any n W h))
  have HC2 := hid (fun W h => (civil_any (n + 1) W h))
  have HDD := hid (And.intro hd hd1)
  clear hd hd1
  go_enter Tryd.func7, Tryd.ntmps7
  go_wp2_with fail
  refine (unhid HD).mono ?_
  rintro e u1 ⟨rfl, b1⟩
  have HT1 := hid ((unhid HT).below b1)
  go_wp2_with fail
  refine (unhid HC1 _ (unhid HT1)).mono ?_
  rintro e u2 ⟨v, rfl, hv, b2⟩
  obtain ⟨y, m, d, g1, g2, rfl⟩ := hv.yes (unhid HDD).1
  have HG := hid (And.intro g1 g2)
  have y1 := vld_iff.1 g1
  have y2 := dim_bd y m
  clear hv g1 g2
  have HT2 := hid ((unhid HT1).below b2)
  go_wp2_with fail
  refine (unhid HC2 _ (unhid HT2)).mono ?_
  rintro e u3 ⟨v, rfl, hv, b3⟩
  obtain ⟨y', m', d', k1, k2, rfl⟩ := hv.yes (unhid HDD).2
  have hnx := next_day (unhid HG).1 k1 (by rw [k2, (unhid HG).2])
  have hbel : Below w.heap.size w u3 := belowsD (belowsD b1 b2) b3
  clear hv k1 k2 HG HDD HC1 HC2 HT HT1 HT2 HD b1 b2 b3
  clear hm
  go_wp2_with fail
  refine (HW1 _).mono ?_
  rintro e w' ⟨rfl, rfl⟩
  go_wp2_with fail
  refine (HW2 _).mono ?_
  rintro e w' ⟨rfl, rfl⟩
  clear HW1 HW2 hr hm'
  rcases hnx with ⟨rfl, rfl, rfl⟩ | ⟨rfl, rfl, rfl, hk⟩ | ⟨rfl, rfl, rfl, rfl, rfl⟩
  · rcases pq with rfl | ⟨rfl, rfl⟩
    · go_wp2
      go_ret
      exact ⟨by simp, hbel⟩
    · go_wp2
      go_ret
      exact ⟨by simp, hbel⟩
  · rcases pq with rfl | ⟨rfl, rfl⟩
    · go_wp2
      go_ret
      exact ⟨by simp, hbel⟩
    · go_wp2
      go_ret
      exact ⟨by simp, hbel⟩
  · rcases pq with rfl | ⟨rfl, rfl⟩
    · go_wp2
      go_ret
      exact ⟨by simp, hbel⟩
    · go_wp2
      go_ret
      exact ⟨by simp, hbel⟩

end Go.Proofs.YtegkcjbbnfnljaaDoor
