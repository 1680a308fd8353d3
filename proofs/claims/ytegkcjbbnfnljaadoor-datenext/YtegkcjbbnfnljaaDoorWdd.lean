/-
  The walk of missivelaw10.DateDays, over this seat's program.
-/
import Derived.Test.YtegkcjbbnfnljaaDoorWdn
set_option linter.unusedVariables false
namespace Go.Proofs.YtegkcjbbnfnljaaDoor
open Go.RowKit Go.Proofs.Dcl

theorem dateNext_walk (n : Int) (w : World) (ht : LTab w) :
    Calls Tryd.prog 7 #[.int .i64 n] w fun e w' => e = .returned (.bool true) ∧ Below w.heap.size w w' := by
  cases hd : dayB n
  · exact dateNext_no n w ht hd
  · by_cases hm : n = 2932896
    · exact dateNext_last n w ht hm
    · exact dateNext_more n w ht hd hm

theorem dayV_two (y m d : Int) : ∃ a b : Int, dayV y m d = .tuple #[.int .i64 a, .int .i64 b] := by
  unfold dayV; split
  · exact ⟨_, _, rfl⟩
  · exact ⟨_, _, rfl⟩
theorem weekV_two (n : Int) : ∃ a b : Int, weekV n = .tuple #[.int .i64 a, .int .i64 b] := by
  unfold weekV; split
  · exact ⟨_, _, rfl⟩
  · exact ⟨_, _, rfl⟩
theorem civ_four {n : Int} {v : Value} (h : CivIs n v) : ∃ a b c k : Int, v = .tuple #[.int .i64 a, .int .i64 b, .int .i64 c, .int .i64 k] := by
  rcases h with ⟨_, h⟩ | ⟨_, y, m, d, _, _, h⟩
  · exact ⟨_, _, _, _, h⟩
  · exact ⟨_, _, _, _, h⟩
theorem civ_one {n : Int} {v v' : Value} (h : CivIs n v) (h' : CivIs n v') : v' = v := by
  rcases h with ⟨hd, rfl⟩ | ⟨hd, y, m, d, hv, hn, rfl⟩
  · exact h'.no hd
  · exact civ_known h' hv hn

set_option maxHeartbeats 1000000 in
theorem dateDays_walk (y m d n : Int) (w : World) (ht : LTab w) :
    Calls Tryd.prog 3 #[.int .i64 y, .int .i64 m, .int .i64 d, .int .i64 n] w fun e w' => e = .returned (.bool true) ∧ Below w.heap.size w w' := by
  obtain ⟨a, b, hab⟩ := dayV_two y m d
  obtain ⟨p, q, hpq⟩ := weekV_two n
  have H1 := hid (day_any y m d w ht)
  have H2 := hid (fun W => refDay_any y m d W)
  rw [hab] at H1 H2
  have H3 := hid (civil_any n w ht)
  have H4 := hid (fun W => refCivil_any n W)
  have H5 := hid (fun W => weekday_any n W)
  have H6 := hid (fun W => refWeekday_any n W)
  rw [hpq] at H5 H6
  have HT := hid ht
  clear hab hpq ht
  go_enter Tryd.func3, Tryd.ntmps3
  go_wp2_with fail
  refine (unhid H1).mono ?_
  rintro e _ ⟨rfl, rfl⟩
  go_wp2_with fail
  refine (unhid H2 _).mono ?_
  rintro e _ ⟨rfl, rfl⟩
  go_wp2_with fail
  refine (unhid H3).mono ?_
  rintro e u ⟨v, rfl, hv, bel⟩
  obtain ⟨r1, r2, r3, r4, rfl⟩ := civ_four hv
  have HV := hid hv
  clear hv
  go_wp2_with fail
  refine (unhid H4 _).mono ?_
  rintro e _ ⟨v', rfl, hv', rfl⟩
  obtain rfl := civ_one (unhid HV) hv'
  clear hv'
  go_wp2_with fail
  refine (unhid H5 _).mono ?_
  rintro e _ ⟨rfl, rfl⟩
  go_wp2_with fail
  refine (unhid H6 _).mono ?_
  rintro e _ ⟨rfl, rfl⟩
  have HD := days_any _ ((unhid HT).below bel)
  go_wp2_with fail
  refine HD.mono ?_
  rintro e u2 ⟨rfl, b2⟩
  go_wp2
  go_ret
  exact ⟨by simp, belowsD bel b2⟩

end Go.Proofs.YtegkcjbbnfnljaaDoor
