/-
  The walk of missivelaw10.DateTexts, over this seat's program.
-/
import Derived.Test.YtoegfnonfmcnbaaDoorRpd
import Derived.Test.YtoegfnonfmcnbaaDoorRww
import Derived.Test.YtoegfnonfmcnbaaDoorRml
import Derived.Test.YtoegfnonfmcnbaaDoorDma
import Derived.Test.YtoegfnonfmcnbaaDoorWtx
set_option linter.unusedVariables false
namespace Go.Proofs.YtoegfnonfmcnbaaDoor
open Go.RowKit Go.Proofs.Dcl

theorem numV_pair (o : Option Int) (k : Int) : ∃ a c, numV o k = .tuple #[.int .i64 a, .int .i64 c] := by
  cases o with
  | none => exact ⟨_, _, rfl⟩
  | some n => exact ⟨_, _, rfl⟩
/-- A day's text, or none, as both tell it. -/
def wrtV (n : Int) (v : ByteArray) (c : Int) : Prop :=
  ∀ W, LTab W → (Calls Tryd.prog 7 #[.int .i64 n] W fun e w' => e = .returned (.tuple #[.string v, .int .i64 c]) ∧ Below W.heap.size W w') ∧
    (Calls Tryd.prog 8 #[.int .i64 n] W fun e w' => e = .returned (.tuple #[.string v, .int .i64 c]) ∧ Below W.heap.size W w')
theorem wrtV_of (n : Int) : ∃ v c, wrtV n v c := by
  cases h : dayB n
  · refine ⟨bts [], 1, fun W ht => ⟨(write_no n W h).mono ?_, (refWriteD_no n W h).mono ?_⟩⟩
    · rintro e w' ⟨rfl, rfl⟩; exact ⟨rfl, Below.refl _ _⟩
    · rintro e w' ⟨rfl, rfl⟩; exact ⟨rfl, Below.refl _ _⟩
  · obtain ⟨y, m, d, hv, hn⟩ := day_exists h
    exact ⟨bts (dayT y m d), 0, fun W ht => ⟨write_yes y m d n W ht hv hn, refWriteD_yes y m d n W hv hn⟩⟩

set_option maxHeartbeats 2000000 in
set_option maxRecDepth 100000 in
theorem dateTexts_walk (s : ByteArray) (n : Int) (w : World) (ht : LTab w) (hs : s.size ≤ 1048576) :
    Calls Tryd.prog 3 #[.string s, .int .i64 n] w fun e w' => e = .returned (.bool true) ∧ Below w.heap.size w w' := by
  have HP1 := hide (fun W (h : LTab W) => parse_any s W h (by omega))
  have HP2 := hide (fun W => refParse10_any s W)
  rw [parse_doc] at HP1
  obtain ⟨a, c, hac⟩ := numV_pair (docP s.data.toList) 7
  rw [hac] at HP1 HP2
  have HM1 := hide (fun W (h : LTab W) => mail_gen s.data.toList W h (by rw [sizeL]; omega))
  have HM2 := hide (fun W => refMail_any s W (by omega))
  rw [mail_doc, bts_toList] at HM1
  obtain ⟨a2, c2, hac2⟩ := numV_pair (docM s.data.toList) 7
  rw [hac2] at HM1 HM2
  obtain ⟨v, c3, hw⟩ := wrtV_of n
  have HW := hide hw
  have HX := hide (fun W (h : LTab W) => texts_any W h)
  have HT := hide ht
  clear hac hac2 hw ht hs
  go_enter Tryd.func3, Tryd.ntmps3
  go_wp2_with fail
  refine (unhide HP1 _ (unhide HT)).mono ?_
  rintro e W1 ⟨rfl, hb⟩
  have HB1 := hide hb
  clear hb HP1
  go_wp2_with fail
  refine (unhide HP2 _).mono ?_
  rintro e W2 ⟨rfl, hb⟩
  have HB2 := hide (belows' (unhide HB1) hb)
  clear hb HP2 HB1
  go_wp2_with fail
  refine (unhide HW _ ((unhide HT).below (unhide HB2))).1.mono ?_
  rintro e W3 ⟨rfl, hb⟩
  have HB3 := hide (belows' (unhide HB2) hb)
  clear hb HB2
  go_wp2_with fail
  refine (unhide HW _ ((unhide HT).below (unhide HB3))).2.mono ?_
  rintro e W4 ⟨rfl, hb⟩
  have HB4 := hide (belows' (unhide HB3) hb)
  clear hb HB3 HW
  go_wp2_with fail
  refine (unhide HM1 _ ((unhide HT).below (unhide HB4))).mono ?_
  rintro e W5 ⟨rfl, hb⟩
  have HB5 := hide (belows' (unhide HB4) hb)
  clear hb HB4 HM1
  go_wp2_with fail
  refine (unhide HM2 _).mono ?_
  rintro e W6 ⟨rfl, hb⟩
  have HB6 := hide (belows' (unhide HB5) hb)
  clear hb HB5 HM2
  go_wp2_with fail
  refine (unhide HX _ ((unhide HT).below (unhide HB6))).mono ?_
  rintro e W7 ⟨rfl, hb⟩
  have HB7 := hide (belows' (unhide HB6) hb)
  clear hb HB6 HX
  go_wp2
  go_ret
  exact ⟨by simp, unhide HB7⟩
end Go.Proofs.YtoegfnonfmcnbaaDoor
