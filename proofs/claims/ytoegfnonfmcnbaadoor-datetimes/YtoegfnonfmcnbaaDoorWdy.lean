/-
  The walk of missivelaw10.DateTimes, over this seat's program.
-/
import Derived.Test.YtoegfnonfmcnbaaDoorRpq
import Derived.Test.YtoegfnonfmcnbaaDoorRwt
import Derived.Test.YtoegfnonfmcnbaaDoorDpu
import Derived.Test.YtoegfnonfmcnbaaDoorWtx
set_option linter.unusedVariables false
namespace Go.Proofs.YtoegfnonfmcnbaaDoor
open Go.RowKit Go.Proofs.Dcl

theorem timV_pair (o : Option (Int × Int × Int)) : ∃ a b c k, timV o = .tuple #[.agg #[.int .i64 a, .int .i64 b, .int .i64 c], .int .i64 k] := by
  cases o with
  | none => exact ⟨_, _, _, _, rfl⟩
  | some n => exact ⟨_, _, _, _, rfl⟩
/-- A time's text, or none, as both tell it. -/
def wtmV (d s z : Int) (v : ByteArray) (c : Int) : Prop :=
  ∀ W, LTab W → (Calls Tryd.prog 14 #[.agg #[.int .i64 d, .int .i64 s, .int .i64 z]] W fun e w' => e = .returned (.tuple #[.string v, .int .i64 c]) ∧ Below W.heap.size W w') ∧
    (Calls Tryd.prog 15 #[.agg #[.int .i64 d, .int .i64 s, .int .i64 z]] W fun e w' => e = .returned (.tuple #[.string v, .int .i64 c]) ∧ Below W.heap.size W w')
theorem right_partsT {d s z : Int} (h : rightB d s z = true) : ∃ y m dd S : Nat, vldB y m dd = true ∧ num y m dd = d ∧ s = (S : Int) ∧ S ≤ 86399 ∧ -5999 ≤ z ∧ z ≤ 5999 := by
  obtain ⟨a, b, c, e, f, g⟩ := rightB_is.1 h
  have hd : dayB d = true := by unfold dayB; exact decide_eq_true ⟨a, b⟩
  obtain ⟨y, m, dd, hv, hn⟩ := day_exists hd
  exact ⟨y, m, dd, s.toNat, hv, hn, by omega, by omega, f, g⟩
theorem wtmV_of (d s z : Int) : ∃ v c, wtmV d s z v c := by
  cases h : rightB d s z
  · exact ⟨bts [], 2, fun W ht => ⟨writeTime_no d s z W h, refWriteT_no d s z W h⟩⟩
  · obtain ⟨y, m, dd, S, hv, hn, rfl, hS, hz1, hz2⟩ := right_partsT h
    exact ⟨bts (timT y m dd S z), 0, fun W ht => ⟨writeTime_yes y m dd S d z W ht hv hn hS hz1 hz2, refWriteT_yes y m dd S d z W hv hn hS hz1 hz2⟩⟩

set_option maxHeartbeats 4000000 in
set_option maxRecDepth 100000 in
theorem dateTimes_walk (s : ByteArray) (d x z : Int) (w : World) (ht : LTab w) (hs : s.size ≤ 140737488351232) :
    Calls Tryd.prog 4 #[.string s, .agg #[.int .i64 d, .int .i64 x, .int .i64 z]] w fun e w' => e = .returned (.bool true) ∧ Below w.heap.size w w' := by
  have HP1 := hide (fun W (h : LTab W) => parseTime_any s.data.toList W h (by rw [sizeL]; omega))
  have HP2 := hide (fun W => refParseT_any s W)
  rw [time_doc, bts_toList] at HP1
  obtain ⟨a, b, c, k, hac⟩ := timV_pair (docT s.data.toList)
  rw [hac] at HP1 HP2
  obtain ⟨v, c3, hw⟩ := wtmV_of d x z
  have HW := hide hw
  have HX := hide (fun W (h : LTab W) => texts_any W h)
  have hA : Below w.heap.size w (w.alloc (.cells #[.int .i64 d, .int .i64 x, .int .i64 z] 30)) := (Below.refl _ w).alloc (Nat.le_refl _) _
  have HT := hide ht
  have HBx := hide (Blk.new w 30 #[.int .i64 d, .int .i64 x, .int .i64 z])
  have HA := hide hA
  clear hac hw ht hs hA
  go_enter Tryd.func4, Tryd.ntmps4
  go_wp2_with fail
  generalize w.alloc (.cells #[.int .i64 d, .int .i64 x, .int .i64 z] 30) = W0 at HBx HA ⊢
  refine (unhide HP1 _ ((unhide HT).below (unhide HA))).mono ?_
  rintro e W1 ⟨rfl, hb⟩
  have HB1 := hide (belows' (unhide HA) hb)
  have HBx1 := hide ((unhide HBx).below hb)
  clear hb HP1 HA HBx
  go_wp2_with fail
  have HBa := hide (Blk.new W1 30 #[.int .i64 a, .int .i64 b, .int .i64 c])
  have hA2 : Below W1.heap.size W1 (W1.alloc (.cells #[.int .i64 a, .int .i64 b, .int .i64 c] 30)) := (Below.refl _ W1).alloc (Nat.le_refl _) _
  have HBx2 := hide ((unhide HBx1).below hA2)
  have HB2 := hide (belows' (unhide HB1) hA2)
  clear hA2 HB1 HBx1
  generalize W1.alloc (.cells #[.int .i64 a, .int .i64 b, .int .i64 c] 30) = W2 at HBa HBx2 HB2 ⊢
  generalize W1.heap.size = ba at HBa ⊢
  refine (unhide HP2 _).mono ?_
  rintro e W3 ⟨rfl, hb⟩
  have HB3 := hide (belows' (unhide HB2) hb)
  have HBx3 := hide ((unhide HBx2).below hb)
  have HBa3 := hide ((unhide HBa).below hb)
  clear hb HP2 HB2 HBx2 HBa
  have HBb := hide (Blk.new W3 30 #[.int .i64 a, .int .i64 b, .int .i64 c])
  have hA4 : Below W3.heap.size W3 (W3.alloc (.cells #[.int .i64 a, .int .i64 b, .int .i64 c] 30)) := (Below.refl _ W3).alloc (Nat.le_refl _) _
  have HBx4 := hide ((unhide HBx3).below hA4)
  have HBa4 := hide ((unhide HBa3).below hA4)
  have HB4 := hide (belows' (unhide HB3) hA4)
  have t0 : (W3.alloc (.cells #[.int .i64 a, .int .i64 b, .int .i64 c] 30)).cell? ⟨w.heap.size, 0, none⟩ = some (.int .i64 d) := (Blk.cell (unhide HBx4) 0).trans rfl
  have t1 : (W3.alloc (.cells #[.int .i64 a, .int .i64 b, .int .i64 c] 30)).cell? ⟨w.heap.size, 1, none⟩ = some (.int .i64 x) := (Blk.cell (unhide HBx4) 1).trans rfl
  have t2 : (W3.alloc (.cells #[.int .i64 a, .int .i64 b, .int .i64 c] 30)).cell? ⟨w.heap.size, 2, none⟩ = some (.int .i64 z) := (Blk.cell (unhide HBx4) 2).trans rfl
  clear hA4 HB3 HBx3 HBa3
  go_upto_region 3 with (fail)
  generalize W3.alloc (.cells #[.int .i64 a, .int .i64 b, .int .i64 c] 30) = W4 at HBb HBx4 HBa4 HB4 t0 t1 t2 ⊢
  generalize W3.heap.size = bb at HBb ⊢
  go_wp2_with fail
  refine (unhide HW _ ((unhide HT).below (unhide HB4))).1.mono ?_
  rintro e W5 ⟨rfl, hb⟩
  have HB5 := hide (belows' (unhide HB4) hb)
  have HBx5 := hide ((unhide HBx4).below hb)
  have HBa5 := hide ((unhide HBa4).below hb)
  have HBb5 := hide ((unhide HBb).below hb)
  clear hb HB4 HBx4 HBa4 HBb t0 t1 t2
  have t0 : W5.cell? ⟨w.heap.size, 0, none⟩ = some (.int .i64 d) := (Blk.cell (unhide HBx5) 0).trans rfl
  have t1 : W5.cell? ⟨w.heap.size, 1, none⟩ = some (.int .i64 x) := (Blk.cell (unhide HBx5) 1).trans rfl
  have t2 : W5.cell? ⟨w.heap.size, 2, none⟩ = some (.int .i64 z) := (Blk.cell (unhide HBx5) 2).trans rfl
  go_wp2_with fail
  refine (unhide HW _ ((unhide HT).below (unhide HB5))).2.mono ?_
  rintro e W6 ⟨rfl, hb⟩
  have HB6 := hide (belows' (unhide HB5) hb)
  have HBa6 := hide ((unhide HBa5).below hb)
  have HBb6 := hide ((unhide HBb5).below hb)
  clear hb HB5 HBx5 HBa5 HBb5 t0 t1 t2 HW
  go_wp2_with fail
  refine (unhide HX _ ((unhide HT).below (unhide HB6))).mono ?_
  rintro e W7 ⟨rfl, hb⟩
  have HB7 := hide (belows' (unhide HB6) hb)
  have ha7 := (unhide HBa6).below hb
  have hb7 := (unhide HBb6).below hb
  clear hb HB6 HBa6 HBb6 HX
  have a0 : W7.cell? ⟨ba, 0, none⟩ = some (.int .i64 a) := (Blk.cell ha7 0).trans rfl
  have a1 : W7.cell? ⟨ba, 1, none⟩ = some (.int .i64 b) := (Blk.cell ha7 1).trans rfl
  have a2 : W7.cell? ⟨ba, 2, none⟩ = some (.int .i64 c) := (Blk.cell ha7 2).trans rfl
  have b0 : W7.cell? ⟨bb, 0, none⟩ = some (.int .i64 a) := (Blk.cell hb7 0).trans rfl
  have b1 : W7.cell? ⟨bb, 1, none⟩ = some (.int .i64 b) := (Blk.cell hb7 1).trans rfl
  have b2 : W7.cell? ⟨bb, 2, none⟩ = some (.int .i64 c) := (Blk.cell hb7 2).trans rfl
  clear ha7 hb7
  go_wp2
  go_ret
  exact ⟨by simp, unhide HB7⟩
end Go.Proofs.YtoegfnonfmcnbaaDoor
