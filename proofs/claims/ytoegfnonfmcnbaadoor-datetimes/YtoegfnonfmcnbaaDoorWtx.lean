/-
  The walk of missivelaw10.texts, over this seat's program.
-/
import Derived.Test.YtoegfnonfmcnbaaDoorDpu
import Derived.Test.YtoegfnonfmcnbaaDoorDwz
import Derived.Test.YtoegfnonfmcnbaaDoorDmm
set_option linter.unusedVariables false
namespace Go.Proofs.YtoegfnonfmcnbaaDoor
open Go.RowKit Go.Proofs.Dcl

theorem ix_all (L : List UInt8) (h : L.all (fun b => decide (b.toNat < 128)) = true) (hl : L.length ≤ 1000) : ∀ t, t <:+ L → IxAny t := by
  intro t ht
  refine ixAny_ascii t (fun c hc => ?_) (by have := ht.length_le; omega)
  have := List.all_eq_true.1 h c (ht.subset hc)
  simpa using this

set_option maxHeartbeats 2000000 in
set_option maxRecDepth 100000 in
theorem texts_any (w : World) (ht : LTab w) :
    Calls Tryd.prog 11 #[] w fun e w' => e = .returned (.bool true) ∧ Below w.heap.size w w' := by
  have H1 := hide (parse_any (bts [53, 45, 102, 101, 98, 45, 49, 57, 57, 54]) w ht (by decide))
  rw [toList_bts, show parseR [53, 45, 102, 101, 98, 45, 49, 57, 57, 54] = some 9531 by decide +kernel] at H1
  simp only [bts, numV] at H1
  have H2 := hide (fun W (h : LTab W) => write_yes 1996 2 5 9531 W h (by decide +kernel) (by decide +kernel))
  rw [show dayT 1996 2 5 = [53, 45, 70, 101, 98, 45, 49, 57, 57, 54] by decide +kernel] at H2
  simp only [bts] at H2
  have H3 := hide (fun W (h : LTab W) => parseTime_any [49, 55, 45, 74, 117, 108, 45, 49, 57, 57, 54, 32, 48, 50, 58, 52, 52, 58, 50, 53, 32, 45, 48, 55, 48, 48] W h (by decide))
  rw [show ptR [49, 55, 45, 74, 117, 108, 45, 49, 57, 57, 54, 32, 48, 50, 58, 52, 52, 58, 50, 53, 32, 45, 48, 55, 48, 48] = some (9694, 9865, -420) by decide +kernel] at H3
  simp only [bts, timV] at H3
  have H4 := hide (fun W (h : LTab W) => writeTime_yes 1996 7 17 9865 9694 (-420) W h (by decide +kernel) (by decide +kernel) (by decide) (by decide) (by decide))
  rw [show timT 1996 7 17 9865 (-420) = [49, 55, 45, 74, 117, 108, 45, 49, 57, 57, 54, 32, 48, 50, 58, 52, 52, 58, 50, 53, 32, 45, 48, 55, 48, 48] by decide +kernel] at H4
  simp only [bts] at H4
  have H5 := hide (fun W (h : LTab W) => mail_any [77, 111, 110, 44, 32, 53, 32, 70, 101, 98, 32, 57, 54, 32, 49, 48, 58, 48, 48, 32, 71, 77, 84] W h (by decide) (ix_all _ (by decide +kernel) (by decide)))
  rw [show mailR [77, 111, 110, 44, 32, 53, 32, 70, 101, 98, 32, 57, 54, 32, 49, 48, 58, 48, 48, 32, 71, 77, 84] = some 9531 by decide +kernel] at H5
  simp only [bts, numV] at H5
  have H6 := hide (fun W (h : LTab W) => parse_any (bts [48, 53, 45, 70, 101, 98, 45, 49, 57, 57, 54]) W h (by decide))
  rw [toList_bts, show parseR [48, 53, 45, 70, 101, 98, 45, 49, 57, 57, 54] = none by decide +kernel] at H6
  simp only [bts, numV] at H6
  have H7 := hide (fun W (h : LTab W) => mail_any [116, 111, 109, 111, 114, 114, 111, 119] W h (by decide) (ix_all _ (by decide +kernel) (by decide)))
  rw [show mailR [116, 111, 109, 111, 114, 114, 111, 119] = none by decide +kernel] at H7
  simp only [bts, numV] at H7
  have HT := hide ht
  clear ht
  go_enter Tryd.func11, Tryd.ntmps11
  go_wp2_with fail
  refine (unhide H1).mono ?_
  rintro e W1 ⟨rfl, hb⟩
  have HB1 := hide hb
  have HT1 := hide ((unhide HT).below hb)
  clear hb H1
  go_wp2_with fail
  refine (unhide H2 _ (unhide HT1)).mono ?_
  rintro e W2 ⟨rfl, hb⟩
  have HB2 := hide (belowsD (unhide HB1) hb)
  have HT2 := hide ((unhide HT).below (unhide HB2))
  clear hb H2 HB1 HT1
  go_wp2_with fail
  refine (unhide H3 _ (unhide HT2)).mono ?_
  rintro e W3 ⟨rfl, hb⟩
  have HB3 := hide (belowsD (unhide HB2) hb)
  have HBA := hide ((unhide HB3).alloc (unhide HB3).size (.cells #[.int .i64 9694, .int .i64 9865, .int .i64 (-420)] 30))
  have HTA := hide ((unhide HT).below (unhide HBA))
  have c1 : (W3.alloc (.cells #[.int .i64 9694, .int .i64 9865, .int .i64 (-420)] 30)).cell? ⟨W3.heap.size, 1, none⟩ = some (.int .i64 9865) := (Blk.cell (Blk.new W3 _ _) 1).trans rfl
  have c2 : (W3.alloc (.cells #[.int .i64 9694, .int .i64 9865, .int .i64 (-420)] 30)).cell? ⟨W3.heap.size, 2, none⟩ = some (.int .i64 (-420)) := (Blk.cell (Blk.new W3 _ _) 2).trans rfl
  clear hb H3 HB2 HT2 HB3
  have HC := hide (And.intro c1 c2)
  have hlt : W3.heap.size < (W3.alloc (.cells #[.int .i64 9694, .int .i64 9865, .int .i64 (-420)] 30)).heap.size := by simp
  have HLT := hide hlt
  clear c1 c2 hlt
  go_wp2_with fail
  generalize W3.alloc (.cells #[.int .i64 9694, .int .i64 9865, .int .i64 (-420)] 30) = W4 at HBA HTA HC HLT ⊢
  refine (unhide H4 _ (unhide HTA)).mono ?_
  rintro e W5 ⟨rfl, hb5⟩
  have HB5 := hide (belowsD (unhide HBA) hb5)
  have HT5 := hide ((unhide HT).below (unhide HB5))
  clear H4
  go_wp2_with fail
  refine (unhide H5 _ (unhide HT5)).mono ?_
  rintro e W6 ⟨rfl, hb6⟩
  have HB6 := hide (belowsD (unhide HB5) hb6)
  have HT6 := hide ((unhide HT).below (unhide HB6))
  clear H5
  go_wp2_with fail
  refine (unhide H6 _ (unhide HT6)).mono ?_
  rintro e W7 ⟨rfl, hb7⟩
  have HB7 := hide (belowsD (unhide HB6) hb7)
  have HT7 := hide ((unhide HT).below (unhide HB7))
  clear H6
  go_wp2_with fail
  refine (unhide H7 _ (unhide HT7)).mono ?_
  rintro e W8 ⟨rfl, hb8⟩
  have HB8 := hide (belowsD (unhide HB7) hb8)
  have hall : Below W4.heap.size W4 W8 := belowsD (belowsD (belowsD hb5 hb6) hb7) hb8
  have c1 : W8.cell? ⟨W3.heap.size, 1, none⟩ = some (.int .i64 9865) := (hall.cell (p := ⟨W3.heap.size, 1, none⟩) (unhide HLT)).trans (unhide HC).1
  have c2 : W8.cell? ⟨W3.heap.size, 2, none⟩ = some (.int .i64 (-420)) := (hall.cell (p := ⟨W3.heap.size, 2, none⟩) (unhide HLT)).trans (unhide HC).2
  clear hb5 hb6 hb7 hb8 hall H7
  go_wp2
  go_ret
  exact ⟨by simp, unhide HB8⟩

end Go.Proofs.YtoegfnonfmcnbaaDoor
