/-
  The walk of missivelaw07.FoldLetters, over this seat's program.
-/
import Derived.Test.YtpblbeaifolldaaDoorFrf
import Derived.Test.YtpblbeaifolldaaDoorFlv
set_option linter.unusedVariables false
namespace Go.Proofs.YtpblbeaifolldaaDoor.foldLetters
open Go.RowKit Go.Proofs.Rns Go.Proofs.Fol

set_option maxHeartbeats 1000000 in
set_option maxRecDepth 100000 in
theorem walk (a0 : Int) (v1 : Value) (l1 : List Int) (s : ByteArray) (w : World) (ht : RTab w) (w0 : (Lit.int .i32 a0).wf = true) (w1 : RowI w v1 l1) (n1 : Neat v1) (hsum : l1.length + s.size ≤ 1048576) :
    Calls Tryd.prog 3 #[.int .i32 a0, v1, .string s] w fun e w' => e = .returned (.bool true) ∧ Below w.heap.size w w' := by
  have hr := i32_range w0
  have H0 := hide ht
  have HL := hide (foldLives_any w ht)
  have HO1 := hide (fun W => one_any a0 W hr)
  have HO2 := hide (fun W => refOne_any a0 W hr)
  have e1 : (oneL a0 == oneL a0) = true := by simp
  have HR := hide w1
  have HF1 := hide (fun W (h : RowI W v1 l1) => fold_any v1 l1 W h (by omega))
  have HF2 := hide (fun W (h : RowI W v1 l1) => refFold_any v1 l1 W h (by omega))
  have HT1 := hide (fun W (h : RTab W) => text_any s W h (by omega))
  have HT2 := hide (fun W => refText_any s W (by omega))
  have hll := lettersL_len s.data.toList
  rw [sizeL] at hll
  have hlf : (l1.map oneL).length ≤ 1048576 := by simp; omega
  have hlt : ((ints (lettersL s.data.toList)).map oneL).length ≤ 1048576 := by simp [ints]; omega
  generalize oneL a0 = k at HO1 HO2 e1
  generalize l1.map oneL = fl at HF1 HF2 hlf
  generalize (ints (lettersL s.data.toList)).map oneL = ft at HT1 HT2 hlt
  clear ht w1 n1 hr w0 hll
  go_enter Tryd.func3, Tryd.ntmps3
  go_wp2_with fail
  refine (unhide HL).mono ?_
  rintro e u1 ⟨rfl, b1⟩
  have HB1 := hide b1
  clear b1
  go_wp2_with fail
  refine (unhide HO1 _).mono ?_
  rintro e u2 ⟨rfl, rfl⟩
  go_wp2_with fail
  refine (unhide HO2 _).mono ?_
  rintro e u2 ⟨rfl, rfl⟩
  go_wp2_with fail
  refine (unhide HF1 _ ((unhide HR).below (unhide HB1))).mono ?_
  rintro e u3 ⟨v3, rfl, r3, b3⟩
  have HB3 := hide (belows' (unhide HB1) b3)
  have HR3 := hide r3
  clear r3 b3
  go_wp2_with fail
  refine (unhide HF2 _ ((unhide HR).below (unhide HB3))).mono ?_
  rintro e u4 ⟨v4, rfl, r4, b4⟩
  have HB4 := hide (belows' (unhide HB3) b4)
  have HS1 := hide (same_any v3 v4 fl fl u4 ((unhide HR3).below b4) r4 (by omega))
  rw [show decide (fl = fl) = true from decide_eq_true rfl] at HS1
  clear r4 b4
  go_wp2_with fail
  refine (unhide HS1).mono ?_
  rintro e u5 ⟨rfl, b5⟩
  have HB5 := hide (belows' (unhide HB4) b5)
  clear b5
  go_wp2_with fail
  refine (unhide HT1 _ ((unhide H0).below (unhide HB5))).mono ?_
  rintro e u6 ⟨v6, rfl, r6, b6⟩
  have HB6 := hide (belows' (unhide HB5) b6)
  have HR6 := hide r6
  clear r6 b6
  go_wp2_with fail
  refine (unhide HT2 _).mono ?_
  rintro e u7 ⟨v7, rfl, r7, b7⟩
  have HB7 := hide (belows' (unhide HB6) b7)
  have HS2 := hide (same_any v6 v7 ft ft u7 ((unhide HR6).below b7) r7 (by omega))
  rw [show decide (ft = ft) = true from decide_eq_true rfl] at HS2
  clear r7 b7
  go_wp2_with fail
  refine (unhide HS2).mono ?_
  rintro e u8 ⟨rfl, b8⟩
  have HB8 := hide (belows' (unhide HB7) b8)
  clear b8
  go_wp2
  go_ret
  exact ⟨rfl, unhide HB8⟩
end Go.Proofs.YtpblbeaifolldaaDoor.foldLetters
