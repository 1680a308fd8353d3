/-
  The walk of missivelaw06.RunesDecodes, over this seat's program.
-/
import Derived.Test.YtidbnkkgilgjoaaDoorRlt
import Derived.Test.YtidbnkkgilgjoaaDoorRlv
set_option linter.unusedVariables false
namespace Go.Proofs.YtidbnkkgilgjoaaDoor.runesDecodes
open Go.RowKit Go.Proofs.Rns

theorem u8_range {n : Int} (h : (Lit.int .u8 n).wf = true) : 0 ≤ n ∧ n ≤ 255 := by
  simpa [Lit.wf, IntKind.min, IntKind.max, IntKind.signed, IntKind.bits] using h
theorem decR_len (c : Nat) (s : List UInt8) : (decR c s).1.length ≤ s.length := by
  unfold decR decL
  split
  · split
    · exact lettersL_len s
    · simp
  · simp

set_option maxHeartbeats 1000000 in
set_option maxRecDepth 100000 in
theorem walk (a0 : Int) (s : ByteArray) (w : World) (ht : RTabN w) (w0 : (Lit.int .u8 a0).wf = true) (hsum : s.size ≤ 1048576) :
    Calls Tryd.prog 3 #[.int .u8 a0, .string s] w fun e w' => e = .returned (.bool true) ∧ Below w.heap.size w w' := by
  have hr := u8_range w0
  obtain ⟨c, rfl⟩ : ∃ c : Nat, a0 = (c : Int) := ⟨a0.toNat, by omega⟩
  have hc256 : c < 256 := by omega
  have hsl := sizeL s
  have H0 := hide ht
  have HD := hide (decode_any c s w ht.toRTab hc256 (by omega))
  have HR := hide (fun W => refDecode_any c s W hc256 (by omega))
  have HL := hide (fun W (h : RTabN W) => letters_any s W h.toRTab (by omega))
  have HM := hide (fun W => refLetters_any s W (by omega))
  have i1 := decR_is c s.data.toList
  have i2 := lettersL_is s.data.toList
  have k1 := decR_len c s.data.toList
  have k2 := lettersL_len s.data.toList
  rw [hsl] at k1 k2
  generalize (decR c s.data.toList).1 = p at HD HR i1 k1
  generalize (decR c s.data.toList).2 = er at HD HR
  generalize lettersL s.data.toList = q at HL HM i2 k2
  have HI1 := hide i1
  have HI2 := hide i2
  have ee : ((er : Int) == (er : Int)) = true := by simp
  clear ht hr w0 hsl i1 i2
  go_enter Tryd.func3, Tryd.ntmps3
  go_wp2_with fail
  refine (unhide HD).mono ?_
  rintro e u1 ⟨v1, rfl, o1, b1⟩
  have HX := hide (own_rowI o1 (unhide HI1))
  have HB1 := hide b1
  clear o1 b1
  go_wp2_with fail
  refine (unhide HR _).mono ?_
  rintro e u2 ⟨v2, rfl, o2, b2⟩
  have HX2 := hide ((unhide HX).below b2)
  have HY := hide (own_rowI o2 (unhide HI1))
  have HB2 := hide (belows' (unhide HB1) b2)
  clear o2 b2
  have HLV := hide (lives_any u2 ((unhide H0).below (unhide HB2)))
  go_wp2_with fail
  refine (unhide HLV).mono ?_
  rintro e u3 ⟨rfl, b3⟩
  have HX3 := hide ((unhide HX2).below b3)
  have HY3 := hide ((unhide HY).below b3)
  have HB3 := hide (belows' (unhide HB2) b3)
  clear b3
  have HS1 := hide (same_any v1 v2 (ints p) (ints p) u3 (unhide HX3) (unhide HY3) (by simp [ints]; omega))
  rw [show decide (ints p = ints p) = true from decide_eq_true rfl] at HS1
  go_wp2_with fail
  refine (unhide HS1).mono ?_
  rintro e u4 ⟨rfl, b4⟩
  have HB4 := hide (belows' (unhide HB3) b4)
  clear b4
  go_wp2_with fail
  refine (unhide HL _ ((unhide H0).below (unhide HB4))).mono ?_
  rintro e u5 ⟨v5, rfl, o5, b5⟩
  have HZ := hide (own_rowI o5 (unhide HI2))
  have HB5 := hide (belows' (unhide HB4) b5)
  clear o5 b5
  go_wp2_with fail
  refine (unhide HM _).mono ?_
  rintro e u6 ⟨v6, rfl, o6, b6⟩
  have HZ6 := hide ((unhide HZ).below b6)
  have HW6 := hide (own_rowI o6 (unhide HI2))
  have HB6 := hide (belows' (unhide HB5) b6)
  clear o6 b6
  have HS2 := hide (same_any v5 v6 (ints q) (ints q) u6 (unhide HZ6) (unhide HW6) (by simp [ints]; omega))
  rw [show decide (ints q = ints q) = true from decide_eq_true rfl] at HS2
  go_wp2_with fail
  refine (unhide HS2).mono ?_
  rintro e u7 ⟨rfl, b7⟩
  have HB7 := hide (belows' (unhide HB6) b7)
  clear b7
  go_wp2
  go_ret
  exact ⟨rfl, unhide HB7⟩
end Go.Proofs.YtidbnkkgilgjoaaDoor.runesDecodes
