/-
  What missivelaw28.LexNext does, over this seat's program.
-/
import Derived.Test.YtafegjbhaofgiaaDoorLxx
import Derived.Test.YtafegjbhaofgiaaDoorLxn
set_option linter.unusedVariables false
set_option linter.unusedSimpArgs false
namespace Go.Proofs.YtafegjbhaofgiaaDoor
open Go.RowKit Go.Proofs.Lx

theorem nxV_form (D : List UInt8) : ∃ (A X : ByteArray) (E : Int), nxV D = .tuple #[.string A, .string X, .int .i64 E] := by
  unfold nxV
  split
  · exact ⟨_, _, _, rfl⟩
  · exact ⟨_, _, _, rfl⟩
theorem annV_form (o : Option Nat) : ∃ (n : Int) (b : Bool), annV o = .tuple #[.int .i64 n, .bool b] := by
  cases o with
  | none => exact ⟨_, _, rfl⟩
  | some n => exact ⟨_, _, rfl⟩
set_option maxHeartbeats 1000000 in
set_option maxRecDepth 100000 in
theorem lexNext_walk (s : ByteArray) (w : World) (hE : PowT w) (hs : s.size ≤ 1048576) :
    Calls Tryd.prog 3 #[.string s] w fun e w' => e = .returned (.bool true) ∧ Below w.heap.size w w' := by
  have HE := hide hE
  have H1 := hide (fun W => next_any s W (by omega))
  have H2 := hide (fun W => refNext_any s W (by omega))
  have H3 := hide (fun W => annL_any s W (by omega))
  have H4 := hide (fun W => refAnn_any s W (by omega))
  obtain ⟨A, X, E, h⟩ := nxV_form s.data.toList
  rw [h] at H1 H2
  obtain ⟨n, b, h'⟩ := annV_form (annL s.data.toList)
  rw [h'] at H3 H4
  clear h h' hE
  go_enter Tryd.func3, Tryd.ntmps3
  go_wp2_with fail
  refine (unhide H1 _).mono ?_
  rintro e w1 ⟨rfl, b1⟩
  have B1 := hide b1
  clear b1
  go_wp2_with fail
  refine (unhide H2 _).mono ?_
  rintro e w2 ⟨rfl, b2⟩
  have B2 := hide (belows' (unhide B1) b2)
  clear b2
  go_wp2_with fail
  refine (unhide H3 _).mono ?_
  rintro e w3 ⟨rfl, h3⟩
  subst h3
  go_wp2_with fail
  refine (unhide H4 _).mono ?_
  rintro e w3 ⟨rfl, h3⟩
  subst h3
  have HL := hide (livesX_any _ ((unhide HE).below (unhide B2)))
  go_wp2_with fail
  refine (unhide HL).mono ?_
  rintro e w4 ⟨rfl, b4⟩
  have B4 := hide (belows' (unhide B2) b4)
  clear b4
  cases b <;>
  · go_wp2
    go_ret
    exact ⟨rfl, unhide B4⟩
end Go.Proofs.YtafegjbhaofgiaaDoor
