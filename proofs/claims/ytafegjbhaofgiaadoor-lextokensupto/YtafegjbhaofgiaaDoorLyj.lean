/-
  What missivelaw28.LexTokens does, over this seat's program.
-/
import Derived.Test.YtafegjbhaofgiaaDoorLyi
import Derived.Test.YtafegjbhaofgiaaDoorLxr
set_option linter.unusedVariables false
set_option linter.unusedSimpArgs false
namespace Go.Proofs.YtafegjbhaofgiaaDoor
open Go.RowKit Go.Proofs.Lx

theorem wrR_form (o : Option (List UInt8)) : ∃ (A : ByteArray) (E : Int), wrR o = .tuple #[.string A, .int .i64 E] := by
  cases o with
  | none => exact ⟨_, _, rfl⟩
  | some n => exact ⟨_, _, rfl⟩
theorem quoR_form (o : Option (List UInt8)) : ∃ (A : ByteArray) (E : Int), quoR o = .tuple #[.string A, .int .i64 E] := by
  cases o with
  | none => exact ⟨_, _, rfl⟩
  | some n => exact ⟨_, _, rfl⟩
set_option maxHeartbeats 1000000 in
set_option maxRecDepth 100000 in
theorem lexTokens_walk (s : ByteArray) (v : Value) (l : List Tok) (w : World) (hE : PowT w) (h : RowT w v l) (hs : s.size + sumT l ≤ 1048576) :
    Calls Tryd.prog 4 #[.string s, v] w fun e w' => e = .returned (.bool true) ∧ Below w.heap.size w w' := by
  have hmost := sumT_most l
  have HE := hide hE
  have HR := hide h
  have H1 := hide (fun W => tokens_any s W (by omega))
  have H2 := hide (fun W => refTokens_any s W (by omega))
  have H3 := hide (fun W (hW : PowT W) (hR : RowT W v l) => write_any v l W hW hR (by omega))
  have H4 := hide (fun W (hR : RowT W v l) => refWrite_any v l W hR (by omega))
  have H5 := hide (fun W => quote_any s W (by omega))
  have H6 := hide (fun W => refQuote_any s W (by omega))
  obtain ⟨X1, E1, h1⟩ := wrR_form (writeL l)
  rw [h1] at H3 H4
  obtain ⟨X2, E2, h2⟩ := quoR_form (quoteL s.data.toList)
  rw [h2] at H5 H6
  obtain ⟨a, cap, rfl, _, _, _⟩ := h
  clear h1 h2 hE hmost
  generalize (tokensL s.data.toList).2 = E0 at H1 H2
  generalize (tokensL s.data.toList).1 = T0 at H1 H2
  generalize l.length = n at HR H3 H4 ⊢
  go_enter Tryd.func4, Tryd.ntmps4
  go_wp2_with fail
  refine (unhide H1 _).mono ?_
  rintro e w1 ⟨⟨v1, rfl, o1⟩, b1⟩
  have O1 := hide o1
  have B1 := hide b1
  clear b1 o1
  go_wp2_with fail
  refine (unhide H2 _).mono ?_
  rintro e w2 ⟨⟨v2, rfl, o2⟩, b2⟩
  have O1' := hide ((unhide O1).row.below b2)
  have O2 := hide o2.row
  have B2 := hide (belows' (unhide B1) b2)
  clear b2 o2 O1
  go_wp2_with fail
  refine (unhide H3 _ ((unhide HE).below (unhide B2)) ((unhide HR).below (unhide B2))).mono ?_
  rintro e w3 ⟨rfl, b3⟩
  have O13 := hide ((unhide O1').below b3)
  have O23 := hide ((unhide O2).below b3)
  have B3 := hide (belows' (unhide B2) b3)
  clear b3 O1' O2
  go_wp2_with fail
  refine (unhide H4 _ ((unhide HR).below (unhide B3))).mono ?_
  rintro e w4 ⟨rfl, b4⟩
  have O14 := hide ((unhide O13).below b4)
  have O24 := hide ((unhide O23).below b4)
  have B4 := hide (belows' (unhide B3) b4)
  clear b4 O13 O23
  go_wp2_with fail
  refine (unhide H5 _).mono ?_
  rintro e w5 ⟨rfl, b5⟩
  have O15 := hide ((unhide O14).below b5)
  have O25 := hide ((unhide O24).below b5)
  have B5 := hide (belows' (unhide B4) b5)
  clear b5 O14 O24
  go_wp2_with fail
  refine (unhide H6 _).mono ?_
  rintro e w6 ⟨rfl, h6⟩
  subst h6
  have HL := hide (livesX_any _ ((unhide HE).below (unhide B5)))
  go_wp2_with fail
  refine (unhide HL).mono ?_
  rintro e w7 ⟨rfl, b7⟩
  have HS := hide (sameT_any v1 v2 T0 T0 _ ((unhide O15).below b7) ((unhide O25).below b7))
  rw [decide_eq_true rfl] at HS
  have B7 := hide (belows' (unhide B5) b7)
  clear b7 O15 O25 HL
  go_wp2_with fail
  refine (unhide HS).mono ?_
  rintro e w8 ⟨rfl, b8⟩
  have B8 := hide (belows' (unhide B7) b8)
  clear b8 HS
  go_wp2
  go_ret
  exact ⟨rfl, unhide B8⟩
end Go.Proofs.YtafegjbhaofgiaaDoor
