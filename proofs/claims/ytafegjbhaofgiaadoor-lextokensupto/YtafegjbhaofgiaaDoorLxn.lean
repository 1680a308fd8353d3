/-
  What missivelaw28.lives does, over this seat's program: it answers true.
-/
import Derived.Test.YtafegjbhaofgiaaDoorLxg
set_option linter.unusedVariables false
set_option linter.unusedSimpArgs false
namespace Go.Proofs.YtafegjbhaofgiaaDoor
open Go.RowKit Go.Proofs.Lx

def lvC : ByteArray := ⟨#[97, 49, 32, 76, 79, 71, 73, 78, 32, 123, 50, 125, 13, 10, 97, 98, 32, 34, 99, 34]⟩
def lvW : ByteArray := ⟨#[97, 49, 32, 76, 79, 71, 73, 78, 32, 34, 97, 98, 34, 32, 34, 99, 34]⟩
def lvQ : ByteArray := ⟨#[34, 97, 92, 34, 98, 34]⟩
def lvX : ByteArray := ⟨#[120]⟩
def lvT : List Tok := [(1, [97, 49]), (1, [76, 79, 71, 73, 78]), (2, [97, 98]), (2, [99])]
theorem lv_next1 (w : World) : Calls Tryd.prog 8 #[.string ⟨#[97, 49, 32, 76, 79, 71, 73, 78, 32, 123, 50, 125, 13, 10, 97, 98, 32, 34, 99, 34, 13, 10, 120]⟩] w fun e w' => e = .returned (.tuple #[.string lvC, .string lvX, .int .i64 0]) ∧ Below w.heap.size w w' := by
  have h := next_any ⟨#[97, 49, 32, 76, 79, 71, 73, 78, 32, 123, 50, 125, 13, 10, 97, 98, 32, 34, 99, 34, 13, 10, 120]⟩ w (by decide)
  rw [nxV_ok (a := 20) (x := 22) (by decide +kernel)] at h
  exact h
theorem lv_next2 (w : World) : Calls Tryd.prog 8 #[.string ⟨#[97, 32, 123, 53, 125, 13, 10, 97, 98]⟩] w fun e w' => e = .returned (.tuple #[.string ⟨#[]⟩, .string ⟨#[]⟩, .int .i64 5]) ∧ Below w.heap.size w w' := by
  have h := next_any ⟨#[97, 32, 123, 53, 125, 13, 10, 97, 98]⟩ w (by decide)
  rw [nxV_no (e := 5) (by decide +kernel) (by decide)] at h
  exact h
theorem lv_tok1 (w : World) : Calls Tryd.prog 13 #[.string lvC] w fun e w' => (∃ v, e = .returned (.tuple #[v, .int .i64 0]) ∧ OutK w' v lvT) ∧ Below w.heap.size w w' := by
  have h := tokens_any lvC w (by decide)
  rw [show tokensL lvC.data.toList = (lvT, 0) by decide +kernel] at h
  exact h
theorem lv_tok2 (w : World) : Calls Tryd.prog 13 #[.string ⟨#[97, 40, 98]⟩] w fun e w' => (∃ v, e = .returned (.tuple #[v, .int .i64 7]) ∧ OutK w' v []) ∧ Below w.heap.size w w' := by
  have h := tokens_any ⟨#[97, 40, 98]⟩ w (by decide)
  rw [show tokensL (ByteArray.mk #[97, 40, 98]).data.toList = ([], 7) by decide +kernel] at h
  exact h
theorem lv_write (v : Value) (w : World) (ht : PowT w) (h : RowT w v lvT) : Calls Tryd.prog 15 #[v] w fun e w' => e = .returned (.tuple #[.string lvW, .int .i64 0]) ∧ Below w.heap.size w w' := by
  have h := write_any v lvT w ht h (by decide)
  rw [show writeL lvT = some lvW.data.toList by decide +kernel] at h
  exact h
theorem lv_quote1 (w : World) : Calls Tryd.prog 17 #[.string ⟨#[97, 34, 98]⟩] w fun e w' => e = .returned (.tuple #[.string lvQ, .int .i64 0]) ∧ Below w.heap.size w w' := by
  have h := quote_any ⟨#[97, 34, 98]⟩ w (by decide)
  rw [show quoteL (ByteArray.mk #[97, 34, 98]).data.toList = some lvQ.data.toList by decide +kernel] at h
  exact h
theorem lv_quote2 (w : World) : Calls Tryd.prog 17 #[.string ⟨#[233]⟩] w fun e w' => e = .returned (.tuple #[.string ⟨#[]⟩, .int .i64 7]) ∧ Below w.heap.size w w' := by
  have h := quote_any ⟨#[233]⟩ w (by decide)
  rw [show quoteL (ByteArray.mk #[233]).data.toList = none by decide +kernel] at h
  exact h
theorem lv_ann (w : World) : Calls Tryd.prog 10 #[.string ⟨#[120, 32, 123, 49, 50, 43, 125]⟩] w fun e w' => e = .returned (.tuple #[.int .i64 12, .bool true]) ∧ w' = w := by
  have h := annL_any ⟨#[120, 32, 123, 49, 50, 43, 125]⟩ w (by decide)
  rw [show annL (ByteArray.mk #[120, 32, 123, 49, 50, 43, 125]).data.toList = some 12 by decide +kernel] at h
  exact h

set_option maxHeartbeats 4000000 in
set_option maxRecDepth 100000 in
theorem livesX_any (w : World) (ht : PowT w) : Calls Tryd.prog 12 #[] w fun e w' => e = .returned (.bool true) ∧ Below w.heap.size w w' := by
  have H0 := hide ht
  clear ht
  have q1 : (lvC.toList == [97, 49, 32, 76, 79, 71, 73, 78, 32, 123, 50, 125, 13, 10, 97, 98, 32, 34, 99, 34]) = true := by decide +kernel
  have q2 : (lvX.toList == [120]) = true := by decide +kernel
  have q3 : (lvW.toList == [97, 49, 32, 76, 79, 71, 73, 78, 32, 34, 97, 98, 34, 32, 34, 99, 34]) = true := by decide +kernel
  have q4 : (lvQ.toList == [34, 97, 92, 34, 98, 34]) = true := by decide +kernel
  go_enter Tryd.func12, Tryd.ntmps12
  go_wp2_with fail
  refine (lv_next1 _).mono ?_
  rintro e w1 ⟨rfl, b1⟩
  have B1 := hide b1
  have H1 := hide ((unhide H0).below b1)
  clear b1
  go_wp2_with fail
  refine (lv_tok1 _).mono ?_
  rintro e w2 ⟨⟨v, rfl, hv⟩, b2⟩
  have HV := hide hv.row
  have B2 := hide (belows' (unhide B1) b2)
  have H2 := hide ((unhide H1).below b2)
  clear b2 hv
  go_wp2_with fail
  refine (lv_write v _ (unhide H2) (unhide HV)).mono ?_
  rintro e w3 ⟨rfl, b3⟩
  have HV3 := hide ((unhide HV).below b3)
  have B3 := hide (belows' (unhide B2) b3)
  clear b3 HV
  go_wp2_with fail
  refine (lv_quote1 _).mono ?_
  rintro e w4 ⟨rfl, b4⟩
  have HV4 := hide ((unhide HV3).below b4)
  have B4 := hide (belows' (unhide B3) b4)
  clear b4 HV3
  go_wp2_with fail
  refine (lv_ann _).mono ?_
  rintro e w5 ⟨rfl, h5⟩
  subst h5
  go_wp2_with fail
  refine (lv_next2 _).mono ?_
  rintro e w6 ⟨rfl, b6⟩
  have HV6 := hide ((unhide HV4).below b6)
  have B6 := hide (belows' (unhide B4) b6)
  clear b6 HV4
  go_wp2_with fail
  refine (lv_tok2 _).mono ?_
  rintro e w7 ⟨⟨v7, rfl, _⟩, b7⟩
  have HV7 := hide ((unhide HV6).below b7)
  have B7 := hide (belows' (unhide B6) b7)
  clear b7 HV6
  go_wp2_with fail
  refine (lv_quote2 _).mono ?_
  rintro e w8 ⟨rfl, b8⟩
  have HV8 := hide ((unhide HV7).below b8)
  have B8 := hide (belows' (unhide B7) b8)
  clear b8 HV7
  obtain ⟨a, cap, rfl, _, _, _⟩ := unhide HV8
  have hl4 : lvT.length = 4 := rfl
  rw [hl4] at HV8 ⊢
  obtain ⟨g, off, rfl, hg, _, _, c2⟩ := RowT.tok (unhide HV8) (Below.refl _ _) (k := 2) (by decide)
  obtain ⟨g', off', he, _, _, c3, _⟩ := RowT.tok (unhide HV8) (Below.refl _ _) (k := 3) (by decide)
  injection he with he
  injection he with he1 he2
  subst he1 he2
  have c2' : w8.cell? ⟨g, off + 2 * 2 + 1, none⟩ = some (.string ⟨#[97, 98]⟩) := c2
  have c3' : w8.cell? ⟨g, off + 3 * 2, none⟩ = some (.int .u8 2) := c3
  clear c2 c3 H0 H1 H2 hl4
  simp only [Nat.reduceMul, Nat.add_assoc, Nat.reduceAdd] at c2' c3'
  go_upto_region 9 with (fail)
  apply wp_region_lit
  change wpList _ (List.toArray (_ :: _ :: _ :: _ :: _ :: _ :: _ :: _ :: _ :: _ :: _ :: _ :: _ :: _ :: _ :: _ :: _ :: _ :: _ :: _ :: _ :: _ :: _ :: _ :: _ :: _ :: _ :: _ :: _ :: _ :: _ :: _ :: _ :: _ :: _ :: _ :: _ :: _ :: _ :: _ :: _ :: _ :: _ :: _ :: _ :: _ :: _ :: _ :: _ :: _ :: _ :: _ :: _ :: _ :: _ :: _ :: _ :: _ :: _ :: _ :: _ :: _ :: _ :: _ :: _ :: _ :: _ :: _ :: _ :: [])) _ (_ :: _ :: _ :: _ :: _ :: _ :: _ :: _ :: _ :: _ :: _ :: _ :: _ :: _ :: _ :: _ :: _ :: _ :: _ :: _ :: _ :: _ :: _ :: _ :: _ :: _ :: _ :: _ :: _ :: _ :: _ :: _ :: _ :: _ :: _ :: _ :: _ :: _ :: _ :: _ :: _ :: _ :: _ :: _ :: _ :: _ :: _ :: _ :: _ :: _ :: _ :: _ :: _ :: _ :: _ :: _ :: _ :: _ :: _ :: _ :: _ :: _ :: _ :: _ :: _ :: _ :: _ :: _ :: _ :: []) _ _
  go_wp2
  go_ret
  exact ⟨rfl, unhide B8⟩
end Go.Proofs.YtafegjbhaofgiaaDoor
