/-
  What missivelaw03.NsetJoined does, over this seat's program.
-/
import Derived.Test.YtkcengdnjffpaaaDoorNop
import Derived.Test.YtkcengdnjffpaaaDoorNlv
set_option linter.unusedVariables false
namespace Go.Proofs.YtkcengdnjffpaaaDoor
open Go.RowKit Go.Proofs.Nst

theorem run_append_rowSp (w : World) (B : Nat) (v x : Value) (k l : List Sp) (ty : TypeId) (hown : w.ownsRow B 44 2 v k.length (flatG cellsS k)) (hx : RowSp w x l) (hnt : NeatS x) (hkl : k.length + l.length ≤ 4194304) (hB : B ≤ w.heap.size) :
    ∃ v' w', (Builtin.append_ #[22, 22] ty #[v, x]).run Tryd.prog w = .ok v' w' ∧ w'.ownsRow B 44 2 v' (k ++ l).length (flatG cellsS (k ++ l)) ∧ Below B w w' := by
  obtain ⟨i0, hi, hz0, hz1, hz2⟩ := info_partsN spInfo
  obtain ⟨a, cap, rfl, hl, hr, hc⟩ := hx
  cases a with
  | none =>
    obtain ⟨h0, rfl⟩ := hnt.1 _ _ rfl
    have hl : l = [] := List.eq_nil_of_length_eq_zero h0
    subst hl
    refine ⟨v, w, run_append_owned_none (P := Tryd.prog) (w := w) B 22 ty 44 i0 2 Tryd.underlying22 hi v _ _ hown, by simpa using hown, Below.refl _ _⟩
  | some ad =>
    have hnews : ∀ j u, (flatG cellsS l)[j]? = some u → w.cell? (ad.add j) = some u := by
      intro j u hj
      rcases hc with hc | ⟨b, off, ha, hlt, hc⟩
      · subst hc; simp [flatG] at hj
      · obtain rfl := Option.some.inj ha
        rw [addN]
        exact hc j u hj
    obtain ⟨v', w', hrun, h2, h3, h4⟩ := run_append_own (P := Tryd.prog) w B 22 ty 44 i0 (.agg #[.int .u32 0, .int .u32 0]) 2 8 Tryd.underlying22 hi hz0 hz1 hz2 rfl (by decide) v k.length (flatG cellsS k) hown ad l.length cap (flatG cellsS l) (flatG_length cellsS_len l) hnews (by
      intro u hu
      obtain ⟨n, _, hn⟩ := List.mem_flatMap.1 hu
      simp only [cellsS, List.mem_cons, List.not_mem_nil, or_false] at hn
      rcases hn with rfl | rfl <;> rfl) (by unfold maxLen; omega) (by omega) hB
    refine ⟨v', w', hrun, by rw [List.length_append, flatG_append]; exact h2, ?_⟩
    exact below_own (Below.refl _ _) hown h3 hB
theorem own_emptyS (w : World) : (w.alloc (.cells #[] 44)).ownsRow w.heap.size 44 2 (.slice (some ⟨w.heap.size, 0, none⟩) 0 0) ([] : List Sp).length (flatG cellsS []) :=
  World.ownsRow_lit w #[] 0 (Nat.le_refl _) (by unfold maxLen; omega) rfl

theorem has_append (m n : Nat) (a b : List Sp) : hasS m n (a ++ b) = (hasS m n a || hasS m n b) := by
  unfold hasS memS
  rw [List.map_append, List.any_append]

set_option maxHeartbeats 4000000 in
set_option maxRecDepth 100000 in
theorem nsetJoined_walk (va : Value) (a : List Sp) (vb : Value) (b : List Sp) (m n : Nat) (w : World) (hE : ErrN w) (ha : RowSpn w va a) (hb : RowSpn w vb b) (hs : a.length + b.length ≤ 1048576) :
    Calls Tryd.prog 7 #[va, vb, .int .u32 (m : Int), .int .u32 (n : Int)] w fun e w' => e = .returned (.bool true) ∧ Below w.heap.size w w' := by
  have HL := hide (lives_any w hE)
  obtain ⟨aa, ca, hva, _⟩ := ha.1
  obtain ⟨ab, cb, hvb, _⟩ := hb.1
  have HA := hide ha
  have HB := hide hb
  subst hva hvb
  have HS := hide hs
  clear ha hb hs hE
  obtain ⟨la, hla⟩ : ∃ x, x = a.length := ⟨_, rfl⟩
  obtain ⟨lb, hlb⟩ : ∃ x, x = b.length := ⟨_, rfl⟩
  rw [← hla] at HA
  rw [← hlb] at HB
  rw [← hla, ← hlb]
  have HLA := hide hla
  have HLB := hide hlb
  clear hla hlb
  go_enter Tryd.func7, Tryd.ntmps7
  go_wp2_with fail
  refine (unhide HL).mono ?_
  rintro e W1 ⟨rfl, hb1⟩
  have HB1 := hide hb1
  have HA1 := hide (RowSp.below (unhide HA).1 (belows' hb1 (below_alloc0 _ (.cells #[] 44))))
  obtain ⟨v1, W2, hrun1, ho1, hbl1⟩ := run_append_rowSp _ W1.heap.size _ _ [] a 22 (own_emptyS W1) (unhide HA1) (unhide HA).2 (by have := unhide HS; simp; omega) (below_alloc0 W1 (.cells #[] 44)).size
  have hw2 : Below W1.heap.size W1 W2 := (below_alloc0 W1 _).trans hbl1
  have HB2 := hide (RowSp.below (unhide HB).1 (belows' hb1 hw2))
  obtain ⟨v2, W3, hrun2, ho2, hbl2⟩ := run_append_rowSp W2 W1.heap.size v1 _ ([] ++ a) b 22 ho1 (unhide HB2) (unhide HB).2 (by have := unhide HS; simp; omega) hw2.size
  have hw3 : Below W1.heap.size W1 W3 := hw2.trans hbl2
  have hall : ∀ x ∈ [] ++ a ++ b, FitS x := by
    intro x hx
    rcases List.mem_append.1 hx with hx | hx
    · obtain ⟨_, _, _, _, hf, _⟩ := (unhide HA).1; exact hf x (by simpa using hx)
    · obtain ⟨_, _, _, _, hf, _⟩ := (unhide HB).1; exact hf x hx
  have hrow : RowSp W3 v2 (a ++ b) := rowG_of_own (Fit := FitS) cellsS_len (l := [] ++ a ++ b) ho2 (by have := unhide HS; simp; omega) hall
  have HC := hide (nhas_any v2 (a ++ b) m n W3 hrow)
  have HB3 := hide (belows' hb1 hw3)
  have HRA := hide (RowSp.below (unhide HA).1 (belows' hb1 hw3))
  have HRB := hide (RowSp.below (unhide HB).1 (belows' hb1 hw3))
  obtain ⟨z1, c1, hz1, _⟩ := own_sliceG ho1
  obtain ⟨z2, c2, hz2, _⟩ := own_sliceG ho2
  obtain ⟨L1, hL1⟩ : ∃ L, L = ([] ++ a).length := ⟨_, rfl⟩
  obtain ⟨L2, hL2⟩ : ∃ L, L = ([] ++ a ++ b).length := ⟨_, rfl⟩
  rw [← hL1] at hz1
  rw [← hL2] at hz2
  subst hz1 hz2
  clear hL1 hL2 ho1 ho2 hbl1 hbl2 hw2 hw3 hall hrow hb1 HB1 HA1 HB2 HA HB HL HS HLA HLB
  rw [has_append] at HC
  go_wp2_with (at_builtin; first | refine wpList_append_runS (by rfl) _ _ 22 rfl rfl rfl rfl hrun1 ?_ | refine wpList_append_runS (by rfl) _ _ 22 rfl rfl rfl rfl hrun2 ?_)
  refine (unhide HC).mono ?_
  rintro e W4 ⟨rfl, hb4⟩
  have HB4 := hide (belows' (unhide HB3) hb4)
  have HRB4 := hide (RowSp.below (unhide HRB) hb4)
  have HD := hide (nhas_any _ a m n W4 (RowSp.below (unhide HRA) hb4))
  clear hb4 HB3 HRB HRA HC hrun1 hrun2
  cases hx : hasS m n a with
  | true =>
    rw [hx] at HD
    clear hx
    go_wp2_with fail
    refine (unhide HD).mono ?_
    rintro e W5 ⟨rfl, hb5⟩
    have HB5 := hide (belows' (unhide HB4) hb5)
    clear hb5 HB4 HRB4 HD
    go_wp2
    go_ret
    exact ⟨by simp, unhide HB5⟩
  | false =>
    rw [hx] at HD
    clear hx
    go_wp2_with fail
    refine (unhide HD).mono ?_
    rintro e W5 ⟨rfl, hb5⟩
    have HB5 := hide (belows' (unhide HB4) hb5)
    have HF := hide (nhas_any _ b m n W5 (RowSp.below (unhide HRB4) hb5))
    clear hb5 HB4 HRB4 HD
    go_wp2_with fail
    refine (unhide HF).mono ?_
    rintro e W6 ⟨rfl, hb6⟩
    have HB6 := hide (belows' (unhide HB5) hb6)
    clear hb6 HB5 HF
    go_wp2
    go_ret
    exact ⟨by simp, unhide HB6⟩
end Go.Proofs.YtkcengdnjffpaaaDoor
