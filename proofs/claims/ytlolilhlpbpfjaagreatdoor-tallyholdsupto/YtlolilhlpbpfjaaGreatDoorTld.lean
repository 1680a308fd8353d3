/-
  What tally.Of tells of numbers that rise, over this seat's program.
-/
import Derived.Test.YtlolilhlpbpfjaaGreatDoorTlc
import Derived.Deep.CutRange
set_option linter.unusedVariables false
set_option linter.unusedSimpArgs false
namespace Go.Proofs.YtlolilhlpbpfjaaGreatDoor
open Go.RowKit Go.Proofs.Nst

/-- A number out of a row. -/
theorem RowN.num {w : World} {a : Option Addr} {n cap : Nat} {ns : List Nat} (h : RowN w (.slice a n cap) ns) {j x : Nat} (hx : ns[j]? = some x) : ∃ b off, a = some ⟨b, off, none⟩ ∧ ∀ W, Below w.heap.size w W → W.cell? ⟨b, off + j, none⟩ = some (.int .u32 (x : Int)) := by
  have hj : j < ns.length := (List.getElem?_eq_some_iff.1 hx).1
  have hxe : ns[j] = x := (List.getElem?_eq_some_iff.1 hx).2
  obtain ⟨b, off, cp, hv, hb, hc⟩ := RowG.at cellsN_len h (j := j) hj
  injection hv with e1 e2 e3
  refine ⟨b, off, e1, fun W hW => ?_⟩
  obtain ⟨b', off', cp', hv', hb', hc'⟩ := RowG.at cellsN_len (RowN.below h hW) (j := j) hj
  injection hv' with e4 e5 e6
  rw [e1] at e4
  injection e4 with e4
  injection e4 with e7 e8
  subst e7 e8
  have := hc' 0 (by omega)
  rw [hxe] at this
  simpa [cellsN] using this

set_option maxHeartbeats 8000000 in
set_option maxRecDepth 100000 in
theorem of_main (wt : Nat) (v : Value) (ns : List Nat) (w : World) (h : RowN w v ns) (hl : ns.length ≤ 1048576) (hw : wt ≤ 15) (hm : ¬ 0 ∈ ns) (hK : chk ns = 0) (hne : ns ≠ []) (P : List Sp × Nat) (hP : packR ns = P) (E : Tly × Nat) (hE : E = if bitW wt 4 = true ∧ P.2 ≠ 0 then (zT, 15) else (ofT wt ns P.1, 0)) :
    Calls Tryz.prog 5 #[.int .u8 (wt : Int), v] w fun e w' => ∃ v', e = .returned (.tuple #[tlV E.1 v', .int .i64 (E.2 : Int)]) ∧ RowSp w' v' E.1.all ∧ Below w.heap.size w w' := by
  have b1 := bit_ne wt 1 1 rfl (by omega) (by decide)
  have b2 := bit_ne wt 2 2 rfl (by omega) (by decide)
  have b4 := bit_ne wt 4 4 rfl (by omega) (by decide)
  have b8 := bit_ne wt 8 8 rfl (by omega) (by decide)
  have HE := hide hE
  have hlen : 0 < ns.length := List.length_pos_iff.2 hne
  obtain ⟨x0, hx0⟩ : ∃ x0, ns[0]? = some x0 := ⟨_, List.getElem?_eq_getElem hlen⟩
  obtain ⟨xl, hxl⟩ : ∃ xl, ns[ns.length - 1]? = some xl := ⟨_, List.getElem?_eq_getElem (by omega)⟩
  obtain ⟨L, hL⟩ : ∃ L, L = if bitW wt 1 = true then ns.headD 0 else 0 := ⟨_, rfl⟩
  obtain ⟨X, hX⟩ : ∃ X, X = if bitW wt 2 = true then ns.getLastD 0 else 0 := ⟨_, rfl⟩
  obtain ⟨M, hM⟩ : ∃ M : Int, M = if bitW wt 8 = true then (ns.length : Int) else 0 := ⟨_, rfl⟩
  have HL : Hid (L = if bitW wt 1 = true then x0 else 0) := hide (by rw [hL, List.headD_eq_head?_getD, List.head?_eq_getElem?, hx0]; rfl)
  have HX : Hid (X = if bitW wt 2 = true then xl else 0) := hide (by rw [hX, List.getLastD_eq_getLast?, List.getLast?_eq_getElem?, hxl]; rfl)
  have HM := hide hM
  have HO : Hid (ofT wt ns P.1 = ⟨wt, M, L, X, if bitW wt 4 = true then P.1 else []⟩) := hide (by rw [hL, hX, hM]; rfl)
  have HNP := hide (fun W (hb : Below w.heap.size w W) => npack_any v ns W (RowN.below h hb) hl)
  rw [hP] at HNP
  have HPF : Hid (∀ x ∈ P.1, FitS x) := hide (by
    rw [← hP]; unfold packR
    obtain ⟨_, _, _, _, hfit, _⟩ := id h
    split
    · split
      · simp
      · split
        · exact (packS_fit hfit).1
        · simp
    · simp)
  have HPL : Hid (P.1.length ≤ 1024) := hide (by
    rw [← hP]; unfold packR
    split
    · split
      · simp
      · split
        · assumption
        · simp
    · simp)
  clear hE hL hX hM hP
  obtain ⟨T, hT⟩ : ∃ T, ns.length = T := ⟨_, rfl⟩
  have hA : Below w.heap.size w (w.alloc (.cells zC 28)) := (Below.refl _ w).alloc (Nat.le_refl _) _
  have HA := hide hA
  have ho := over15n wt (by omega)
  rw [decide_eq_false (by omega)] at ho
  have HR := hide h
  have HC := hide (contains_any v ns 0 _ (h.below hA) hl)
  rw [decide_eq_false hm] at HC
  have HK := hide (Blk.new w 28 zC)
  have HCH := hide (fun W (hb : Below w.heap.size w W) => check_any v ns W (h.below hb))
  rw [hK] at HCH
  simp only [zC] at HA HC HK
  clear hA hm
  go_enter Tryz.func5, Tryz.ntmps5
  go_wp2_with fail
  refine (unhide HC).mono ?_
  rintro e w1 ⟨rfl, b1⟩
  have HK1 := hide ((unhide HK).below b1)
  have HB := hide (belows' (unhide HA) b1)
  clear b1 HK HC
  go_wp2_with fail
  refine (unhide HCH _ (unhide HB)).mono ?_
  rintro e w2 ⟨rfl, q, hq⟩
  have HB2 : Hid (Below w.heap.size w w2) := hide (by rw [hq]; exact below_dr (unhide HB) q)
  have HK2 : Hid (Blk w2 w.heap.size 28 zC) := hide ((unhide HK1).below (by rw [hq]; exact below_dr (Below.refl _ _) q))
  clear hq HB HK1 HCH

  obtain ⟨a, cap, rfl, _⟩ := id h
  obtain ⟨b, off, rfl, hr0⟩ := RowN.num h hx0
  obtain ⟨b', off', hbb, hrL⟩ := RowN.num h hxl
  injection hbb with hbb
  injection hbb with e7 e8
  subst e7 e8
  rw [hT] at hl HNP HR hlen hrL HM ⊢
  have HR0 : Hid (∀ W, Below w.heap.size w W → W.cell? ⟨b, off, none⟩ = some (.int .u32 (x0 : Int))) := hide hr0
  have HRL : Hid (∀ W, Below w.heap.size w W → W.cell? ⟨b, off + (T - 1), none⟩ = some (.int .u32 (xl : Int))) := hide hrL
  have hT0 : ((T : Int) == 0) = false := by simp; omega
  have hIT : IntKind.i64.wrap ((T : Int) - 1) = ((T - 1 : Nat) : Int) := by rw [IntKind.wrap_i64]; have := hl; omega
  have hTM : T ≤ 1048576 := by omega
  have hI0 := fun W => index_runN b off T cap 0 0 rfl (by omega) W
  have hIL := fun W => index_runN b off T cap (T - 1) ((T - 1 : Nat) : Int) rfl (by omega) W
  clear hw h HR hr0 hrL hK hl hne hx0 hxl
  have HN := hide (OS.new (unhide HB2) (unhide HK2) #[.int .u8 (wt : Int), .int .i64 0, .int .u32 0, .int .u32 0, .slice none 0 0])
  obtain ⟨C, hC⟩ : ∃ C, C = w2.heap.size := ⟨_, rfl⟩
  rw [← hC] at HN
  go_upto_if 32 with (fail)
  rw [← hC]
  generalize w2.alloc (.cells #[.int .u8 (wt : Int), .int .i64 0, .int .u32 0, .int .u32 0, .slice none 0 0] 28) = wa at HN ⊢
  clear hC HB2 HK2 hT0
  go_cut [4] from 32 to 36 (fun p4 wx => p4 = .pointer (some ⟨w.heap.size, 0, none⟩) ∧ OS w wx C #[.int .u8 (wt : Int), .int .i64 0, .int .u32 (L : Int), .int .u32 0, .slice none 0 0])
  case first =>
    have r0 := unhide HR0 _ (unhide HN).bel
    have c0 := (unhide HN).k1.cell 0
    have c1 := (unhide HN).k1.cell 1
    have c2 := (unhide HN).k1.cell 2
    have c3 := (unhide HN).k1.cell 3
    have c4 := (unhide HN).k1.cell 4
    have f0 := (unhide HN).k1.frozen 0
    have f1 := (unhide HN).k1.frozen 1
    have f2 := (unhide HN).k1.frozen 2
    have f3 := (unhide HN).k1.frozen 3
    have f4 := (unhide HN).k1.frozen 4
    simp only [List.getElem?_toArray, List.getElem?_cons_succ, List.getElem?_cons_zero] at c0 c1 c2 c3 c4
    have hl1 := unhide HL
    cases hb : bitW wt 1 with
    | false =>
      rw [hb] at b1 hl1
      rw [if_neg (by simp)] at hl1
      subst hl1
      go_wp2
      go_meet
      exact ⟨rfl, unhide HN⟩
    | true =>
      rw [hb] at b1 hl1
      rw [if_pos rfl] at hl1
      rw [← hl1] at r0
      clear hl1
      go_wp2
      go_meet
      exact ⟨rfl, by have := (unhide HN).set 2 (.int .u32 (L : Int)); simpa using this⟩
  case rest =>
  obtain ⟨rfl, hcut⟩ := hcut
  have HN1 := hide hcut
  clear hcut HN hI0 b1 HL HR0
  go_upto_if 39 with (fail)
  go_cut [4] from 39 to 46 (fun p4 wx => p4 = .pointer (some ⟨w.heap.size, 0, none⟩) ∧ OS w wx C #[.int .u8 (wt : Int), .int .i64 0, .int .u32 (L : Int), .int .u32 (X : Int), .slice none 0 0])
  case first =>
    have r0 := unhide HRL _ (unhide HN1).bel
    have c0 := (unhide HN1).k1.cell 0
    have c1 := (unhide HN1).k1.cell 1
    have c2 := (unhide HN1).k1.cell 2
    have c3 := (unhide HN1).k1.cell 3
    have c4 := (unhide HN1).k1.cell 4
    have f0 := (unhide HN1).k1.frozen 0
    have f1 := (unhide HN1).k1.frozen 1
    have f2 := (unhide HN1).k1.frozen 2
    have f3 := (unhide HN1).k1.frozen 3
    have f4 := (unhide HN1).k1.frozen 4
    simp only [List.getElem?_toArray, List.getElem?_cons_succ, List.getElem?_cons_zero] at c0 c1 c2 c3 c4
    have hl1 := unhide HX
    cases hb : bitW wt 2 with
    | false =>
      rw [hb] at b2 hl1
      rw [if_neg (by simp)] at hl1
      subst hl1
      go_wp2
      go_meet
      exact ⟨rfl, unhide HN1⟩
    | true =>
      rw [hb] at b2 hl1
      rw [if_pos rfl] at hl1
      rw [← hl1] at r0
      clear hl1
      go_wp2
      go_meet
      exact ⟨rfl, by have := (unhide HN1).set 3 (.int .u32 (X : Int)); simpa using this⟩
  case rest =>
  obtain ⟨rfl, hcut⟩ := hcut
  have HN2 := hide hcut
  clear hcut HN1 hIL b2 HX HRL hIT
  go_upto_if 49 with (fail)
  go_cut [4] from 49 to 52 (fun p4 wx => p4 = .pointer (some ⟨w.heap.size, 0, none⟩) ∧ OS w wx C #[.int .u8 (wt : Int), .int .i64 M, .int .u32 (L : Int), .int .u32 (X : Int), .slice none 0 0])
  case first =>
    have c0 := (unhide HN2).k1.cell 0
    have c1 := (unhide HN2).k1.cell 1
    have c2 := (unhide HN2).k1.cell 2
    have c3 := (unhide HN2).k1.cell 3
    have c4 := (unhide HN2).k1.cell 4
    have f0 := (unhide HN2).k1.frozen 0
    have f1 := (unhide HN2).k1.frozen 1
    have f2 := (unhide HN2).k1.frozen 2
    have f3 := (unhide HN2).k1.frozen 3
    have f4 := (unhide HN2).k1.frozen 4
    simp only [List.getElem?_toArray, List.getElem?_cons_succ, List.getElem?_cons_zero] at c0 c1 c2 c3 c4
    have hl1 := unhide HM
    cases hb : bitW wt 8 with
    | false =>
      rw [hb] at b8 hl1
      rw [if_neg (by simp)] at hl1
      subst hl1
      go_wp2
      go_meet
      exact ⟨rfl, unhide HN2⟩
    | true =>
      rw [hb] at b8 hl1
      rw [if_pos rfl] at hl1
      subst hl1
      go_wp2
      go_meet
      exact ⟨rfl, by have := (unhide HN2).set 1 (.int .i64 (T : Int)); simpa using this⟩
  case rest =>
  obtain ⟨rfl, hcut⟩ := hcut
  have HN3 := hide hcut
  clear hcut HN2 b8 HM
  rw [unhide HO] at HE

  cases hb : bitW wt 4 with
  | false =>
    rw [hb] at b4 HE
    have hEE : E = (⟨wt, M, L, X, []⟩, 0) := by have := unhide HE; rw [if_neg (by simp), if_neg (by simp)] at this; exact this
    subst hEE
    clear HE hb HNP
    have c0 := (unhide HN3).k1.cell 0
    have c1 := (unhide HN3).k1.cell 1
    have c2 := (unhide HN3).k1.cell 2
    have c3 := (unhide HN3).k1.cell 3
    have c4 := (unhide HN3).k1.cell 4
    have f0 := (unhide HN3).k1.frozen 0
    have f1 := (unhide HN3).k1.frozen 1
    have f2 := (unhide HN3).k1.frozen 2
    have f3 := (unhide HN3).k1.frozen 3
    have f4 := (unhide HN3).k1.frozen 4
    simp only [List.getElem?_toArray, List.getElem?_cons_succ, List.getElem?_cons_zero] at c0 c1 c2 c3 c4
    have HZ := hide ((unhide HN3).k0)
    have d0 := (unhide HZ).cell 0
    have d1 := (unhide HZ).cell 1
    have d2 := (unhide HZ).cell 2
    have d3 := (unhide HZ).cell 3
    have d4 := (unhide HZ).cell 4
    have g0 := (unhide HZ).frozen 0
    have g1 := (unhide HZ).frozen 1
    have g2 := (unhide HZ).frozen 2
    have g3 := (unhide HZ).frozen 3
    have g4 := (unhide HZ).frozen 4
    simp only [zC, List.getElem?_toArray, List.getElem?_cons_succ, List.getElem?_cons_zero] at d0 d1 d2 d3 d4
    go_wp2
    refine bodyPost_ret (v := .tuple #[.agg #[.int .u8 (wt : Int), .int .i64 M, .int .u32 (L : Int), .int .u32 (X : Int), .slice none 0 0], .int .i64 0]) ?_ rfl ⟨_, rfl, RowG.nil _ _ _, below5 (unhide HN3).bel (Nat.le_refl _) _ _ _ _ _⟩
    rw [results_cell_tmp rfl]
    go_simp
  | true =>
    rw [hb] at b4 HE
    have HNP1 := hide (unhide HNP _ (unhide HN3).bel)
    clear HNP hb
    by_cases hp : P.2 = 0
    · have hEE : E = (⟨wt, M, L, X, P.1⟩, 0) := by have := unhide HE; rw [if_neg (by simp [hp]), if_pos rfl] at this; exact this
      subst hEE
      rw [hp] at HNP1
      clear HE hp
      go_wp2_with fail
      refine (unhide HNP1).mono ?_
      rintro e w5 ⟨vp, rfl, ho5, hb5⟩
      have HO5 := hide ho5
      obtain ⟨ap, cp, rfl, _⟩ := own_sliceG ho5
      have HN4 := hide ((unhide HN3).below hb5)
      clear ho5 hb5 HNP1 HN3
      have c0 := (unhide HN4).k1.cell 0
      have c1 := (unhide HN4).k1.cell 1
      have c2 := (unhide HN4).k1.cell 2
      have c3 := (unhide HN4).k1.cell 3
      have c4 := (unhide HN4).k1.cell 4
      have f0 := (unhide HN4).k1.frozen 0
      have f1 := (unhide HN4).k1.frozen 1
      have f2 := (unhide HN4).k1.frozen 2
      have f3 := (unhide HN4).k1.frozen 3
      have f4 := (unhide HN4).k1.frozen 4
      simp only [List.getElem?_toArray, List.getElem?_cons_succ, List.getElem?_cons_zero] at c0 c1 c2 c3 c4
      have HN5 : Hid (OS w (w5.setCell ⟨C, 4, none⟩ (.slice ap P.1.length cp)) C #[.int .u8 (wt : Int), .int .i64 M, .int .u32 (L : Int), .int .u32 (X : Int), .slice ap P.1.length cp]) := hide (by
        have := (unhide HN4).set 4 (.slice ap P.1.length cp)
        simpa using this)
      have HO6 := hide (own_setT (i := 4) (u := .slice ap P.1.length cp) (unhide HO5) (unhide HN4).k1 (by decide))
      clear HO5
      go_upto_region 20 with (fail)
      generalize w5.setCell ⟨C, 4, none⟩ (.slice ap P.1.length cp) = w6 at HN5 HO6 ⊢
      clear f0 f1 f2 f3 f4 c0 c1 c2 c3 c4 HN4
      have c0 := (unhide HN5).k1.cell 0
      have c1 := (unhide HN5).k1.cell 1
      have c2 := (unhide HN5).k1.cell 2
      have c3 := (unhide HN5).k1.cell 3
      have c4 := (unhide HN5).k1.cell 4
      have f0 := (unhide HN5).k1.frozen 0
      have f1 := (unhide HN5).k1.frozen 1
      have f2 := (unhide HN5).k1.frozen 2
      have f3 := (unhide HN5).k1.frozen 3
      have f4 := (unhide HN5).k1.frozen 4
      simp only [List.getElem?_toArray, List.getElem?_cons_succ, List.getElem?_cons_zero] at c0 c1 c2 c3 c4
      have HZ := hide ((unhide HN5).k0)
      have d0 := (unhide HZ).cell 0
      have d1 := (unhide HZ).cell 1
      have d2 := (unhide HZ).cell 2
      have d3 := (unhide HZ).cell 3
      have d4 := (unhide HZ).cell 4
      have g0 := (unhide HZ).frozen 0
      have g1 := (unhide HZ).frozen 1
      have g2 := (unhide HZ).frozen 2
      have g3 := (unhide HZ).frozen 3
      have g4 := (unhide HZ).frozen 4
      simp only [zC, List.getElem?_toArray, List.getElem?_cons_succ, List.getElem?_cons_zero] at d0 d1 d2 d3 d4
      go_wp2
      refine bodyPost_ret (v := .tuple #[.agg #[.int .u8 (wt : Int), .int .i64 M, .int .u32 (L : Int), .int .u32 (X : Int), .slice ap P.1.length cp], .int .i64 0]) ?_ rfl ⟨_, rfl, ?_, below5 (unhide HN5).bel (Nat.le_refl _) _ _ _ _ _⟩
      · rw [results_cell_tmp rfl]
        go_simp
      · have o1 := unhide HO6
        have z0 := (unhide HN5).k0
        have o2 := own_setT (i := 0) (u := .int .u8 (wt : Int)) o1 z0 (by decide)
        have z1 := z0.set 0 (.int .u8 (wt : Int))
        have o3 := own_setT (i := 1) (u := .int .i64 M) o2 z1 (by decide)
        have z2 := z1.set 1 (.int .i64 M)
        have o4 := own_setT (i := 2) (u := .int .u32 (L : Int)) o3 z2 (by decide)
        have z3 := z2.set 2 (.int .u32 (L : Int))
        have o5 := own_setT (i := 3) (u := .int .u32 (X : Int)) o4 z3 (by decide)
        have z4 := z3.set 3 (.int .u32 (X : Int))
        have o6 := own_setT (i := 4) (u := .slice ap P.1.length cp) o5 z4 (by decide)
        exact rowG_of_own cellsS_len o6 (by have := unhide HPL; omega) (unhide HPF)
    · have hEE : E = (zT, 15) := by have := unhide HE; rw [if_pos ⟨rfl, hp⟩] at this; exact this
      subst hEE
      have hpq : ((P.2 : Int) != 0) = true := by simp; omega
      generalize P.2 = p2 at HNP1 hpq
      clear HE hp
      go_wp2_with fail
      refine (unhide HNP1).mono ?_
      rintro e w5 ⟨vp, rfl, ho5, hb5⟩
      have HN4 := hide ((unhide HN3).below hb5)
      clear ho5 hb5 HNP1 HN3
      have HZ := hide ((unhide HN4).k0)
      have d0 := (unhide HZ).cell 0
      have d1 := (unhide HZ).cell 1
      have d2 := (unhide HZ).cell 2
      have d3 := (unhide HZ).cell 3
      have d4 := (unhide HZ).cell 4
      have g0 := (unhide HZ).frozen 0
      have g1 := (unhide HZ).frozen 1
      have g2 := (unhide HZ).frozen 2
      have g3 := (unhide HZ).frozen 3
      have g4 := (unhide HZ).frozen 4
      simp only [zC, List.getElem?_toArray, List.getElem?_cons_succ, List.getElem?_cons_zero] at d0 d1 d2 d3 d4
      go_wp2
      refine bodyPost_ret (v := .tuple #[.agg #[.int .u8 0, .int .i64 0, .int .u32 0, .int .u32 0, .slice none 0 0], .int .i64 15]) ?_ rfl ⟨_, rfl, RowG.nil _ _ _, below5 (unhide HN4).bel (Nat.le_refl _) _ _ _ _ _⟩
      rw [results_cell_tmp rfl]
      go_simp

/-- What Of tells of whatever numbers. -/
theorem of_any (wt : Nat) (v : Value) (ns : List Nat) (w : World) (h : RowN w v ns) (hl : ns.length ≤ 1048576) (hw : wt ≤ 255) :
    Calls Tryz.prog 5 #[.int .u8 (wt : Int), v] w fun e w' => ∃ v', e = .returned (.tuple #[tlV (ofR wt ns).1 v', .int .i64 ((ofR wt ns).2 : Int)]) ∧ RowSp w' v' (ofR wt ns).1.all ∧ Below w.heap.size w w' := by
  unfold ofR
  by_cases h1 : 15 < wt ∨ 0 ∈ ns
  · rw [if_pos h1]
    refine (of_no wt v ns w h hl hw h1).mono ?_
    rintro e w' ⟨rfl, hb⟩
    exact ⟨_, rfl, RowG.nil _ _ _, hb⟩
  · rw [if_neg h1]
    have hw15 : wt ≤ 15 := by
      rcases Nat.lt_or_ge 15 wt with h9 | h9
      · exact absurd (.inl h9) h1
      · exact h9
    have hm : ¬ 0 ∈ ns := fun h9 => h1 (.inr h9)
    by_cases h2 : chk ns ≠ 0
    · rw [if_pos h2]
      refine (of_chk wt v ns w h hl hw15 hm h2).mono ?_
      rintro e w' ⟨rfl, hb⟩
      exact ⟨_, rfl, RowG.nil _ _ _, hb⟩
    · rw [if_neg h2]
      by_cases h3 : ns = []
      · rw [if_pos h3]
        rw [h3] at h
        refine (of_nil wt v w h hw15).mono ?_
        rintro e w' ⟨rfl, hb⟩
        exact ⟨_, rfl, RowG.nil _ _ _, hb⟩
      · rw [if_neg h3]
        exact of_main wt v ns w h hl hw15 hm (by omega) h3 (packR ns) rfl _ rfl
end Go.Proofs.YtlolilhlpbpfjaaGreatDoor
