/-
  What tally.Of tells of numbers that rise, over this seat's program.
-/
import Derived.Test.YtihgmpebpkjmkaaGreatDoorBnd5
import Derived.Deep.CutRange
set_option linter.unusedVariables false
set_option linter.unusedSimpArgs false
namespace Go.Proofs.YtihgmpebpkjmkaaGreatDoor
open Go.RowKit Go.Proofs.Nst

/-- A number out of a row. -/
theorem RowN.num {w : World} {a : Option Addr} {n cap : Nat} {ns : List Nat} (h : RowN w (.slice a n cap) ns) {j x : Nat} (hx : ns[j]? = some x) : ∃ b off, a = some ⟨b, off, none⟩ ∧ ∀ W, Below w.heap.size w W → W.cell? ⟨b, off + j, none⟩ = some (.int .u32 (x : Int)) := by
  have hj : j < ns.length := (List.getElem?_eq_some_iff.1 hx).1
  have hxe : ns[j] = x := (List.getElem?_eq_some_iff.1 hx).2
  obtain ⟨b, off, cp, hv, hb, hc⟩ := RowG.at cellsN_len h (j := j) hj
  injection hv with e1 e2 e3
  refine ⟨b, off, e1, fun W hW => ?_⟩
  obtain ⟨b', off', cp', hv', hb', hc'⟩ := RowG.at cellsN_len (RowN.below h hW) (j := j) hj
  injection hv' with e4 e5 e6
  rw [e1] at e4
  injection e4 with e4
  injection e4 with e7 e8
  subst e7 e8
  have := hc' 0 (by omega)
  rw [hxe] at this
  simpa [cellsN] using this

set_option maxHeartbeats 8000000 in
set_option maxRecDepth 100000 in
theorem of_main (wt : Nat) (v : Value) (ns : List Nat) (w : World) (h : RowN w v ns) (hl : ns.length ≤ 1048576) (hw : wt ≤ 15) (hm : ¬ 0 ∈ ns) (hK : chk ns = 0) (hne : ns ≠ []) (P : List Sp × Nat) (hP : packR ns = P) (E : Tly × Nat) (hE : E = if bitW wt 4 = true ∧ P.2 ≠ 0 then (zT, 15) else (ofT wt ns P.1, 0)) :
    Calls Tryz.prog 5 #[.int .u8 (wt : Int), v] w fun e w' => ∃ v', e = .returned (.tuple #[tlV E.1 v', .int .i64 (E.2 : Int)]) ∧ RowSp w' v' E.1.all ∧ Below w.heap.size w w' := by
  have b1 := bit_ne wt 1 1 rfl (by omega) (by decide)
  have b2 := bit_ne wt 2 2 rfl (by omega) (by decide)
  have b4 := bit_ne wt 4 4 rfl (by omega) (by decide)
  have b8 := bit_ne wt 8 8 rfl (by omega) (by decide)
  have HE := hide hE
  have hlen : 0 < ns.length := List.length_pos_iff.2 hne
  obtain ⟨x0, hx0⟩ : ∃ x0, ns[0]? = some x0 := ⟨_, List.getElem?_eq_getElem hlen⟩
  obtain ⟨xl, hxl⟩ : ∃ xl, ns[ns.length - 1]? = some xl := ⟨_, List.getElem?_eq_getElem (by omega)⟩
  obtain ⟨L, hL⟩ : ∃ L, L = if bitW wt 1 = true then ns.headD 0 else 0 := ⟨_, rfl⟩
  obtain ⟨X, hX⟩ : ∃ X, X = if bitW wt 2 = true then ns.getLastD 0 else 0 := ⟨_, rfl⟩
  obtain ⟨M, hM⟩ : ∃ M : Int, M = if bitW wt 8 = true then (ns.length : Int) else 0 := ⟨_, rfl⟩
  have HL : Hid (L = if bitW wt 1 = true then x0 else 0) := hide (by rw [hL, List.headD_eq_head?_getD, List.head?_eq_getElem?, hx0]; rfl)
  have HX : Hid (X = if bitW wt 2 = true then xl else 0) := hide (by rw [hX, List.getLastD_eq_getLast?, List.getLast?_eq_getElem?, hxl]; rfl)
  have HM := hide hM
  have HO : Hid (ofT wt ns P.1 = ⟨wt, M, L, X, if bitW wt 4 = true then P.1 else []⟩) := hide (by rw [hL, hX, hM]; rfl)
  have HNP := hide (fun W (hb : Below w.heap.size w W) => npack_any v ns W (RowN.below h hb) hl)
  rw [hP] at HNP
  have HPF : Hid (∀ x ∈ P.1, FitS x) := hide (by
    rw [← hP]; unfold packR
    obtain ⟨_, _, _, _, hfit, _⟩ := id h
    split
    · split
      · simp
      · split
        · exact (packS_fit hfit).1
        · simp
    · simp)
  have HPL : Hid (P.1.length ≤ 1024) := hide (by
    rw [← hP]; unfold packR
    split
    · split
      · simp
      · split
        · assumption
        · simp
    · simp)
  clear hE hL hX hM hP
  obtain ⟨T, hT⟩ : ∃ T, ns.length = T := ⟨_, rfl⟩
  have hA : Below w.heap.size w (w.alloc (.cells zC 28)) := (Below.refl _ w).alloc (Nat.le_refl _) _
  have HA := hide hA
  have ho := over15n wt (by omega)
  rw [decide_eq_false (by omega)] at ho
  have HR := hide h
  have HC := hide (contains_any v ns 0 _ (h.below hA) hl)
  rw [decide_eq_false hm] at HC
  have HK := hide (Blk.new w 28 zC)
  have HCH := hide (fun W (hb : Below w.heap.size w W) => check_any v ns W (h.below hb))
  rw [hK] at HCH
  simp only [zC] at HA HC HK
  clear hA hm
  go_enter Tryz.func5, Tryz.ntmps5
  go_wp2_with fail
  refine (unhide HC).mono ?_
  rintro e w1 ⟨rfl, b1⟩
  have HK1 := hide ((unhide HK).below b1)
  have HB := hide (belows' (unhide HA) b1)
  clear b1 HK HC
  go_wp2_with fail
  refine (unhide HCH _ (unhide HB)).mono ?_
  rintro e w2 ⟨rfl, q, hq⟩
  have HB2 : Hid (Below w.heap.size w w2) := hide (by rw [hq]; exact below_dr (unhide HB) q)
  have HK2 : Hid (Blk w2 w.heap.size 28 zC) := hide ((unhide HK1).below (by rw [hq]; exact below_dr (Below.refl _ _) q))
  clear hq HB HK1 HCH

  obtain ⟨a, cap, rfl, _⟩ := id h
  obtain ⟨b, off, rfl, hr0⟩ := RowN.num h hx0
  obtain ⟨b', off', hbb, hrL⟩ := RowN.num h hxl
  injection hbb with hbb
  injection hbb with e7 e8
  subst e7 e8
  rw [hT] at hl HNP HR hlen hrL HM ⊢
  have HR0 : Hid (∀ W, Below w.heap.size w W → W.cell? ⟨b, off, none⟩ = some (.int .u32 (x0 : Int))) := hide hr0
  have HRL : Hid (∀ W, Below w.heap.size w W → W.cell? ⟨b, off + (T - 1), none⟩ = some (.int .u32 (xl : Int))) := hide hrL
  have hT0 : ((T : Int) == 0) = false := by simp; omega
  have hIT : IntKind.i64.wrap ((T : Int) - 1) = ((T - 1 : Nat) : Int) := by rw [IntKind.wrap_i64]; have := hl; omega
  have hTM : T ≤ 1048576 := by omega
  have hI0 := fun W => index_runN b off T cap 0 0 rfl (by omega) W
  have hIL := fun W => index_runN b off T cap (T - 1) ((T - 1 : Nat) : Int) rfl (by omega) W
  clear hw h HR hr0 hrL hK hl hne hx0 hxl
  have HN := hide (OS.new (unhide HB2) (unhide HK2) #[.int .u8 (wt : Int), .int .i64 0, .int .u32 0, .int .u32 0, .slice none 0 0])
  obtain ⟨C, hC⟩ : ∃ C, C = w2.heap.size := ⟨_, rfl⟩
  rw [← hC] at HN
  go_upto_if 32 with (fail)
  rw [← hC]
  generalize w2.alloc (.cells #[.int .u8 (wt : Int), .int .i64 0, .int .u32 0, .int .u32 0, .slice none 0 0] 28) = wa at HN ⊢
  clear hC HB2 HK2 hT0
  go_cut [4] from 32 to 36 (fun p4 wx => p4 = .pointer (some ⟨w.heap.size, 0, none⟩) ∧ OS w wx C #[.int .u8 (wt : Int), .int .i64 0, .int .u32 (L : Int), .int .u32 0, .slice none 0 0])
  case first =>
    have r0 := unhide HR0 _ (unhide HN).bel
    have c0 := (unhide HN).k1.cell 0
    have c1 := (unhide HN).k1.cell 1
    have c2 := (unhide HN).k1.cell 2
    have c3 := (unhide HN).k1.cell 3
    have c4 := (unhide HN).k1.cell 4
    have f0 := (unhide HN).k1.frozen 0
    have f1 := (unhide HN).k1.frozen 1
    have f2 := (unhide HN).k1.frozen 2
    have f3 := (unhide HN).k1.frozen 3
    have f4 := (unhide HN).k1.frozen 4
    simp only [List.getElem?_toArray, List.getElem?_cons_succ, List.getElem?_cons_zero] at c0 c1 c2 c3 c4
    have hl1 := unhide HL
    cases hb : bitW wt 1 with
    | false =>
      rw [hb] at b1 hl1
      rw [if_neg (by simp)] at hl1
      subst hl1
      go_wp2
      go_meet
      exact ⟨rfl, unhide HN⟩
    | true =>
      rw [hb] at b1 hl1
      rw [if_pos rfl] at hl1
      rw [← hl1] at r0
      clear hl1
      go_wp2
      go_meet
      exact ⟨rfl, by have := (unhide HN).set 2 (.int .u32 (L : Int)); simpa using this⟩
  case rest =>
  obtain ⟨rfl, hcut⟩ := hcut
  have HN1 := hide hcut
  clear hcut HN hI0 b1 HL HR0
  go_upto_if 39 with (fail)
  go_cut [4] from 39 to 46 (fun p4 wx => p4 = .pointer (some ⟨w.heap.size, 0, none⟩) ∧ OS w wx C #[.int .u8 (wt : Int), .int .i64 0, .int .u32 (L : Int), .int .u32 (X : Int), .slice none 0 0])
  case first =>
    have r0 := unhide HRL _ (unhide HN1).bel
    have c0 := (unhide HN1).k1.cell 0
    have c1 := (unhide HN1).k1.cell 1
    have c2 := (unhide HN1).k1.cell 2
    have c3 := (unhide HN1).k1.cell 3
    have c4 := (unhide HN1).k1.cell 4
    have f0 := (unhide HN1).k1.frozen 0
    have f1 := (unhide HN1).k1.frozen 1
    have f2 := (unhide HN1).k1.frozen 2
    have f3 := (unhide HN1).k1.frozen 3
    have f4 := (unhide HN1).k1.frozen 4
    simp only [List.getElem?_toArray, List.getElem?_cons_succ, List.getElem?_cons_zero] at c0 c1 c2 c3 c4
    have hl1 := unhide HX
    cases hb : bitW wt 2 with
    | false =>
      rw [hb] at b2 hl1
      rw [if_neg (by simp)] at hl1
      subst hl1
      go_wp2
      go_meet
      exact ⟨rfl, unhide HN1⟩
    | true =>
      rw [hb] at b2 hl1
      rw [if_pos rfl] at hl1
      rw [← hl1] at r0
      clear hl1
      go_wp2
      go_meet
      exact ⟨rfl, by have := (unhide HN1).set 3 (.int .u32 (X : Int)); simpa using this⟩
  case rest =>
  obtain ⟨rfl, hcut⟩ := hcut
  have HN2 := hide hcut
  clear hcut HN1 hIL b2 HX HRL hIT
  go_upto_if 49 with (fail)
  go_cut [4] from 49 to 52 (fun p4 wx => p4 = .pointer (some ⟨w.heap.size, 0, none⟩) ∧ OS w wx C #[.int .u8 (wt : Int), .int .i64 M, .int .u32 (L : Int), .int .u32 (X : Int), .slice none 0 0])
  case first =>
    have c0 := (unhide HN2).k1.cell 0
    have c1 := (unhide HN2).k1.cell 1
    have c2 := (unhide HN2).k1.cell 2
    have c3 := (unhide HN2).k1.cell 3
    have c4 := (unhide HN2).k1.cell 4
    have f0 := (unhide HN2).k1.frozen 0
    have f1 := (unhide HN2).k1.frozen 1
    have f2 := (unhide HN2).k1.frozen 2
    have f3 := (unhide HN2).k1.frozen 3
    have f4 := (unhide HN2).k1.frozen 4
    simp only [List.getElem?_toArray, List.getElem?_cons_succ, List.getElem?_cons_zero] at c0 c1 c2 c3 c4
    have hl1 := unhide HM
    cases hb : bitW wt 8 with
    | false =>
      rw [hb] at b8 hl1
      rw [if_neg (by simp)] at hl1
      subst hl1
      go_wp2
      go_meet
      exact ⟨rfl, unhide HN2⟩
    | true =>
      rw [hb] at b8 hl1
      rw [if_pos rfl] at hl1
      subst hl1
      go_wp2
      go_meet
      exact ⟨rfl, by have := (unhide HN2).set 1 (.int .i64 (T : Int)); simpa using this⟩
  case rest =>
  obtain ⟨rfl, hcut⟩ := hcut
  have HN3 := hide hcut
  clear hcut HN2 b8 HM
  rw [unhide HO] at HE

  cases hb : bitW wt 4 with
  | false =>
    rw [hb] at b4 HE
    have hEE : E = (⟨wt, M, L, X, []⟩, 0) := by have := unhide HE; rw [if_neg (by simp), if_neg (by simp)] at this; exact this
    subst hEE
    clear HE hb HNP
    have c0 := (unhide HN3).k1.cell 0
    have c1 := (unhide HN3).k1.cell 1
    have c2 := (unhide HN3).k1.cell 2
    have c3 := (unhide HN3).k1.cell 3
    have c4 := (unhide HN3).k1.cell 4
    have f0 := (unhide HN3).k1.frozen 0
    have f1 := (unhide HN3).k1.frozen 1
    have f2 := (unhide HN3).k1.frozen 2
    have f3 := (unhide HN3).k1.frozen 3
    have f4 := (unhide HN3).k1.frozen 4
    simp only [List.getElem?_toArray, List.getElem?_cons_succ, List.getElem?_cons_zero] at c0 c1 c2 c3 c4
    have HZ := hide ((unhide HN3).k0)
    have d0 := (unhide HZ).cell 0
    have d1 := (unhide HZ).cell 1
    have d2 := (unhide HZ).cell 2
    have d3 := (unhide HZ).cell 3
    have d4 := (unhide HZ).cell 4
    have g0 := (unhide HZ).frozen 0
    have g1 := (unhide HZ).frozen 1
    have g2 := (unhide HZ).frozen 2
    have g3 := (unhide HZ).frozen 3
    have g4 := (unhide HZ).frozen 4
    simp only [zC, List.getElem?_toArray, List.getElem?_cons_succ, List.getElem?_cons_zero] at d0 d1 d2 d3 d4
    go_wp2
    refine bodyPost_ret (v := .tuple #[.agg #[.int .u8 (wt : Int), .int .i64 M, .int .u32 (L : Int), .int .u32 (X : Int), .slice none 0 0], .int .i64 0]) ?_ rfl ⟨_, rfl, RowG.nil _ _ _, below5 (unhide HN3).bel (Nat.le_refl _) _ _ _ _ _⟩
    rw [results_cell_tmp rfl]
    go_simp
  | true =>
    rw [hb] at b4 HE
    have HNP1 := hide (unhide HNP _ (unhide HN3).bel)
    clear HNP hb
    by_cases hp : P.2 = 0
    · have hEE : E = (⟨wt, M, L, X, P.1⟩, 0) := by have := unhide HE; rw [if_neg (by simp [hp]), if_pos rfl] at this; exact this
      subst hEE
      rw [hp] at HNP1
      clear HE hp
      go_wp2_with fail
      refine (unhide HNP1).mono ?_
      rintro e w5 ⟨vp, rfl, ho5, hb5⟩
      have HO5 := hide ho5
      obtain ⟨ap, cp, rfl, _⟩ := own_sliceG ho5
      have HN4 := hide ((unhide HN3).below hb5)
      clear ho5 hb5 HNP1 HN3
      have c0 := (unhide HN4).k1.cell 0
      have c1 := (unhide HN4).k1.cell 1
      have c2 := (unhide HN4).k1.cell 2
      have c3 := (unhide HN4).k1.cell 3
      have c4 := (unhide HN4).k1.cell 4
      have f0 := (unhide HN4).k1.frozen 0
      have f1 := (unhide HN4).k1.frozen 1
      have f2 := (unhide HN4).k1.frozen 2
      have f3 := (unhide HN4).k1.frozen 3
      have f4 := (unhide HN4).k1.frozen 4
      simp only [List.getElem?_toArray, List.getElem?_cons_succ, List.getElem?_cons_zero] at c0 c1 c2 c3 c4
      have HN5 : Hid (OS w (w5.setCell ⟨C, 4, none⟩ (.slice ap P.1.length cp)) C #[.int .u8 (wt : Int), .int .i64 M, .int .u32 (L : Int), .int .u32 (X : Int), .slice ap P.1.length cp]) := hide (by
        have := (unhide HN4).set 4 (.slice ap P.1.length cp)
        simpa using this)
      have HO6 := hide (own_setT (i := 4) (u := .slice ap P.1.length cp) (unhide HO5) (unhide HN4).k1 (by decide))
      clear HO5
      go_upto_region 20 with (fail)
      generalize w5.setCell ⟨C, 4, none⟩ (.slice ap P.1.length cp) = w6 at HN5 HO6 ⊢
      clear f0 f1 f2 f3 f4 c0 c1 c2 c3 c4 HN4
      have c0 := (unhide HN5).k1.cell 0
      have c1 := (unhide HN5).k1.cell 1
      have c2 := (unhide HN5).k1.cell 2
      have c3 := (unhide HN5).k1.cell 3
      have c4 := (unhide HN5).k1.cell 4
      have f0 := (unhide HN5).k1.frozen 0
      have f1 := (unhide HN5).k1.frozen 1
      have f2 := (unhide HN5).k1.frozen 2
      have f3 := (unhide HN5).k1.frozen 3
      have f4 := (unhide HN5).k1.frozen 4
      simp only [List.getElem?_toArray, List.getElem?_cons_succ, List.getElem?_cons_zero] at c0 c1 c2 c3 c4
      have HZ := hide ((unhide HN5).k0)
      have d0 := (unhide HZ).cell 0
      have d1 := (unhide HZ).cell 1
      have d2 := (unhide HZ).cell 2
      have d3 := (unhide HZ).cell 3
      have d4 := (unhide HZ).cell 4
      have g0 := (unhide HZ).frozen 0
      have g1 := (unhide HZ).frozen 1
      have g2 := (unhide HZ).frozen 2
      have g3 := (unhide HZ).frozen 3
      have g4 := (unhide HZ).frozen 4
      simp only [zC, List.getElem?_toArray, List.getElem?_cons_succ, List.getElem?_cons_zero] at d0 d1 d2 d3 d4
      go_wp2
      refine bodyPost_ret (v := .tuple #[.agg #[.int .u8 (wt : Int), .int .i64 M, .int .u32 (L : Int), .int .u32 (X : Int), .slice ap P.1.length cp], .int .i64 0]) ?_ rfl ⟨_, rfl, ?_, below5 (unhide HN5).bel (Nat.le_refl _) _ _ _ _ _⟩
      · rw [results_cell_tmp rfl]
        go_simp
      · have o1 := unhide HO6
        have z0 := (unhide HN5).k0
        have o2 := own_setT (i := 0) (u := .int .u8 (wt : Int)) o1 z0 (by decide)
        have z1 := z0.set 0 (.int .u8 (wt : Int))
        have o3 := own_setT (i := 1) (u := .int .i64 M) o2 z1 (by decide)
        have z2 := z1.set 1 (.int .i64 M)
        have o4 := own_setT (i := 2) (u := .int .u32 (L : Int)) o3 z2 (by decide)
        have z3 := z2.set 2 (.int .u32 (L : Int))
        have o5 := own_setT (i := 3) (u := .int .u32 (X : Int)) o4 z3 (by decide)
        have z4 := z3.set 3 (.int .u32 (X : Int))
        have o6 := own_setT (i := 4) (u := .slice ap P.1.length cp) o5 z4 (by decide)
        exact rowG_of_own cellsS_len o6 (by have := unhide HPL; omega) (unhide HPF)
    · have hEE : E = (zT, 15) := by have := unhide HE; rw [if_pos ⟨rfl, hp⟩] at this; exact this
      subst hEE
      have hpq : ((P.2 : Int) != 0) = true := by simp; omega
      generalize P.2 = p2 at HNP1 hpq
      clear HE hp
      go_wp2_with fail
      refine (unhide HNP1).mono ?_
      rintro e w5 ⟨vp, rfl, ho5, hb5⟩
      have HN4 := hide ((unhide HN3).below hb5)
      clear ho5 hb5 HNP1 HN3
      have HZ := hide ((unhide HN4).k0)
      have d0 := (unhide HZ).cell 0
      have d1 := (unhide HZ).cell 1
      have d2 := (unhide HZ).cell 2
      have d3 := (unhide HZ).cell 3
      have d4 := (unhide HZ).cell 4
      have g0 := (unhide HZ).frozen 0
      have g1 := (unhide HZ).frozen 1
      have g2 := (unhide HZ).frozen 2
      have g3 := (unhide HZ).frozen 3
      have g4 := (unhide HZ).frozen 4
      simp only [zC, List.getElem?_toArray, List.getElem?_cons_succ, List.getElem?_cons_zero] at d0 d1 d2 d3 d4
      go_wp2
      refine bodyPost_ret (v := .tuple #[.agg #[.int .u8 0, .int .i64 0, .int .u32 0, .int .u32 0, .slice none 0 0], .int .i64 15]) ?_ rfl ⟨_, rfl, RowG.nil _ _ _, below5 (unhide HN4).bel (Nat.le_refl _) _ _ _ _ _⟩
      rw [results_cell_tmp rfl]
      go_simp

/-- What Of tells of whatever numbers. -/
theorem of_any (wt : Nat) (v : Value) (ns : List Nat) (w : World) (h : RowN w v ns) (hl : ns.length ≤ 1048576) (hw : wt ≤ 255) :
    Calls Tryz.prog 5 #[.int .u8 (wt : Int), v] w fun e w' => ∃ v', e = .returned (.tuple #[tlV (ofR wt ns).1 v', .int .i64 ((ofR wt ns).2 : Int)]) ∧ RowSp w' v' (ofR wt ns).1.all ∧ Below w.heap.size w w' := by
  unfold ofR
  by_cases h1 : 15 < wt ∨ 0 ∈ ns
  · rw [if_pos h1]
    refine (of_no wt v ns w h hl hw h1).mono ?_
    rintro e w' ⟨rfl, hb⟩
    exact ⟨_, rfl, RowG.nil _ _ _, hb⟩
  · rw [if_neg h1]
    have hw15 : wt ≤ 15 := by
      rcases Nat.lt_or_ge 15 wt with h9 | h9
      · exact absurd (.inl h9) h1
      · exact h9
    have hm : ¬ 0 ∈ ns := fun h9 => h1 (.inr h9)
    by_cases h2 : chk ns ≠ 0
    · rw [if_pos h2]
      refine (of_chk wt v ns w h hl hw15 hm h2).mono ?_
      rintro e w' ⟨rfl, hb⟩
      exact ⟨_, rfl, RowG.nil _ _ _, hb⟩
    · rw [if_neg h2]
      by_cases h3 : ns = []
      · rw [if_pos h3]
        rw [h3] at h
        refine (of_nil wt v w h hw15).mono ?_
        rintro e w' ⟨rfl, hb⟩
        exact ⟨_, rfl, RowG.nil _ _ _, hb⟩
      · rw [if_neg h3]
        exact of_main wt v ns w h hl hw15 hm (by omega) h3 (packR ns) rfl _ rfl
end Go.Proofs.YtihgmpebpkjmkaaGreatDoor

/-
  What tally.numbersOf tells, over this seat's program.
-/
set_option linter.unusedVariables false
set_option linter.unusedSimpArgs false
namespace Go.Proofs.YtihgmpebpkjmkaaGreatDoor
open Go.RowKit Go.Proofs.Nst

theorem numsF_fit : ∀ (l : List Sp) (acc ns : List Nat), (∀ x ∈ l, FitS x) → (∀ n ∈ acc, n ≤ 4294967295) → numsF acc l = some ns → ∀ n ∈ ns, n ≤ 4294967295
  | [], acc, ns, _, ha, h => by rw [numsF] at h; injection h with h; subst h; exact ha
  | s :: r, acc, ns, hl, ha, h => by
    rw [numsF] at h
    split at h
    · cases h
    · rename_i hc
      refine numsF_fit r _ ns (fun x hx => hl x (List.mem_cons_of_mem _ hx)) ?_ h
      intro n hn
      have h2 := (hl s List.mem_cons_self).2
      rcases List.mem_append.1 hn with h9 | h9
      · exact ha n h9
      · rw [List.mem_range'_1] at h9; omega

theorem u32Info : (Tryz.prog.info? 25).map (fun i => (i.zero, i.size, i.bytes)) = some (some (.int .u32 0), 1, 4) := by kernel_rfl
theorem run_appNg (w : World) (B g : Nat) (v : Value) (l : List Nat) (p : Nat) (ty : TypeId) (hown : w.ownsRow B 25 1 v l.length (flatG cellsN l)) (hl : l.length ≤ 4194304) (hB : B ≤ w.heap.size) (hg : Blk w g 25 #[.int .u32 (p : Int)]) :
    ∃ v' w', (Builtin.append_ #[22, 22] ty #[v, .slice (some ⟨g, 0, none⟩) 1 1]).run Tryz.prog w = .ok v' w' ∧ w'.ownsRow B 25 1 v' (l ++ [p]).length (flatG cellsN (l ++ [p])) ∧ Below B w w' ∧ w.grownBy w' v.ownBlock :=
  run_appGg cellsN 1 4 cellsN_len 25 22 (.int .u32 0) Tryz.underlying22 u32Info rfl (by decide) (by decide) (by decide) (by intro x u hu; simp [cellsN] at hu; subst hu; rfl) w B g v l p ty hown hl hB hg

set_option maxHeartbeats 8000000 in
set_option maxRecDepth 100000 in
theorem numbersOf_any (v : Value) (l : List Sp) (w : World) (h : RowSp w v l) (hl : l.length ≤ 1048576) :
    Calls Tryz.prog 59 #[v] w fun e w' => ∃ v', e = .returned (.tuple #[v', .bool (numsF [] l).isSome]) ∧ (∀ ns, numsF [] l = some ns → w'.ownsRow w.heap.size 25 1 v' ns.length (flatG cellsN ns) ∧ ns.length ≤ 65536) ∧ Below w.heap.size w w' := by
  have HR := hide h
  obtain ⟨a, cap, rfl, _, hfit, _⟩ := h
  have HF := hide hfit
  obtain ⟨T, hT⟩ : ∃ T, T = l.length := ⟨_, rfl⟩
  rw [← hT] at HR hl ⊢
  have HTL := hide hT
  obtain ⟨R, hR⟩ : ∃ R, numsF [] l = R := ⟨_, rfl⟩
  rw [hR]
  have HN := hide hR
  clear hT hfit hR
  go_enter Tryz.func59, Tryz.ntmps59
  go_wp2
  go_loopw [4, 6, 7, 10] (fun y _ _ z wr => ∃ (k : Nat) (acc : List Nat), z = .int .i64 k ∧ k ≤ T ∧ acc.length ≤ 65536 ∧ Hid (numsF acc (l.drop k) = R) ∧ Hid (wr.ownsRow w.heap.size 25 1 y acc.length (flatG cellsN acc)) ∧ Hid (Below w.heap.size w wr)) (fun _ _ _ z _ => T - (intOf z).toNat)
  case atStart => exact ⟨0, [], rfl, Nat.zero_le _, by simp, HN, hide (World.ownsRow_nil _ _ _ _), hide (Below.refl _ _)⟩
  case round =>
    obtain ⟨k, acc, rfl, hk, hacc, HA, HO, HB⟩ := hrel
    by_cases hlt : k < T
    · have hlt1 : (k : Int) < (T : Int) := by omega
      have hkl : k < l.length := by have := unhide HTL; omega
      obtain ⟨b, off, cp, hv1, hblt, hcell⟩ := RowG.at cellsS_len ((unhide HR).below (unhide HB)) (j := k) hkl
      injection hv1 with e1 e2 e3
      subst e1
      have c0 := hcell 0 (by omega)
      have c1 := hcell 1 (by omega)
      simp only [cellsS, List.getElem?_cons_zero, List.getElem?_cons_succ, Nat.add_zero] at c0 c1
      clear e2 e3 hcell
      have hx := unhide HF l[k] (List.getElem_mem hkl)
      unfold FitS at hx
      have hnx := unhide HA
      rw [List.drop_eq_getElem_cons hkl, numsF] at hnx
      obtain ⟨ay, cy, hy, _⟩ := own_sliceG (unhide HO)
      subst hy
      generalize (l[k]).1 = f at c0 hx hnx
      generalize (l[k]).2 = t at c1 hx hnx
      have hf : f ≤ 4294967295 := hx.1
      have ht : t ≤ 4294967295 := hx.2
      clear hx
      by_cases z0 : f = 0
      · have q0 : ((f : Int) == 0) = true := by simp [z0]
        rw [if_pos (.inl z0)] at hnx
        have HNX := hide hnx.symm
        clear hnx HA z0
        go_wp2
        go_ret2
        exact ⟨_, by rw [unhide HNX]; rfl, fun ns hns => (by rw [unhide HNX] at hns; cases hns), (unhide HB).alloc (unhide HB).size _⟩
      · have q0 : ((f : Int) == 0) = false := by simp; omega
        by_cases z1 : t < f
        · have q1 : (t : Int) < (f : Int) := by omega
          rw [if_pos (.inr (.inl z1))] at hnx
          have HNX := hide hnx.symm
          clear hnx HA z0 z1
          go_wp2
          go_ret2
          exact ⟨_, by rw [unhide HNX]; rfl, fun ns hns => (by rw [unhide HNX] at hns; cases hns), (unhide HB).alloc (unhide HB).size _⟩
        · have q1 : ¬ (t : Int) < (f : Int) := by omega
          obtain ⟨d, hd⟩ : ∃ d, t = f + d := ⟨t - f, by omega⟩
          have hdd : t - f = d := by omega
          have w1 : IntKind.u32.wrap ((t : Int) - (f : Int)) = (d : Int) := by rw [IntKind.wrap_u32]; omega
          have w4 : IntKind.u64.wrap ((acc.length : Int) + (d : Int)) = (acc.length : Int) + (d : Int) := by rw [IntKind.wrap_u64]; omega
          have hd9 : d ≤ 4294967295 := by omega
          rw [hdd] at hnx
          have HD := hide hd
          clear hd hdd
          by_cases z2 : 65536 ≤ acc.length + d
          · have q2 : (acc.length : Int) + (d : Int) ≥ 65536 := by omega
            rw [if_pos (.inr (.inr z2))] at hnx
            have HNX := hide hnx.symm
            clear hnx HA z0 z1 z2
            go_wp2
            go_ret2
            exact ⟨_, by rw [unhide HNX]; rfl, fun ns hns => (by rw [unhide HNX] at hns; cases hns), (unhide HB).alloc (unhide HB).size _⟩
          · have q2 : ¬ (acc.length : Int) + (d : Int) ≥ 65536 := by omega
            rw [if_neg (by rintro (h9 | h9 | h9); exact z0 h9; exact z1 h9; exact z2 h9)] at hnx
            have HNX := hide hnx
            have w5 : IntKind.u32.wrap ((d : Int) + 1) = ((d + 1 : Nat) : Int) := by rw [IntKind.wrap_u32]; omega
            have hal : acc.length + d < 65536 := by omega
            clear hnx HA z0 z1 z2
            have HS := hide (Blk.new wr 79 #[.int .u32 (f : Int), .int .u32 (t : Int)])
            have HB1 := hide ((unhide HB).alloc (unhide HB).size (.cells #[.int .u32 (f : Int), .int .u32 (t : Int)] 79))
            have HO1 := hide (own_below (unhide HO) ((Below.refl _ wr).alloc (Nat.le_refl _) (.cells #[.int .u32 (f : Int), .int .u32 (t : Int)] 79)))
            clear HO
            go_upto_region 7 with (fail)
            generalize wr.alloc (.cells #[.int .u32 (f : Int), .int .u32 (t : Int)] 79) = wa at HS HB1 HO1 ⊢
            generalize wr.heap.size = S at HS ⊢
            clear HB c0 c1 hblt q0 q1 q2 w4
            have c0 := (unhide HS).cell 0
            have c1 := (unhide HS).cell 1
            simp only [List.getElem?_toArray, List.getElem?_cons_succ, List.getElem?_cons_zero] at c0 c1
            go_wp2
            go_loopw [4, 7, 43] (fun y _ z wr => ∃ j : Nat, z = .int .u32 j ∧ j ≤ d + 1 ∧ Hid (wr.ownsRow w.heap.size 25 1 y (acc ++ List.range' f j).length (flatG cellsN (acc ++ List.range' f j))) ∧ Hid (Blk wr S 79 #[.int .u32 (f : Int), .int .u32 (t : Int)]) ∧ Hid (Below w.heap.size w wr)) (fun _ _ z _ => d + 1 - (intOf z).toNat)
            case atStart => exact ⟨0, rfl, Nat.zero_le _, hide (by simpa using unhide HO1), HS, HB1⟩
            case round =>
              obtain ⟨j, rfl, hj, HOJ, HSJ, HBJ⟩ := hrel
              by_cases hlj : j < d + 1
              · have hlj1 : (j : Int) < ((d + 1 : Nat) : Int) := by omega
                have c0 := (unhide HSJ).cell 0
                simp only [List.getElem?_toArray, List.getElem?_cons_succ, List.getElem?_cons_zero] at c0
                have w6 : IntKind.u32.wrap ((f : Int) + (j : Int)) = ((f + j : Nat) : Int) := by have := unhide HD; rw [IntKind.wrap_u32]; omega
                have w7 : IntKind.u32.wrap ((j : Int) + 1) = ((j + 1 : Nat) : Int) := by rw [IntKind.wrap_u32]; omega
                have hll : (acc ++ List.range' f j).length ≤ 65536 := by rw [List.length_append, List.length_range']; omega
                have HNE : Hid (acc ++ List.range' f j ++ [f + j] = acc ++ List.range' f (j + 1)) := hide (by rw [List.range'_concat, ← List.append_assoc]; simp)
                obtain ⟨A, hA⟩ : ∃ A, A = acc ++ List.range' f j := ⟨_, rfl⟩
                rw [← hA] at HOJ hll HNE
                obtain ⟨y1, y2, hy, _⟩ := own_sliceG (unhide HOJ)
                subst hy
                have hal2 := Below.alloc (Below.refl wr.heap.size wr) (Nat.le_refl _) (.cells #[.int .u32 ((f + j : Nat) : Int)] 25)
                obtain ⟨v', w', hrun, h2, h3, h4⟩ := run_appNg (wr.alloc (.cells #[.int .u32 ((f + j : Nat) : Int)] 25)) w.heap.size wr.heap.size _ A (f + j) 22 (own_below (unhide HOJ) hal2) (by omega) (Nat.le_trans (unhide HBJ).size hal2.size) (Blk.new wr _ _)
                have HO2 : Hid (w'.ownsRow w.heap.size 25 1 v' (acc ++ List.range' f (j + 1)).length (flatG cellsN (acc ++ List.range' f (j + 1)))) := hide (by rw [← unhide HNE]; exact h2)
                have HS2 := hide (blk_grownT ((unhide HSJ).below hal2) h4 (own_neT (own_below (unhide HOJ) hal2) ((unhide HSJ).below hal2) (by decide)))
                have HB2 := hide ((unhide HBJ).trans ((hal2.mono (unhide HBJ).size).trans h3))
                clear h2 h3 h4 HNE HOJ hal2 hA
                generalize A.length = M at hrun ⊢
                go_wp2_with (at_builtin; refine wpList_append_runB (by rfl) _ _ 22 rfl rfl rfl rfl hrun ?_)
                exact ⟨⟨j + 1, by go_num, by omega, HO2, HS2, HB2⟩, by simp [intOf]; omega⟩
              · have hlj1 : ¬ (j : Int) < ((d + 1 : Nat) : Int) := by omega
                have HNY : Hid (numsF (acc ++ List.range' f j) (l.drop (k + 1)) = R) := hide (by rw [show j = d + 1 by omega]; exact unhide HNX)
                have hll : (acc ++ List.range' f j).length ≤ 65536 := by rw [List.length_append, List.length_range']; omega
                clear HNX
                generalize acc ++ List.range' f j = A at *
                obtain ⟨y1, y2, hy, _⟩ := own_sliceG (unhide HOJ)
                subst hy
                go_wp2
                exact ⟨⟨k + 1, A, by go_num, by omega, hll, HNY, HOJ, HBJ⟩, by simp [intOf]; omega⟩
    · have hlt1 : ¬ (k : Int) < (T : Int) := by omega
      have hnx := unhide HA
      rw [List.drop_eq_nil_of_le (by have := unhide HTL; omega), numsF] at hnx
      have HNX := hide hnx.symm
      obtain ⟨ay, cy, hy, _⟩ := own_sliceG (unhide HO)
      subst hy
      clear hnx HA
      go_wp2
      go_ret2
      exact ⟨_, by rw [unhide HNX]; rfl, fun ns hns => (by rw [unhide HNX] at hns; injection hns with hns; subst hns; exact ⟨unhide HO, hacc⟩), unhide HB⟩
end Go.Proofs.YtihgmpebpkjmkaaGreatDoor

/-
  What tally.isOfAll tells, over this seat's program.
-/
set_option linter.unusedVariables false
set_option linter.unusedSimpArgs false
namespace Go.Proofs.YtihgmpebpkjmkaaGreatDoor
open Go.RowKit Go.Proofs.Nst

set_option maxHeartbeats 8000000 in
set_option maxRecDepth 100000 in
theorem isOfAll_any (t : Tly) (v : Value) (w : World) (hf : FitT t) (h : RowSp w v t.all) (hl : t.all.length ≤ 1048576) :
    Calls Tryz.prog 38 #[tlV t v] w fun e w' => e = .returned (.bool (ofAll t)) ∧ Below w.heap.size w w' := by
  obtain ⟨wt, mn, lo, hi, al⟩ := t
  obtain ⟨f1, _, f2, f3⟩ := hf
  simp only at f1 f2 f3 h hl
  have HA := hide (show Below w.heap.size w (w.alloc (.cells #[.int .u8 (wt : Int), .int .i64 mn, .int .u32 (lo : Int), .int .u32 (hi : Int), v] 28)) from (Below.refl _ w).alloc (Nat.le_refl _) _)
  have HK := hide (Blk.new w 28 #[.int .u8 (wt : Int), .int .i64 mn, .int .u32 (lo : Int), .int .u32 (hi : Int), v])
  have HV := hide h
  have HFIT : Hid (∀ x ∈ al, FitS x) := hide (by obtain ⟨_, _, _, _, hfit, _⟩ := id h; exact hfit)
  have HNU := hide (numbersOf_any v al _ (h.below (unhide HA)) hl)
  obtain ⟨R, hR⟩ : ∃ R, ofAll ⟨wt, mn, lo, hi, al⟩ = R := ⟨_, rfl⟩
  rw [hR]
  have HR := hide hR
  clear hR
  simp only [tlV, tlC]

  clear h
  go_enter Tryz.func38, Tryz.ntmps38
  go_wp2_with fail
  refine (unhide HNU).mono ?_
  rintro e w1 ⟨vn, rfl, hns, b1⟩
  have HB1 := hide (belows' (unhide HA) b1)
  have HK1 := hide ((unhide HK).below b1)
  clear HNU HK
  obtain ⟨N, hN⟩ : ∃ N, numsF [] al = N := ⟨_, rfl⟩
  rw [hN] at hns ⊢
  cases N with
  | none =>
    have HF : Hid (R = false) := hide (by rw [← unhide HR]; unfold ofAll; simp only [hN])
    clear hns hN HR b1 HA
    go_wp2
    go_ret
    exact ⟨by rw [unhide HF]; rfl, unhide HB1⟩
  | some ns =>
    obtain ⟨hon, hnl⟩ := hns ns rfl
    have hnf : ∀ n ∈ ns, n ≤ 4294967295 := numsF_fit al [] ns (unhide HFIT) (by simp) hN
    have HRN : Hid (RowN w1 vn ns) := hide (rowG_of_own cellsN_len hon (by omega) hnf)
    have HOF := hide (of_any wt vn ns w1 (unhide HRN) (by omega) f1)
    obtain ⟨o, ho⟩ : ∃ o, ofR wt ns = o := ⟨_, rfl⟩
    rw [ho] at HOF
    obtain ⟨⟨ow, om, ol, ox, oa⟩, k⟩ := o
    have HRE : Hid (R = (decide (k = 0) && (decide (mn = om) && (decide (lo = ol) && (decide (hi = ox) && decide (al = oa)))))) := hide (by rw [← unhide HR]; unfold ofAll; simp only [hN, ho])
    have HV1 := hide ((unhide HV).below (unhide HB1))
    clear hns hN HR hon hnl hnf ho HV HFIT HRN b1 HA
    have c0 := (unhide HK1).cell 0
    have c1 := (unhide HK1).cell 1
    have c2 := (unhide HK1).cell 2
    have c3 := (unhide HK1).cell 3
    have c4 := (unhide HK1).cell 4
    simp only [tlC, List.getElem?_toArray, List.getElem?_cons_succ, List.getElem?_cons_zero] at c0 c1 c2 c3 c4
    go_wp2_with fail
    refine (unhide HOF).mono ?_
    rintro e w2 ⟨vo, rfl, hro, b2⟩
    obtain ⟨ao, co, rfl, _⟩ := id hro
    simp only [tlV, tlC] at hro ⊢
    obtain ⟨on, hon⟩ : ∃ on, on = oa.length := ⟨_, rfl⟩
    rw [← hon] at hro ⊢
    clear hon
    have HB2 := hide (belows' (unhide HB1) b2)
    have HK2 := hide ((unhide HK1).below b2)
    have HV2 := hide ((unhide HV1).below b2)
    have HRO := hide hro
    have hb3 := Below.alloc (Below.refl _ w2) (Nat.le_refl _) (.cells #[.int .u8 (ow : Int), .int .i64 om, .int .u32 (ol : Int), .int .u32 (ox : Int), (.slice ao on co)] 28)
    have HB3 := hide (belows' (unhide HB2) hb3)
    have HK3 := hide ((unhide HK2).below hb3)
    have HK4 := hide (Blk.new w2 28 #[.int .u8 (ow : Int), .int .i64 om, .int .u32 (ol : Int), .int .u32 (ox : Int), (.slice ao on co)])
    have HEQ := hide (equalS_any v (.slice ao on co) al oa _ ((unhide HV2).below hb3) (RowSp.below (unhide HRO) hb3))
    clear hro b2 HB1 HK1 HV1 HOF hb3 HB2 HK2 HV2 HRO c0 c1 c2 c3 c4
    go_upto_region 5 with (fail)
    generalize w2.alloc (.cells #[.int .u8 (ow : Int), .int .i64 om, .int .u32 (ol : Int), .int .u32 (ox : Int), (.slice ao on co)] 28) = W at HB3 HK3 HK4 HEQ ⊢
    generalize w2.heap.size = C at HK4 ⊢
    have c0 := (unhide HK3).cell 0
    have c1 := (unhide HK3).cell 1
    have c2 := (unhide HK3).cell 2
    have c3 := (unhide HK3).cell 3
    have c4 := (unhide HK3).cell 4
    simp only [tlC, List.getElem?_toArray, List.getElem?_cons_succ, List.getElem?_cons_zero] at c0 c1 c2 c3 c4
    have d0 := (unhide HK4).cell 0
    have d1 := (unhide HK4).cell 1
    have d2 := (unhide HK4).cell 2
    have d3 := (unhide HK4).cell 3
    have d4 := (unhide HK4).cell 4
    simp only [tlC, List.getElem?_toArray, List.getElem?_cons_succ, List.getElem?_cons_zero] at d0 d1 d2 d3 d4
    by_cases e0 : k = 0
    · have q0 : ((k : Int) == 0) = true := by simp [e0]
      have E0 := hide e0
      clear e0
      by_cases e1 : mn = om
      · have q1 : (mn == om) = true := by simp [e1]
        have E1 := hide e1
        clear e1
        by_cases e2 : lo = ol
        · have q2 : ((lo : Int) == (ol : Int)) = true := by simp [e2]
          have E2 := hide e2
          clear e2
          by_cases e3 : hi = ox
          · have q3 : ((hi : Int) == (ox : Int)) = true := by simp [e3]
            have E3 := hide e3
            clear e3
            have HF : Hid (R = decide (al = oa)) := hide (by rw [unhide HRE]; simp [unhide E0, unhide E1, unhide E2, unhide E3])
            clear HRE
            go_wp2_with fail
            refine (unhide HEQ).mono ?_
            rintro e w5 ⟨rfl, b5⟩
            have HB5 := hide (belows' (unhide HB3) b5)
            clear b5 HEQ
            rw [← unhide HF]
            go_wp2
            go_ret
            exact ⟨rfl, unhide HB5⟩
          · have q3 : ((hi : Int) == (ox : Int)) = false := by simp; omega
            have E3 := hide e3
            clear e3
            have HF : Hid (R = false) := hide (by rw [unhide HRE]; simp [unhide E0, unhide E1, unhide E2, unhide E3])
            clear HRE
            go_wp2
            go_ret
            exact ⟨by rw [unhide HF]; rfl, unhide HB3⟩
        · have q2 : ((lo : Int) == (ol : Int)) = false := by simp; omega
          have E2 := hide e2
          clear e2
          have HF : Hid (R = false) := hide (by rw [unhide HRE]; simp [unhide E0, unhide E1, unhide E2])
          clear HRE
          go_wp2
          go_ret
          exact ⟨by rw [unhide HF]; rfl, unhide HB3⟩
      · have q1 : (mn == om) = false := by simp; omega
        have E1 := hide e1
        clear e1
        have HF : Hid (R = false) := hide (by rw [unhide HRE]; simp [unhide E0, unhide E1])
        clear HRE
        go_wp2
        go_ret
        exact ⟨by rw [unhide HF]; rfl, unhide HB3⟩
    · have q0 : ((k : Int) == 0) = false := by simp; omega
      have E0 := hide e0
      clear e0
      have HF : Hid (R = false) := hide (by rw [unhide HRE]; simp [unhide E0])
      clear HRE
      go_wp2
      go_ret
      exact ⟨by rw [unhide HF]; rfl, unhide HB3⟩
end Go.Proofs.YtihgmpebpkjmkaaGreatDoor

/-
  What tally.isOfSome, isRight and Check tell, over this seat's program.
-/
set_option linter.unusedVariables false
set_option linter.unusedSimpArgs false
namespace Go.Proofs.YtihgmpebpkjmkaaGreatDoor
open Go.RowKit Go.Proofs.Nst

set_option maxHeartbeats 8000000 in
set_option maxRecDepth 100000 in
theorem isOfSome_any (t : Tly) (a : Option Addr) (n cap : Nat) (w : World) (hf : FitT t) :
    Calls Tryz.prog 39 #[tlV t (.slice a n cap)] w fun e w' => e = .returned (.bool (ofSome t)) ∧ Below w.heap.size w w' := by
  obtain ⟨wt, mn, lo, hi, al⟩ := t
  obtain ⟨f1, f2, f3, f4⟩ := hf
  simp only at f1 f2 f3 f4
  have b1 := bit_ne wt 1 1 rfl f1 (by decide)
  have b2 := bit_ne wt 2 2 rfl f1 (by decide)
  have b8 := bit8_eq wt f1
  obtain ⟨R, hR⟩ : ∃ R, ofSome ⟨wt, mn, lo, hi, al⟩ = R := ⟨_, rfl⟩
  rw [hR]
  obtain ⟨L, hL⟩ : ∃ L, leastE ⟨wt, mn, lo, hi, al⟩ = L := ⟨_, rfl⟩
  obtain ⟨M, hM⟩ : ∃ M, mostE ⟨wt, mn, lo, hi, al⟩ = M := ⟨_, rfl⟩
  obtain ⟨F, hF⟩ : ∃ F, fewE ⟨wt, mn, lo, hi, al⟩ = F := ⟨_, rfl⟩
  have HR : Hid (R = if L = 0 ∨ M < L then false else if bitW wt 8 = false then true else decide (F ≤ mn ∧ mn ≤ 65536 ∧ mn ≤ (M : Int) - L + 1)) := hide (by rw [← hR, ← hL, ← hM, ← hF]; rfl)
  have HL : Hid (L = if bitW wt 1 = true then lo else 1) := hide (by rw [← hL]; rfl)
  have HM : Hid (M = if bitW wt 2 = true then hi else 4294967295) := hide (by rw [← hM]; rfl)
  have HF : Hid (F = if lo ≠ 0 ∧ hi ≠ 0 ∧ L ≠ M then 2 else 1) := hide (by rw [← hF, ← hL, ← hM]; rfl)
  have hLl : L ≤ 4294967295 := by rw [unhide HL]; split <;> omega
  have hMl : M ≤ 4294967295 := by rw [unhide HM]; split <;> omega
  have hF1 : F = 1 ∨ F = 2 := by rw [unhide HF]; split <;> simp
  have HA := hide (show Below w.heap.size w (w.alloc (.cells #[.int .u8 (wt : Int), .int .i64 mn, .int .u32 (lo : Int), .int .u32 (hi : Int), .slice a n cap] 28)) from (Below.refl _ w).alloc (Nat.le_refl _) _)
  have HK := hide (Blk.new w 28 #[.int .u8 (wt : Int), .int .i64 mn, .int .u32 (lo : Int), .int .u32 (hi : Int), .slice a n cap])
  simp only [tlV, tlC]
  clear hR hL hM hF f1
  go_enter Tryz.func39, Tryz.ntmps39
  go_upto_region 2 with (fail)
  generalize w.alloc (.cells #[.int .u8 (wt : Int), .int .i64 mn, .int .u32 (lo : Int), .int .u32 (hi : Int), .slice a n cap] 28) = W at HA HK ⊢
  have c0 := (unhide HK).cell 0
  have c1 := (unhide HK).cell 1
  have c2 := (unhide HK).cell 2
  have c3 := (unhide HK).cell 3
  simp only [List.getElem?_toArray, List.getElem?_cons_succ, List.getElem?_cons_zero] at c0 c1 c2 c3
  clear HK
  go_upto_if 9 with (fail)
  go_cut [3] from 9 to 12 (fun v wx => v = .int .u64 (L : Int) ∧ wx = W)
  case first =>
    have hl := unhide HL
    cases hb : bitW wt 1 with
    | true =>
      rw [hb] at b1 hl
      rw [if_pos rfl] at hl
      subst hl
      clear HR HL HM HF
      go_wp2
      go_meet
      exact ⟨rfl, rfl⟩
    | false =>
      rw [hb] at b1 hl
      rw [if_neg (by simp)] at hl
      subst hl
      clear HR HL HM HF
      go_wp2
      go_meet
      exact ⟨rfl, rfl⟩
  case rest =>
  obtain ⟨rfl, hwc⟩ := hcut
  rw [hwc]
  clear hwc HL b1
  go_upto_if 16 with (fail)
  go_cut [4] from 16 to 19 (fun v wx => v = .int .u64 (M : Int) ∧ wx = W)
  case first =>
    have hl := unhide HM
    cases hb : bitW wt 2 with
    | true =>
      rw [hb] at b2 hl
      rw [if_pos rfl] at hl
      subst hl
      clear HR HM HF
      go_wp2
      go_meet
      exact ⟨rfl, rfl⟩
    | false =>
      rw [hb] at b2 hl
      rw [if_neg (by simp)] at hl
      subst hl
      clear HR HM HF
      go_wp2
      go_meet
      exact ⟨rfl, rfl⟩
  case rest =>
  obtain ⟨rfl, hwc⟩ := hcut
  rw [hwc]
  clear hwc HM b2
  by_cases z0 : L = 0
  · have q0 : ((L : Int) == 0) = true := by simp [z0]
    have HE : Hid (R = false) := hide (by rw [unhide HR, if_pos (.inl z0)])
    clear HR z0 HF
    go_wp2
    go_ret
    exact ⟨by rw [unhide HE]; rfl, unhide HA⟩
  · have q0 : ((L : Int) == 0) = false := by simp; omega
    by_cases z1 : M < L
    · have q1 : (M : Int) < (L : Int) := by omega
      have HE : Hid (R = false) := hide (by rw [unhide HR, if_pos (.inr z1)])
      clear HR z0 z1 HF
      go_wp2
      go_ret
      exact ⟨by rw [unhide HE]; rfl, unhide HA⟩
    · have q1 : ¬ (M : Int) < (L : Int) := by omega
      have hr := unhide HR
      rw [if_neg (by rintro (h9 | h9); exact z0 h9; exact z1 h9)] at hr
      clear HR
      cases hb : bitW wt 8 with
      | false =>
        rw [hb] at b8 hr
        rw [if_pos rfl] at hr
        have HE := hide hr
        clear hr z0 z1 HF
        go_wp2
        go_ret
        exact ⟨by rw [unhide HE]; rfl, unhide HA⟩
      | true =>
        rw [hb] at b8 hr
        rw [if_neg (by simp)] at hr
        have HE := hide hr
        have hML : L ≤ M := by omega
        clear hr z0 z1
        go_upto_region 11 with (fail)
        clear b8 hb
        obtain ⟨B, hB⟩ : ∃ B : Bool, B = decide (lo ≠ 0 ∧ hi ≠ 0 ∧ L ≠ M) := ⟨_, rfl⟩
        have HFB : Hid (F = if B = true then 2 else 1) := hide (by rw [unhide HF, hB]; simp only [decide_eq_true_eq])
        have HBB := hide hB
        clear hB HF
        go_cut [43] from 31 to 42 (fun v wx => v = .bool B ∧ wx = W)
        case first =>
          have hff := unhide HBB
          clear HE HFB hF1 HBB
          by_cases y0 : lo = 0
          · have p0 : ((lo : Int) != 0) = false := by simp [y0]
            rw [decide_eq_false (fun h9 => h9.1 y0)] at hff
            clear y0
            go_wp2
            go_meet
            exact ⟨by rw [hff], rfl⟩
          · have p0 : ((lo : Int) != 0) = true := by simp; omega
            by_cases y1 : hi = 0
            · have p1 : ((hi : Int) != 0) = false := by simp [y1]
              rw [decide_eq_false (fun h9 => h9.2.1 y1)] at hff
              clear y0 y1
              go_wp2
              go_meet
              exact ⟨by rw [hff], rfl⟩
            · have p1 : ((hi : Int) != 0) = true := by simp; omega
              have hff2 : B = ((L : Int) != (M : Int)) := by
                rw [hff]
                by_cases y2 : L = M
                · simp [y2]
                · rw [decide_eq_true ⟨y0, y1, y2⟩]; symm; simp; omega
              have HFF := hide hff2
              clear y0 y1 hff hff2
              go_wp2
              go_meet
              exact ⟨by rw [unhide HFF], rfl⟩
        case rest =>
        obtain ⟨rfl, hwc⟩ := hcut
        rw [hwc]
        clear hwc q0 q1 HBB
        have hfb := unhide HFB
        clear HFB
        cases B with
        | true =>
          rw [if_pos rfl] at hfb
          subst hfb
          clear hF1
          by_cases y0 : (2 : Int) ≤ mn
          · by_cases y1 : mn ≤ 65536
            · have p0 : IntKind.u64.wrap mn = mn := by rw [IntKind.wrap_u64]; omega
              have p1 : IntKind.u64.wrap ((M : Int) - (L : Int)) = (M : Int) - (L : Int) := by rw [IntKind.wrap_u64]; omega
              have p2 : IntKind.u64.wrap ((M : Int) - (L : Int) + 1) = (M : Int) - (L : Int) + 1 := by rw [IntKind.wrap_u64]; omega
              have HE2 : Hid (R = decide (mn ≤ (M : Int) - L + 1)) := hide (by rw [unhide HE]; simp [y0, y1])
              clear HE
              go_wp2
              go_ret
              exact ⟨by rw [unhide HE2]; rfl, unhide HA⟩
            · have HE2 : Hid (R = false) := hide (by rw [unhide HE]; simp [y1])
              clear HE
              go_wp2
              go_ret
              exact ⟨by rw [unhide HE2]; rfl, unhide HA⟩
          · have HE2 : Hid (R = false) := hide (by rw [unhide HE]; simp [y0])
            clear HE
            go_wp2
            go_ret
            exact ⟨by rw [unhide HE2]; rfl, unhide HA⟩
        | false =>
          rw [if_neg (by simp)] at hfb
          subst hfb
          clear hF1
          by_cases y0 : (1 : Int) ≤ mn
          · by_cases y1 : mn ≤ 65536
            · have p0 : IntKind.u64.wrap mn = mn := by rw [IntKind.wrap_u64]; omega
              have p1 : IntKind.u64.wrap ((M : Int) - (L : Int)) = (M : Int) - (L : Int) := by rw [IntKind.wrap_u64]; omega
              have p2 : IntKind.u64.wrap ((M : Int) - (L : Int) + 1) = (M : Int) - (L : Int) + 1 := by rw [IntKind.wrap_u64]; omega
              have HE2 : Hid (R = decide (mn ≤ (M : Int) - L + 1)) := hide (by rw [unhide HE]; simp [y0, y1])
              clear HE
              go_wp2
              go_ret
              exact ⟨by rw [unhide HE2]; rfl, unhide HA⟩
            · have HE2 : Hid (R = false) := hide (by rw [unhide HE]; simp [y1])
              clear HE
              go_wp2
              go_ret
              exact ⟨by rw [unhide HE2]; rfl, unhide HA⟩
          · have HE2 : Hid (R = false) := hide (by rw [unhide HE]; simp [y0])
            clear HE
            go_wp2
            go_ret
            exact ⟨by rw [unhide HE2]; rfl, unhide HA⟩
end Go.Proofs.YtihgmpebpkjmkaaGreatDoor

/-
  What tally.isRight and Check tell, over this seat's program.
-/
set_option linter.unusedVariables false
set_option linter.unusedSimpArgs false
namespace Go.Proofs.YtihgmpebpkjmkaaGreatDoor
open Go.RowKit Go.Proofs.Nst

set_option maxHeartbeats 8000000 in
set_option maxRecDepth 100000 in
theorem isRight_any (t : Tly) (v : Value) (w : World) (hf : FitT t) (h : RowSp w v t.all) (hl : t.all.length ≤ 1048576) :
    Calls Tryz.prog 18 #[tlV t v] w fun e w' => e = .returned (.bool (rightT t)) ∧ Below w.heap.size w w' := by
  have HAL := hide (fun W (hb : Below w.heap.size w W) => isOfAll_any t v W hf (RowSp.below h hb) hl)
  obtain ⟨a, cap, rfl, _⟩ := id h
  obtain ⟨n, hn⟩ : ∃ n, n = t.all.length := ⟨_, rfl⟩
  rw [← hn] at HAL h ⊢
  have HW := hide (fun W => isWanted_any t a n cap W hf hn)
  have HS := hide (fun W => isOfSome_any t a n cap W hf)
  obtain ⟨wt, mn, lo, hi, al⟩ := t
  obtain ⟨f1, _, f2, f3⟩ := hf
  simp only at f1 f2 f3 hn
  have b0 := over15n wt f1
  have b4 := bit_ne wt 4 4 rfl f1 (by decide)
  have HA := hide (show Below w.heap.size w (w.alloc (.cells #[.int .u8 (wt : Int), .int .i64 mn, .int .u32 (lo : Int), .int .u32 (hi : Int), .slice a n cap] 28)) from (Below.refl _ w).alloc (Nat.le_refl _) _)
  have HK := hide (Blk.new w 28 #[.int .u8 (wt : Int), .int .i64 mn, .int .u32 (lo : Int), .int .u32 (hi : Int), .slice a n cap])
  obtain ⟨R, hR⟩ : ∃ R, rightT ⟨wt, mn, lo, hi, al⟩ = R := ⟨_, rfl⟩
  rw [hR]
  have HR : Hid (R = if 15 < wt ∨ wanted ⟨wt, mn, lo, hi, al⟩ = false then false else if bitW wt 4 = true then ofAll ⟨wt, mn, lo, hi, al⟩ else decide (mn = 0 ∧ lo = 0 ∧ hi = 0) || ofSome ⟨wt, mn, lo, hi, al⟩) := hide (by rw [← hR]; rfl)
  generalize wanted ⟨wt, mn, lo, hi, al⟩ = G at HW HR
  generalize ofAll ⟨wt, mn, lo, hi, al⟩ = P at HAL HR
  generalize ofSome ⟨wt, mn, lo, hi, al⟩ = S at HS HR
  simp only [tlV, tlC] at HAL HW HS ⊢
  clear hR h hn hl f1 f2 f3
  go_enter Tryz.func18, Tryz.ntmps18
  go_upto_region 1 with (fail)
  generalize w.alloc (.cells #[.int .u8 (wt : Int), .int .i64 mn, .int .u32 (lo : Int), .int .u32 (hi : Int), .slice a n cap] 28) = W at HA HK ⊢
  have c0 := (unhide HK).cell 0
  have c1 := (unhide HK).cell 1
  have c2 := (unhide HK).cell 2
  have c3 := (unhide HK).cell 3
  have c4 := (unhide HK).cell 4
  simp only [List.getElem?_toArray, List.getElem?_cons_succ, List.getElem?_cons_zero] at c0 c1 c2 c3 c4
  by_cases z0 : 15 < wt
  · rw [decide_eq_true z0] at b0
    have HE : Hid (R = false) := hide (by rw [unhide HR, if_pos (.inl z0)])
    clear HR z0 b4 HW HAL HS
    go_wp2
    go_ret
    exact ⟨by rw [unhide HE]; rfl, unhide HA⟩
  · rw [decide_eq_false z0] at b0
    have hr := unhide HR
    clear HR
    go_wp2_with fail
    refine (unhide HW _).mono ?_
    rintro e w1 ⟨rfl, hb1⟩
    have HB := hide (belows' (unhide HA) hb1)
    have HK1 := hide ((unhide HK).below hb1)
    clear hb1 HW HA HK c0 c1 c2 c3 c4 b0
    cases G with
    | false =>
      rw [if_pos (.inr rfl)] at hr
      have HE := hide hr
      clear hr z0 b4 HAL HS
      go_wp2
      go_ret
      exact ⟨by rw [unhide HE]; rfl, unhide HB⟩
    | true =>
      rw [if_neg (by rintro (h9 | h9); exact z0 h9; cases h9)] at hr
      have c0 := (unhide HK1).cell 0
      have c1 := (unhide HK1).cell 1
      have c2 := (unhide HK1).cell 2
      have c3 := (unhide HK1).cell 3
      have c4 := (unhide HK1).cell 4
      simp only [List.getElem?_toArray, List.getElem?_cons_succ, List.getElem?_cons_zero] at c0 c1 c2 c3 c4
      clear z0
      cases hb : bitW wt 4 with
      | true =>
        rw [hb] at b4 hr
        rw [if_pos rfl] at hr
        have HE := hide hr
        clear hr HS
        go_wp2_with fail
        refine (unhide HAL _ (unhide HB)).mono ?_
        rintro e w2 ⟨rfl, hb2⟩
        have HB2 := hide (belows' (unhide HB) hb2)
        clear hb2 HAL
        go_wp2
        go_ret
        exact ⟨by rw [unhide HE]; rfl, unhide HB2⟩
      | false =>
        rw [hb] at b4 hr
        rw [if_neg (by simp)] at hr
        have HE := hide hr
        clear hr HAL
        go_upto_region 5 with (fail)
        clear b4 hb
        obtain ⟨Z, hZ⟩ : ∃ Z : Bool, Z = decide (mn = 0 ∧ lo = 0 ∧ hi = 0) := ⟨_, rfl⟩
        rw [← hZ] at HE
        have HZ := hide hZ
        clear hZ
        go_cut [3] from 21 to 33 (fun v wx => v = .bool Z ∧ wx = w1)
        case first =>
          have hz := unhide HZ
          clear HE HZ HS
          by_cases y0 : mn = 0
          · have p0 : (mn == 0) = true := by simp [y0]
            by_cases y1 : lo = 0
            · have p1 : ((lo : Int) == 0) = true := by simp [y1]
              have hz2 : Z = ((hi : Int) == 0) := by
                rw [hz]
                by_cases y2 : hi = 0
                · simp [y0, y1, y2]
                · simp [y2]
              have HZ2 := hide hz2
              clear hz hz2 y0 y1
              go_wp2
              go_meet
              exact ⟨by rw [unhide HZ2], rfl⟩
            · have p1 : ((lo : Int) == 0) = false := by simp; omega
              have HZ2 : Hid (Z = false) := hide (by rw [hz]; simp [y1])
              clear hz y0 y1
              go_wp2
              go_meet
              exact ⟨by rw [unhide HZ2], rfl⟩
          · have p0 : (mn == 0) = false := by simp; omega
            have HZ2 : Hid (Z = false) := hide (by rw [hz]; simp [y0])
            clear hz y0
            go_wp2
            go_meet
            exact ⟨by rw [unhide HZ2], rfl⟩
        case rest =>
        obtain ⟨rfl, hwc⟩ := hcut
        rw [hwc]
        clear hwc HZ
        cases Z with
        | true =>
          clear HS
          go_wp2
          go_ret
          exact ⟨by rw [unhide HE]; rfl, unhide HB⟩
        | false =>
          go_wp2_with fail
          refine (unhide HS _).mono ?_
          rintro e w2 ⟨rfl, hb2⟩
          have HB2 := hide (belows' (unhide HB) hb2)
          clear hb2 HS
          go_wp2
          go_ret
          exact ⟨by rw [unhide HE]; simp, unhide HB2⟩

end Go.Proofs.YtihgmpebpkjmkaaGreatDoor

/-
  What tally.textOf tells, over this seat's program.
-/
set_option linter.unusedVariables false
set_option linter.unusedSimpArgs false
namespace Go.Proofs.YtihgmpebpkjmkaaGreatDoor
open Go.RowKit Go.Proofs.Nst

theorem itoaT_any (n : Nat) (hn : n ≤ 9223372036854775807) (w : World) (ht : PowT w) :
    Calls Tryz.prog 42 #[.int .i64 (n : Int)] w fun e w' => e = .returned (.string ⟨(Lib.decDigits n).toArray⟩) ∧ Below w.heap.size w w' := by
  refine (Tryz.strconv_Itoa (n : Int) (by omega) (by omega) w ht).mono ?_
  rintro e w' ⟨rfl, k, os, rfl⟩
  rw [Lib.itoa_nonneg]
  exact ⟨rfl, Lib.below_grow _ _ (Nat.le_refl _) k os⟩

set_option maxHeartbeats 8000000 in
set_option maxRecDepth 100000 in
theorem textOf_any (t : Tly) (v : Value) (k : Nat) (q : Int) (hq : q = (k : Int)) (w : World) (hk : k = 1 ∨ k = 2 ∨ k = 4 ∨ k = 8) (hf : FitT t) (hm : 0 ≤ t.many) (h : RowSp w v t.all) (hp : PowT w) :
    Calls Tryz.prog 19 #[tlV t v, .int .u8 q] w fun e w' => e = .returned (.string ⟨(textT t k).toArray⟩) ∧ Below w.heap.size w w' := by
  obtain ⟨a, cap, hva, hh⟩ := id h
  subst hva
  clear hh
  obtain ⟨n, hn⟩ : ∃ n, n = t.all.length := ⟨_, rfl⟩
  rw [← hn] at h ⊢
  obtain ⟨wt, mn, lo, hi, al⟩ := t
  obtain ⟨f1, fm, f2, f3⟩ := hf
  simp only at f1 f2 f3 hm fm h hn
  have HA := hide (show Below w.heap.size w (w.alloc (.cells #[.int .u8 (wt : Int), .int .i64 mn, .int .u32 (lo : Int), .int .u32 (hi : Int), .slice a n cap] 28)) from (Below.refl _ w).alloc (Nat.le_refl _) _)
  have HK := hide (Blk.new w 28 #[.int .u8 (wt : Int), .int .i64 mn, .int .u32 (lo : Int), .int .u32 (hi : Int), .slice a n cap])
  have b8 := bit_ne wt 8 8 rfl f1 (by decide)
  have HP := hide (hp.below (unhide HA))
  have HRW := hide (RowSp.below h (unhide HA))
  have HFI : Hid (∀ x ∈ al, x.1 ≤ 4294967295 ∧ x.2 ≤ 4294967295) := hide (by obtain ⟨_, _, _, _, hfit, _⟩ := id h; exact hfit)
  obtain ⟨R, hR⟩ : ∃ R, textT ⟨wt, mn, lo, hi, al⟩ k = R := ⟨_, rfl⟩
  rw [hR]
  have HR : Hid (R = if k = 1 ∧ lo ≠ 0 then Lib.decDigits lo else if k = 2 ∧ hi ≠ 0 then Lib.decDigits hi else if k = 4 ∧ n ≠ 0 then (writeR al).1 else if k = 8 ∧ bitW wt 8 = true then Lib.decDigits mn.toNat else []) := hide (by rw [← hR, hn]; rfl)
  have HLO : Hid (∀ W, Below (w.alloc (.cells #[.int .u8 (wt : Int), .int .i64 mn, .int .u32 (lo : Int), .int .u32 (hi : Int), .slice a n cap] 28)).heap.size (w.alloc (.cells #[.int .u8 (wt : Int), .int .i64 mn, .int .u32 (lo : Int), .int .u32 (hi : Int), .slice a n cap] 28)) W → Calls Tryz.prog 40 #[.int .u64 (lo : Int), .int .i64 10] W fun e w' => e = .returned (.string ⟨(Lib.decDigits lo).toArray⟩) ∧ Below W.heap.size W w') := hide (fmt_any _ lo f2 (unhide HP))
  have HHI : Hid (∀ W, Below (w.alloc (.cells #[.int .u8 (wt : Int), .int .i64 mn, .int .u32 (lo : Int), .int .u32 (hi : Int), .slice a n cap] 28)).heap.size (w.alloc (.cells #[.int .u8 (wt : Int), .int .i64 mn, .int .u32 (lo : Int), .int .u32 (hi : Int), .slice a n cap] 28)) W → Calls Tryz.prog 40 #[.int .u64 (hi : Int), .int .i64 10] W fun e w' => e = .returned (.string ⟨(Lib.decDigits hi).toArray⟩) ∧ Below W.heap.size W w') := hide (fmt_any _ hi f3 (unhide HP))
  have HWR := hide (nwrite_any (.slice a n cap) al _ (unhide HRW) (fun x hx => ⟨fun _ => fmt_any _ _ (unhide HFI x hx).1 (unhide HP), fun _ => fmt_any _ _ (unhide HFI x hx).2 (unhide HP)⟩))
  obtain ⟨mN, hmN⟩ : ∃ mN : Nat, mn = (mN : Int) := ⟨mn.toNat, by omega⟩
  have hmt : mn.toNat = mN := by omega
  have hmN9 : mN ≤ 9223372036854775807 := by omega
  have HIT := hide (itoaT_any mN hmN9 _ (unhide HP))
  rw [hmt] at HR
  have w1 : IntKind.u64.wrap (lo : Int) = (lo : Int) := by rw [IntKind.wrap_u64]; omega
  have w2 : IntKind.u64.wrap (hi : Int) = (hi : Int) := by rw [IntKind.wrap_u64]; omega
  have hlo8 : lo ≤ 4294967295 := f2
  have hhi8 : hi ≤ 4294967295 := f3
  simp only [tlV, tlC]
  rw [hmN] at HA HK HP HRW HLO HHI HWR HIT ⊢
  clear hR h hp hn hmN hmt hm fm f1 f2 f3 hmN9 HFI HRW HP
  rcases hk with rfl | rfl | rfl | rfl
  · have hq1 : q = 1 := hq
    clear hq
    subst hq1
    by_cases z : lo = 0
    · have p0 : ((lo : Int) != 0) = false := by simp [z]
      have HE : Hid (R = []) := hide (by rw [unhide HR]; simp [z])
      clear z HR
      go_enter Tryz.func19, Tryz.ntmps19
      go_wp2
      go_ret
      exact ⟨by rw [unhide HE]; rfl, unhide HA⟩
    · have p0 : ((lo : Int) != 0) = true := by simp; omega
      have HE : Hid (R = Lib.decDigits lo) := hide (by rw [unhide HR]; simp [z])
      clear z HR
      go_enter Tryz.func19, Tryz.ntmps19
      go_wp2_with fail
      refine (unhide HLO _ (Below.refl _ _)).mono ?_
      rintro e w1 ⟨rfl, hb⟩
      have HB := hide (belows' (unhide HA) hb)
      clear hb
      go_wp2
      go_ret
      exact ⟨by rw [unhide HE]; rfl, unhide HB⟩
  · have hq1 : q = 2 := hq
    clear hq
    subst hq1
    by_cases z : hi = 0
    · have p0 : ((hi : Int) != 0) = false := by simp [z]
      have HE : Hid (R = []) := hide (by rw [unhide HR]; simp [z])
      clear z HR
      go_enter Tryz.func19, Tryz.ntmps19
      go_wp2
      go_ret
      exact ⟨by rw [unhide HE]; rfl, unhide HA⟩
    · have p0 : ((hi : Int) != 0) = true := by simp; omega
      have HE : Hid (R = Lib.decDigits hi) := hide (by rw [unhide HR]; simp [z])
      clear z HR
      go_enter Tryz.func19, Tryz.ntmps19
      go_wp2_with fail
      refine (unhide HHI _ (Below.refl _ _)).mono ?_
      rintro e w1 ⟨rfl, hb⟩
      have HB := hide (belows' (unhide HA) hb)
      clear hb
      go_wp2
      go_ret
      exact ⟨by rw [unhide HE]; rfl, unhide HB⟩
  · have hq1 : q = 4 := hq
    clear hq
    subst hq1
    by_cases z : n = 0
    · have p0 : ¬ 0 < n := by omega
      have HE : Hid (R = []) := hide (by rw [unhide HR]; simp [z])
      clear z HR
      go_enter Tryz.func19, Tryz.ntmps19
      go_wp2
      go_ret
      exact ⟨by rw [unhide HE]; rfl, unhide HA⟩
    · have p0 : 0 < n := by omega
      have HE : Hid (R = (writeR al).1) := hide (by rw [unhide HR]; simp [z])
      clear z HR
      go_enter Tryz.func19, Tryz.ntmps19
      go_wp2_with fail
      refine (unhide HWR).mono ?_
      rintro e w1 ⟨rfl, hb⟩
      have HB := hide (belows' (unhide HA) hb)
      clear hb
      go_wp2
      go_ret
      exact ⟨by rw [unhide HE]; rfl, unhide HB⟩
  · have hq1 : q = 8 := hq
    clear hq
    subst hq1
    cases hb : bitW wt 8 with
    | false =>
      rw [hb] at b8
      have HE : Hid (R = []) := hide (by rw [unhide HR]; simp [hb])
      clear hb HR
      go_enter Tryz.func19, Tryz.ntmps19
      go_wp2
      go_ret
      exact ⟨by rw [unhide HE]; rfl, unhide HA⟩
    | true =>
      rw [hb] at b8
      have HE : Hid (R = Lib.decDigits mN) := hide (by rw [unhide HR]; simp [hb])
      clear hb HR
      go_enter Tryz.func19, Tryz.ntmps19
      go_wp2_with fail
      refine (unhide HIT).mono ?_
      rintro e w1 ⟨rfl, hb⟩
      have HB := hide (belows' (unhide HA) hb)
      clear hb
      go_wp2
      go_ret
      exact ⟨by rw [unhide HE]; rfl, unhide HB⟩
end Go.Proofs.YtihgmpebpkjmkaaGreatDoor

/-
  What tally.Write tells, over this seat's program.
-/
set_option linter.unusedVariables false
set_option linter.unusedSimpArgs false
namespace Go.Proofs.YtihgmpebpkjmkaaGreatDoor
open Go.RowKit Go.Proofs.Nst

theorem dec_len : ∀ (k u : Nat), u < 10 ^ k → 1 ≤ k → (Lib.decDigits u).length ≤ k
  | 0, u, _, h1 => by omega
  | k + 1, u, hu, _ => by
    rw [Lib.decDigits]
    split
    · simp
    · rename_i hge
      rw [List.length_append]
      have h2 : u / 10 < 10 ^ k := by rw [Nat.pow_succ] at hu; omega
      have h3 : 1 ≤ k := by
        rcases Nat.eq_zero_or_pos k with h4 | h4
        · subst h4; simp at hu; omega
        · exact h4
      have := dec_len k (u / 10) h2 h3
      simp
      omega
theorem dec_ne (u : Nat) : Lib.decDigits u ≠ [] := by
  rw [Lib.decDigits]
  split
  · simp
  · simp
theorem textT_len {t : Tly} {k : Nat} (hf : FitT t) (ha : ∀ x ∈ t.all, FitS x) : (textT t k).length ≤ 24600 := by
  obtain ⟨_, fm, f2, f3⟩ := hf
  unfold textT
  split
  · have := dec_len 10 t.least (by omega) (by decide); omega
  · split
    · have := dec_len 10 t.most (by omega) (by decide); omega
    · split
      · unfold writeR
        split
        · simp
        · rename_i h9
          have := accT_len ha t.all.length (Nat.le_refl _)
          rw [List.take_length] at this
          have e : writeP t.all = accT t.all := rfl
          simp only [e]
          omega
      · split
        · have := dec_len 19 t.many.toNat (by have := fm.2; omega) (by decide); omega
        · simp
theorem right_many {t : Tly} (h : rightT t = true) : 0 ≤ t.many := by
  unfold rightT at h
  split at h
  · cases h
  · rename_i hno
    split at h
    · unfold ofAll at h
      split at h
      · cases h
      · rename_i ns _
        simp only [Bool.and_eq_true, decide_eq_true_eq] at h
        rw [h.2.1]
        unfold ofR
        split
        · simp [zT]
        · split
          · simp [zT]
          · split
            · simp
            · split
              · simp [zT]
              · unfold ofT
                simp only
                split <;> omega
    · rw [Bool.or_eq_true] at h
      rcases h with h | h
      · unfold ofNone at h; rw [decide_eq_true_eq] at h; omega
      · unfold ofSome at h
        split at h
        · cases h
        · split at h
          · rename_i hb
            have hw : wanted t = true := by
              cases hw : wanted t with
              | true => rfl
              | false => exact absurd (.inr hw) hno
            unfold wanted at hw
            rw [hb] at hw
            simp only [Bool.and_eq_true, Bool.false_or, decide_eq_true_eq] at hw
            rw [hw.2.2.2]
            omega
          · rw [decide_eq_true_eq] at h
            have : 1 ≤ fewE t := by unfold fewE; split <;> omega
            omega
/-- The text of the first words. -/
def bT (t : Tly) (k : Nat) : List UInt8 := (wordsT.take k).foldl (stepT t) []
theorem bT_next (t : Tly) {k : Nat} (h : k < 4) : bT t (k + 1) = stepT t (bT t k) ((wn k).data.toList, wb k) := by
  unfold bT
  rw [take_words h, List.foldl_append]
  rfl
theorem bT_len {t : Tly} (hf : FitT t) (ha : ∀ x ∈ t.all, FitS x) : ∀ k, k ≤ 4 → (bT t k).length ≤ 24610 * k
  | 0, _ => by simp [bT]
  | k + 1, h => by
    have ih := bT_len hf ha k (by omega)
    rw [bT_next t (by omega)]
    have h1 := textT_len (k := wb k) hf ha
    have h2 := wn_size k
    have h3 : (wn k).data.toList.length = (wn k).size := rfl
    unfold stepT
    split
    · omega
    · simp only [List.length_append, List.length_cons]
      split
      · simp only [List.length_nil]; omega
      · simp only [List.length_append, List.length_cons, List.length_nil]; omega
theorem wb_of {k : Nat} (h : k < 4) : wb k = 1 ∨ wb k = 2 ∨ wb k = 4 ∨ wb k = 8 := by
  rcases (show k = 0 ∨ k = 1 ∨ k = 2 ∨ k = 3 by omega) with rfl | rfl | rfl | rfl <;> decide
theorem words_all : wordsT.take 4 = wordsT := rfl

set_option maxHeartbeats 8000000 in
set_option maxRecDepth 100000 in
theorem twrite_any (t : Tly) (v : Value) (w : World) (hf : FitT t) (h : RowSp w v t.all) (hl : t.all.length ≤ 1048576) (hp : PowT w) (ht : WTab w) :
    Calls Tryz.prog 6 #[tlV t v] w fun e w' => e = .returned (.tuple #[.string ⟨(writeT t).1.toArray⟩, .int .i64 ((writeT t).2 : Int)]) ∧ Below w.heap.size w w' := by
  have hA : Below w.heap.size w (w.alloc (.cells (tlC t v) 28)) := (Below.refl _ w).alloc (Nat.le_refl _) _
  have HA := hide hA
  have HK := hide (Blk.new w 28 (tlC t v))
  have HI := hide (isRight_any t v _ hf (RowSp.below h hA) hl)
  have HRM : Hid (rightT t = true → 0 ≤ t.many) := hide right_many
  have HFIT : Hid (∀ x ∈ t.all, FitS x) := hide (by obtain ⟨_, _, _, _, hfit, _⟩ := id h; exact hfit)
  have HLEN := hide (fun k (hk : k ≤ 4) => bT_len hf (unhide HFIT) k hk)
  have HNX := hide (fun k (hk : k < 4) => bT_next t hk)
  have HTX := hide (fun W (hb : Below w.heap.size w W) (k : Nat) (q : Int) (hq : q = (k : Int)) (hk : k = 1 ∨ k = 2 ∨ k = 4 ∨ k = 8) (hm : 0 ≤ t.many) => textOf_any t v k q hq W hk hf hm (RowSp.below h hb) (hp.below hb))
  have HWT := hide (fun W (hb : Below w.heap.size w W) => load_words (ht.below hb))
  have HTL := hide (fun k => textT_len (k := k) hf (unhide HFIT))
  obtain ⟨R, hR⟩ : ∃ R, writeT t = R := ⟨_, rfl⟩
  rw [hR]
  have HR : Hid (R = if rightT t = true then (bT t 4, 0) else ([], 2)) := hide (by rw [← hR]; rfl)
  generalize rightT t = G at HI HRM HR
  obtain ⟨wt, mn, lo, hi, al⟩ := t
  simp only [tlV, tlC] at HA HK HI HTX ⊢
  clear hR hA h hl hp ht HFIT
  go_enter Tryz.func6, Tryz.ntmps6
  go_wp2_with fail
  refine (unhide HI).mono ?_
  rintro e w1 ⟨rfl, hb1⟩
  have HB := hide (belows' (unhide HA) hb1)
  have HK1 := hide ((unhide HK).below hb1)
  clear hb1 HI HK HA
  cases G with
  | false =>
    have HE : Hid (R = ([], 2)) := hide (by rw [unhide HR]; rfl)
    clear HR HRM HLEN HNX HTX HWT
    go_wp2
    go_ret2
    exact ⟨by rw [unhide HE]; rfl, unhide HB⟩
  | true =>
    have HE : Hid (R = (bT ⟨wt, mn, lo, hi, al⟩ 4, 0)) := hide (by rw [unhide HR]; rfl)
    have hmn := unhide HRM rfl
    have HMN := hide hmn
    have HW0 := hide (Wr.new w1)
    have HLD := hide (unhide HWT _ ((unhide HB).trans ((Below.alloc (Below.refl _ w1) (Nat.le_refl _) (.cells #[.pointer none, .slice none 0 0] 60)).mono (unhide HB).size)))
    clear HR HRM hmn HWT
    go_wp2_with (refine wpList_load_var rfl 62 _ rfl ⟨0, 0, none⟩ rfl _ (unhide HLD) ?_)
    go_loopw [6, 7, 12] (fun _ _ z wr => ∃ k : Nat, z = .int .i64 k ∧ k ≤ 4 ∧ Hid (Wr w1 wr (bT ⟨wt, mn, lo, hi, al⟩ k))) (fun _ _ z _ => 4 - (intOf z).toNat)
    case atStart => exact ⟨0, rfl, Nat.zero_le _, HW0⟩
    case round =>
      obtain ⟨k, rfl, hk, HW⟩ := hrel
      clear HLD HW0
      by_cases hlt : k < 4
      · have hix := index_words k hlt
        have hnz := wn_size k
        have hwl := wb_lt k
        have HWO := hide (wb_of hlt)
        have HNX1 := hide (unhide HNX k hlt)
        have hlen := unhide HLEN k hk
        generalize bT ⟨wt, mn, lo, hi, al⟩ k = B at HW HNX1 hlen
        have hBW := (unhide HB).trans ((unhide HW).bel.mono (unhide HB).size)
        have hbx := (unhide HK1).below (unhide HW).bel
        have HX1 := hide (WrX.new (unhide HW) 61 #[.string (wn k), .int .u8 (wb k : Int)])
        have hal := Below.alloc (Below.refl _ wr) (Nat.le_refl _) (.cells #[.string (wn k), .int .u8 (wb k : Int)] 61)
        have HTX1 := hide (unhide HTX _ (hBW.trans (hal.mono hBW.size)) (wb k) _ rfl (unhide HWO) (unhide HMN))
        have HTL1 := hide (unhide HTL (wb k))
        have HBX := hide (hbx.below hal)
        have HBW := hide (hBW.trans (hal.mono hBW.size))
        clear hBW hbx hal HTX HNX HLEN HTL HW
        generalize wn k = x at hix hnz HX1 HTX1 HNX1 HBX HBW
        generalize wb k = y at hix hwl HX1 HTX1 HNX1 HTL1 HBX HBW HWO
        obtain ⟨V, hV⟩ : ∃ V, V = wr.alloc (.cells #[.string x, .int .u8 (y : Int)] 61) := ⟨_, rfl⟩
        rw [← hV] at HX1 HTX1 HBX HBW
        have HV := hide hV
        clear hV
        go_upto_region 7 with (fail)
        rw [← unhide HV]
        obtain ⟨K, hK⟩ : ∃ K, K = wr.heap.size := ⟨_, rfl⟩
        rw [← hK] at HX1 ⊢
        clear hK HV
        have HST : Hid (bT ⟨wt, mn, lo, hi, al⟩ (k + 1) = if textT ⟨wt, mn, lo, hi, al⟩ y = [] then B else (if B = [] then [] else B ++ [32]) ++ (x.data.toList ++ 32 :: textT ⟨wt, mn, lo, hi, al⟩ y)) := hide (unhide HNX1)
        have htl := unhide HTL1
        generalize textT ⟨wt, mn, lo, hi, al⟩ y = TX at HTX1 HST htl
        have d0 := (unhide HBX).cell 0
        have d1 := (unhide HBX).cell 1
        have d2 := (unhide HBX).cell 2
        have d3 := (unhide HBX).cell 3
        have d4 := (unhide HBX).cell 4
        have e0 := (unhide HX1).box.cell 0
        have e1 := (unhide HX1).box.cell 1
        simp only [List.getElem?_toArray, List.getElem?_cons_succ, List.getElem?_cons_zero] at d0 d1 d2 d3 d4 e0 e1
        clear HNX1 HTL1 HWO
        go_wp2_with fail
        refine (unhide HTX1).mono ?_
        rintro e w2 ⟨rfl, hb2⟩
        have HX2 := hide ((unhide HX1).below hb2)
        clear d0 d1 d2 d3 d4 e0 e1 HTX1 HX1 HBX HBW hb2
        by_cases hz : TX = []
        · have HN2 : Hid (Wr w1 w2 (bT ⟨wt, mn, lo, hi, al⟩ (k + 1))) := hide (by rw [unhide HST, if_pos hz]; exact (unhide HX2).wr)
          rw [hz]
          clear HST hz
          go_wp2
          exact ⟨⟨k + 1, by go_num, by omega, HN2⟩, by simp [intOf]; omega⟩
        · have pz : ¬ ((⟨TX.toArray⟩ : ByteArray) = ⟨#[]⟩) := by
            intro h9
            have := congrArg (fun z => z.data.toList) h9
            simp at this
            exact hz this
          have pz2 := beqS (⟨TX.toArray⟩ : ByteArray) ⟨#[]⟩
          rw [decide_eq_false pz] at pz2
          have pz3 : (⟨TX.toArray⟩ : ByteArray).toList.isEmpty = false := by rw [ByteArray.toList_eq]; cases TX with | nil => exact absurd rfl hz | cons a r => rfl
          have HST2 := hide (show bT ⟨wt, mn, lo, hi, al⟩ (k + 1) = (if B = [] then [] else B ++ [32]) ++ (x.data.toList ++ 32 :: TX) by rw [unhide HST, if_neg hz])
          have HLN := hide (Tryz.Builder_Len_f _ _ _ w2 (unhide HX2).wr.isb)
          rw [Lib.byteCells_length] at HLN
          obtain ⟨TB, hTB⟩ : ∃ TB : ByteArray, TB = ⟨TX.toArray⟩ := ⟨_, rfl⟩
          rw [← hTB] at pz pz2 pz3 ⊢
          have hTBl : TB.data.toList = TX := by rw [hTB]
          have hTBs : TB.size = TX.length := by rw [hTB]; rfl
          have HTB := hide hTBl
          clear HST hz hTB hTBl
          go_wp2_with fail
          refine (unhide HLN).mono ?_
          rintro e w3 ⟨rfl, rfl⟩
          by_cases hB0 : B = []
          · have hlB : ¬ 0 < B.length := by rw [hB0]; simp
            have e0 := (unhide HX2).box.cell 0
            simp only [List.getElem?_toArray, List.getElem?_cons_succ, List.getElem?_cons_zero] at e0
            have HS3 := hide (fun (z : ByteArray) (hz : z.size ≤ 100000) => xStr (unhide HX2) (by decide) z (by omega))
            have HST3 := hide (show ∀ z : ByteArray, z.data.toList = x.data.toList ++ 32 :: TX → B ++ z.data.toList = bT ⟨wt, mn, lo, hi, al⟩ (k + 1) from fun z hz => by rw [unhide HST2, if_pos hB0, hB0, hz])
            clear HLN HX2 HST2 hB0
            go_wp2_with fail
            refine (unhide HS3 _ ?_).mono ?_
            · simp only [ByteArray.size_append]
              have : (⟨#[32]⟩ : ByteArray).size = 1 := rfl
              omega
            rintro e w4 ⟨rfl, hw4⟩
            have HN2 : Hid (Wr w1 w4 (bT ⟨wt, mn, lo, hi, al⟩ (k + 1))) := hide (by
              rw [← unhide HST3 _ ?_]
              · exact hw4.wr
              · rw [ByteArray.data_append, Array.toList_append, ByteArray.data_append, Array.toList_append, unhide HTB]; simp)
            clear HS3 hw4
            go_wp2
            exact ⟨⟨k + 1, by go_num, by omega, HN2⟩, by simp [intOf]; omega⟩
          · have hlB : 0 < B.length := List.length_pos_iff.2 hB0
            have HS2 := hide (xStr (unhide HX2) (by decide) ⟨#[32]⟩ (by have : (⟨#[32]⟩ : ByteArray).size = 1 := rfl; omega))
            clear HLN HX2
            go_wp2_with fail
            refine (unhide HS2).mono ?_
            rintro e w4 ⟨rfl, hw4⟩
            have e0 := hw4.box.cell 0
            simp only [List.getElem?_toArray, List.getElem?_cons_succ, List.getElem?_cons_zero] at e0
            have HS3 := hide (fun (z : ByteArray) (hz : z.size ≤ 100000) => xStr hw4 (by decide) z (by rw [List.length_append, List.length_singleton]; omega))
            have HST3 := hide (show ∀ z : ByteArray, z.data.toList = x.data.toList ++ 32 :: TX → B ++ (⟨#[32]⟩ : ByteArray).data.toList ++ z.data.toList = bT ⟨wt, mn, lo, hi, al⟩ (k + 1) from fun z hz => by rw [unhide HST2, if_neg hB0, hz])
            clear HS2 hw4 HST2 hB0
            go_wp2_with fail
            refine (unhide HS3 _ ?_).mono ?_
            · simp only [ByteArray.size_append]
              have : (⟨#[32]⟩ : ByteArray).size = 1 := rfl
              omega
            rintro e w5 ⟨rfl, hw5⟩
            have HN2 : Hid (Wr w1 w5 (bT ⟨wt, mn, lo, hi, al⟩ (k + 1))) := hide (by
              rw [← unhide HST3 _ ?_]
              · exact hw5.wr
              · rw [ByteArray.data_append, Array.toList_append, ByteArray.data_append, Array.toList_append, unhide HTB]; simp)
            clear HS3 hw5
            go_wp2
            exact ⟨⟨k + 1, by go_num, by omega, HN2⟩, by simp [intOf]; omega⟩
      · have hk4 : k = 4 := by omega
        subst hk4
        have HSTR := hide (Tryz.Builder_String_any_f _ _ _ wr (unhide HW).isb (unhide HW).bel.size)
        have HBW := hide ((unhide HB).trans ((unhide HW).bel.mono (unhide HB).size))
        clear HW HNX HLEN HTX HTL
        generalize bT ⟨wt, mn, lo, hi, al⟩ 4 = AC at HSTR HE
        go_wp2_with fail
        refine (unhide HSTR).mono ?_
        rintro e w2 ⟨rfl, _, hb2⟩
        have HB2 := hide ((unhide HBW).trans (hb2.mono (unhide HB).size))
        clear hb2 HSTR
        go_wp2
        go_ret2
        exact ⟨by rw [unhide HE]; rfl, unhide HB2⟩
end Go.Proofs.YtihgmpebpkjmkaaGreatDoor

/-
  What strings.CutPrefix at whatever text, and tally.read do, over this seat's program.
-/
set_option linter.unusedVariables false
set_option linter.unusedSimpArgs false
namespace Go.Proofs.YtihgmpebpkjmkaaGreatDoor
open Go.RowKit Go.Proofs.Nst

/-- What is behind a text that another one begins with, or all. -/
def cutPB (s p : ByteArray) : ByteArray := if Lib.hasPrefix s.data.toList p.data.toList = true then s.extract p.size s.size else s
theorem hasPrefix_len {a b : List UInt8} (h : Lib.hasPrefix a b = true) : b.length ≤ a.length := by
  unfold Lib.hasPrefix at h
  have := List.isPrefixOf_iff_prefix.1 h
  exact this.length_le
theorem cutPB_list (s p : ByteArray) : (cutPB s p).data.toList = if Lib.hasPrefix s.data.toList p.data.toList = true then s.data.toList.drop p.data.toList.length else s.data.toList := by
  unfold cutPB
  split
  · rename_i h
    have hl := hasPrefix_len h
    rw [ByteArray.data_extract, Array.toList_extract, List.extract_eq_take_drop]
    rw [List.take_of_length_le]
    · rfl
    · rw [List.length_drop]; exact Nat.le_refl _
  · rfl
theorem cutPB_size (s p : ByteArray) : (cutPB s p).size ≤ s.size := by
  have h := congrArg List.length (cutPB_list s p)
  have e1 : (cutPB s p).data.toList.length = (cutPB s p).size := rfl
  have e2 : s.data.toList.length = s.size := rfl
  split at h
  · rw [List.length_drop] at h; omega
  · omega

theorem nText_le (s : List UInt8) : nText s ≤ 4294967295 := by
  unfold nText
  split
  · exact parse_fit32 ‹_›
  · omega
theorem parse_num (s : ByteArray) (w : World) (hE : ErrN w) (hs : s.size ≤ 281474976710656) :
    Calls Tryz.prog 89 #[.string s, .int .i64 10, .int .i64 32] w fun e w' => (e = .returned (.tuple #[.int .u64 (nText s.data.toList : Int), .nilIface]) ∨ (nText s.data.toList = 0 ∧ ∃ (m : Int) (t : TypeId) (p : Value), e = .returned (.tuple #[.int .u64 m, .iface t p]))) ∧ Below w.heap.size w w' := by
  refine (parse_any s w hE hs).mono ?_
  rintro e w' ⟨h, hb⟩
  refine ⟨?_, hb⟩
  unfold nText
  cases hp : Lib.parseUintB 32 s.data.toList with
  | ok u => rw [hp] at h; exact Or.inl h
  | range => rw [hp] at h; obtain ⟨t, p, he⟩ := h; exact Or.inr ⟨rfl, _, t, p, he⟩
  | _ => rw [hp] at h; obtain ⟨t, p, he⟩ := h; exact Or.inr ⟨rfl, _, t, p, he⟩

theorem own_low {w : World} {C B e k n : Nat} {v : Value} {xs : List Value} (h : w.ownsRow C e k v n xs) (hB : B ≤ C) : w.ownsRow B e k v n xs := by
  refine ⟨h.1, ?_⟩
  rcases h.2 with h | ⟨g, cap, cur, hv, hg, rest⟩
  · exact Or.inl h
  · exact Or.inr ⟨g, cap, cur, hv, Nat.le_trans hB hg, rest⟩
/-- A tally at work, with what it has in All. -/
structure PS (w W : World) (C : Nat) (t : Tly) (v : Value) : Prop where
  os : OS w W C (tlC t v)
  own : W.ownsRow w.heap.size 79 2 v t.all.length (flatG cellsS t.all)
  fit : ∀ x ∈ t.all, FitS x
theorem PS.below {w W W' : World} {C : Nat} {t : Tly} {v : Value} (h : PS w W C t v) (hb : Below W.heap.size W W') : PS w W' C t v :=
  ⟨h.os.below hb, own_below h.own hb, h.fit⟩
theorem PS.cell {w W : World} {C : Nat} {t t' : Tly} {v : Value} (h : PS w W C t v) (i : Nat) (u : Value) (hc : (tlC t v).setIfInBounds i u = tlC t' v) (ha : t'.all = t.all) : PS w (W.setCell ⟨C, i, none⟩ u) C t' v := by
  refine ⟨?_, ?_, by rw [ha]; exact h.fit⟩
  · rw [← hc]; exact h.os.set i u
  · rw [ha]; exact own_setT h.own h.os.k1 (by decide)

end Go.Proofs.YtihgmpebpkjmkaaGreatDoor

/-
  What tally.Parse tells, over this seat's program.
-/
set_option linter.unusedVariables false
set_option linter.unusedSimpArgs false
namespace Go.Proofs.YtihgmpebpkjmkaaGreatDoor
open Go.RowKit Go.Proofs.Nst

/-- What is read of the first words, and what is left. -/
def pT (wt : Nat) (s : List UInt8) (k : Nat) : Tly × List UInt8 := (wordsT.take k).foldl stepP ((⟨wt, 0, 0, 0, []⟩ : Tly), s)
theorem pT_next (wt : Nat) (s : List UInt8) {k : Nat} (h : k < 4) : pT wt s (k + 1) = stepP (pT wt s k) ((wn k).data.toList, wb k) := by
  unfold pT
  rw [take_words h, List.foldl_append]
  rfl
theorem parseP_len (s : List UInt8) : (parseP s).1.length ≤ 1024 := by
  unfold parseP
  split
  · split
    · rename_i h9; simpa using h9
    · simp
  · simp
theorem readT_ok {t : Tly} {k : Nat} {s : List UInt8} (h : FitT t ∧ t.all.length ≤ 1024) : FitT (readT t k s) ∧ (readT t k s).all.length ≤ 1024 := by
  obtain ⟨⟨h1, h2, h3, h4⟩, h5⟩ := h
  have hn := nText_le s
  have hp := parseP_len s
  unfold readT
  split
  · exact ⟨⟨h1, h2, hn, h4⟩, h5⟩
  · split
    · exact ⟨⟨h1, h2, h3, hn⟩, h5⟩
    · split
      · exact ⟨⟨h1, h2, h3, h4⟩, hp⟩
      · split
        · exact ⟨⟨h1, by simp only; omega, h3, h4⟩, h5⟩
        · exact ⟨⟨h1, h2, h3, h4⟩, h5⟩
theorem pT_ok (wt : Nat) (hw : wt ≤ 255) (s : List UInt8) : ∀ k, k ≤ 4 → FitT (pT wt s k).1 ∧ (pT wt s k).1.all.length ≤ 1024
  | 0, _ => ⟨⟨hw, by simp [pT], by simp [pT], by simp [pT]⟩, by simp [pT]⟩
  | k + 1, h => by
    rw [pT_next wt s (by omega)]
    unfold stepP
    split
    · exact readT_ok (pT_ok wt hw s k (by omega))
    · exact pT_ok wt hw s k (by omega)

end Go.Proofs.YtihgmpebpkjmkaaGreatDoor

/-
  What tally.Word and missiveref27.Same tell, over this seat's program.
-/
set_option linter.unusedVariables false
set_option linter.unusedSimpArgs false
namespace Go.Proofs.YtihgmpebpkjmkaaGreatDoor
open Go.RowKit Go.Proofs.Nst

def wordF (l : List UInt8) : List (List UInt8 × Nat) → Nat × Nat
  | [] => (0, 7)
  | p :: r => if smL l = smL p.1 then (p.2, 0) else wordF l r
def wordR (l : List UInt8) : Nat × Nat := wordF l wordsT
set_option maxHeartbeats 2000000 in
set_option maxRecDepth 100000 in
theorem word_any (s : ByteArray) (w : World) (ht : WTab w) (hs : s.size ≤ 281474976710656) :
    Calls Tryz.prog 8 #[.string s] w fun e w' => e = .returned (.tuple #[.int .u8 ((wordR s.data.toList).1 : Int), .int .i64 ((wordR s.data.toList).2 : Int)]) ∧ Below w.heap.size w w' := by
  have HLD := hide (load_words ht)
  have HF0 : Hid (wordR s.data.toList = wordF s.data.toList (wordsT.drop 0)) := hide rfl
  generalize wordR s.data.toList = R at HF0 ⊢
  clear ht
  go_enter Tryz.func8, Tryz.ntmps8
  go_wp2_with (refine wpList_load_var rfl 62 _ rfl ⟨0, 0, none⟩ rfl _ (unhide HLD) ?_)
  go_loopw [5, 7] (fun y z wr => ∃ k : Nat, z = .int .i64 k ∧ k ≤ 4 ∧ Hid (R = wordF s.data.toList (wordsT.drop k)) ∧ Below w.heap.size w wr) (fun _ z _ => 4 - (intOf z).toNat)
  case atStart => exact ⟨0, rfl, by omega, HF0, Below.refl _ _⟩
  case round =>
    obtain ⟨k, rfl, hk, HF, hbw⟩ := hrel
    have hzr := hbw.size
    by_cases hlt : k < 4
    · have hix := index_words k hlt
      have hnz := wn_size k
      have hch := wb_lt k
      have hfin := unhide HF
      rw [drop_words hlt, wordF] at hfin
      have HA := hide (fun W => like_any s (wn k) W hs (by omega))
      clear HF HF0
      by_cases he : smL s.data.toList = smL (wn k).data.toList
      · rw [if_pos he] at hfin
        rw [decide_eq_true he] at HA
        have HF := hide hfin
        clear hfin he
        generalize wn k = x at hix HA hnz
        generalize wb k = y at hix HF hch
        go_wp2_with fail
        refine (unhide HA _).mono ?_
        rintro e w1 ⟨rfl, q, rfl⟩
        go_wp2
        go_ret2
        exact ⟨by rw [unhide HF]; rfl, below_dr (hbw.alloc (by omega) _) _⟩
      · rw [if_neg he] at hfin
        rw [decide_eq_false he] at HA
        have HF := hide hfin
        clear hfin he
        generalize wn k = x at hix HA hnz
        generalize wb k = y at hix hch
        go_wp2_with fail
        refine (unhide HA _).mono ?_
        rintro e w1 ⟨rfl, q, rfl⟩
        go_wp2
        exact ⟨⟨k + 1, by go_num, by omega, HF, below_dr (hbw.alloc (by omega) _) _⟩, by simp [intOf]; omega⟩
    · have hfin : R = (0, 7) := by
        rw [unhide HF, show k = 4 by omega]; rfl
      have HF := hide hfin
      clear hfin
      go_wp2
      go_ret2
      exact ⟨by rw [unhide HF]; rfl, hbw⟩

end Go.Proofs.YtihgmpebpkjmkaaGreatDoor
