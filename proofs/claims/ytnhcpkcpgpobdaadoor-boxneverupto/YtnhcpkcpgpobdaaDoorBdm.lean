/-
  What (*box.work).do does, over this seat's program.
-/
import Derived.Test.YtnhcpkcpgpobdaaDoorBmk
set_option linter.unusedVariables false
set_option linter.unusedSimpArgs false
namespace Go.Proofs.YtnhcpkcpgpobdaaDoor
open Go.RowKit

theorem bchk_rise {l : List Nat} (h : chk l = 0) : l.Pairwise (· < ·) ∧ l.length ≤ 65536 := by
  unfold chk at h
  by_cases h1 : Go.Proofs.Dct.rises 0 l = true
  · rw [if_pos h1] at h
    have hlen : l.length ≤ 65536 := by
      rcases Nat.lt_or_ge 65536 l.length with h2 | h2
      · rw [if_neg (by omega)] at h; omega
      · exact h2
    refine ⟨?_, hlen⟩
    have key := (Go.Proofs.Dct.rises_iff l 0).1 h1
    rw [List.pairwise_iff_getElem]
    intro i j hi hj hij
    obtain ⟨d, rfl⟩ : ∃ d, j = i + d + 1 := ⟨j - i - 1, by omega⟩
    clear hij
    induction d with
    | zero => exact key.2 i hj
    | succ d ih => exact Nat.lt_trans (ih (by omega)) (key.2 (i + d + 1) hj)
  · rw [if_neg h1] at h
    omega
theorem okC_rise {c : Chg} (h : okC c = true) : c.us.Pairwise (· < ·) ∧ c.us.length ≤ 65536 := by
  unfold okC at h
  split at h
  · simp only [Bool.and_eq_true, decide_eq_true_eq] at h
    have : c.us = [] := List.eq_nil_of_length_eq_zero h.1
    rw [this]
    exact ⟨List.Pairwise.nil, by simp⟩
  · simp only [Bool.and_eq_true, decide_eq_true_eq] at h
    exact bchk_rise h.2.2.2.1
theorem okC_kind {c : Chg} (h : okC c = true) : c.kd = 1 ∨ c.kd = 5 ∨ c.kd = 6 ∨ c.kd = 2 ∨ c.kd = 3 ∨ c.kd = 4 := by
  unfold okC at h
  split at h
  · omega
  · simp only [Bool.and_eq_true, decide_eq_true_eq] at h
    omega

def workB (b : Bx) (c : Chg) : Bx := if c.kd = 1 then putB b c else if c.kd = 5 then ⟨b.va, b.nx, b.mr, b.la, stayL c.us b.ms⟩ else if c.kd = 6 then ⟨b.va, b.nx, b.la, b.nx - 1, b.ms⟩ else markB b c
def workT (b : Bx) (c : Chg) : List Nat := if c.kd = 1 then putT b else if c.kd = 5 then goneL c.us b.ms else if c.kd = 6 then [] else markT b c
def workE (b : Bx) (c : Chg) : Nat := if c.kd = 1 then putE b else if c.kd = 5 then 0 else if c.kd = 6 then 0 else markE b c

set_option maxHeartbeats 8000000 in
set_option maxRecDepth 100000 in
theorem do_any (P C0 B : Nat) (b : Bx) (c : Chg) (vm vc : Value) (W : World)
    (KP : Blk W P 61 (wkC b vm (.slice none 0 0)))
    (OM : W.ownsRow C0 47 6 vm b.ms.length (flatG msC b.ms)) (hfm : ∀ m ∈ b.ms, FitM m) (hn : b.ms.length ≤ 4096) (hr : (uidsM b.ms).Pairwise (· < ·))
    (hnx : 1 ≤ b.nx ∧ b.nx ≤ 4294967296) (hfc : FitC c) (HU0 : ∀ X, Below B W X → Row32 X vc c.us) (hus : c.us.Pairwise (· < ·)) (hul : c.us.length ≤ 65536) (hP : B ≤ P) (hC : B ≤ C0) (hC2 : C0 ≤ W.heap.size) :
    Calls Tryd.prog 30 #[.pointer (some ⟨P, 0, none⟩), chV c vc] W fun e W' => e = .returned (.int .i64 (workE b c : Int)) ∧ ∃ vm' vt', Blk W' P 61 (wkC (workB b c) vm' vt') ∧ OutM W' vm' (workB b c).ms ∧ OutT W' vt' (workT b c) ∧ Below B W W' := by
  have hvc := HU0 W (Below.refl _ _)
  obtain ⟨au, cu, rfl, _, _, _⟩ := hvc
  have hPW := KP.lt
  obtain ⟨Q, hQ⟩ : ∃ Q, W.heap.size = Q := ⟨_, rfl⟩
  obtain ⟨V, hV⟩ : ∃ V, W.alloc (.cells (chC c (.slice au c.us.length cu)) 33) = V := ⟨_, rfl⟩
  have hA : Below W.heap.size W V := by rw [← hV]; exact (Below.refl _ W).alloc (Nat.le_refl _) _
  have KQ : Blk V Q 33 (chC c (.slice au c.us.length cu)) := by rw [← hV, ← hQ]; exact Blk.new W 33 _
  have KP1 := KP.below hA
  have OM1 := own_below OM hA
  have hVs : V.heap.size = W.heap.size + 1 := by rw [← hV, World.size_alloc]
  have hB1 : Below B W V := hA.mono (by omega)
  have HU1 : ∀ X, Below B V X → Row32 X (.slice au c.us.length cu) c.us := fun X hX => HU0 X (hB1.trans hX)
  have HBV := hide hB1
  by_cases h1 : c.kd = 1
  · have d1 : ((c.kd : Int) == 1) = true := by rw [h1]; rfl
    have HP := hide (put_any P C0 B b c vm (.slice au c.us.length cu) V KP1 OM1 hfm hn hnx hfc ⟨_, _, _, rfl⟩ hP hC (by omega))
    have e1 : workE b c = putE b := by unfold workE; rw [if_pos h1]
    have e2 : workT b c = putT b := by unfold workT; rw [if_pos h1]
    have e3 : workB b c = putB b c := by unfold workB; rw [if_pos h1]
    rw [e1, e2, e3]
    generalize putE b = E0 at HP ⊢
    generalize putT b = T0 at HP ⊢
    generalize putB b c = B0 at HP ⊢
    clear e1 e2 e3 hfm hr hnx hfc HU0 HU1 hus h1 OM OM1 KP KP1 hA hB1
    obtain ⟨kd, us, fl, dy, sc, zn, raw⟩ := c
    simp only [chV, chC] at *
    subst hV hQ
    go_enter Tryd.func30, Tryd.ntmps30
    go_wp2_with fail
    refine (unhide HP).mono ?_
    rintro e w1 ⟨rfl, vm', vt', q1, q2, q3, q4⟩
    have R0 := hide q1
    have R1 := hide q2
    have R2 := hide q3
    have R3 := hide ((unhide HBV).trans q4)
    clear q1 q2 q3 q4 HP HBV KQ
    go_wp2
    go_ret
    exact ⟨rfl, _, _, unhide R0, unhide R1, unhide R2, unhide R3⟩
  · have d1 : ((c.kd : Int) == 1) = false := by simp; omega
    by_cases h5 : c.kd = 5
    · have d5 : ((c.kd : Int) == 5) = true := by rw [h5]; rfl
      have HP := hide (expunge_any P C0 B b vm (.slice au c.us.length cu) c.us V KP1 OM1 hfm (by omega) HU1 hus hul hP (by omega))
      have e1 : workE b c = 0 := by unfold workE; rw [if_neg h1, if_pos h5]
      have e2 : workT b c = goneL c.us b.ms := by unfold workT; rw [if_neg h1, if_pos h5]
      have e3 : workB b c = ⟨b.va, b.nx, b.mr, b.la, stayL c.us b.ms⟩ := by unfold workB; rw [if_neg h1, if_pos h5]
      rw [e1, e2, e3]
      generalize goneL c.us b.ms = T0 at HP ⊢
      generalize stayL c.us b.ms = S0 at HP ⊢
      have hBs : B ≤ V.heap.size := by omega
      clear e1 e2 e3 hfm hr hnx hfc HU0 HU1 hus h1 h5 OM OM1 KP KP1 hA hB1
      obtain ⟨kd, us, fl, dy, sc, zn, raw⟩ := c
      simp only [chV, chC] at *
      subst hV hQ
      go_enter Tryd.func30, Tryd.ntmps30
      go_wp2_with fail
      refine (unhide HP).mono ?_
      rintro e w1 ⟨rfl, vm', vt', q1, q2, q3, q4⟩
      have R0 := hide q1
      have R1 := hide q2
      have R2 := hide q3
      have R3 := hide ((unhide HBV).trans (q4.to hP hBs))
      clear q1 q2 q3 q4 HP HBV KQ
      go_wp2
      go_ret
      exact ⟨rfl, _, _, unhide R0, unhide R1, unhide R2, unhide R3⟩
    · have d5 : ((c.kd : Int) == 5) = false := by simp; omega
      by_cases h6 : c.kd = 6
      · have d6 : ((c.kd : Int) == 6) = true := by rw [h6]; rfl
        have e1 : workE b c = 0 := by unfold workE; rw [if_neg h1, if_neg h5, if_pos h6]
        have e2 : workT b c = [] := by unfold workT; rw [if_neg h1, if_neg h5, if_pos h6]
        have e3 : workB b c = ⟨b.va, b.nx, b.la, b.nx - 1, b.ms⟩ := by unfold workB; rw [if_neg h1, if_neg h5, if_pos h6]
        rw [e1, e2, e3]
        have KPH := hide KP1
        have OMH := hide OM1
        have HFM := hide hfm
        clear e1 e2 e3 hfm hr hfc HU0 HU1 hus h1 h5 h6 OM OM1 KP KP1 hA hB1
        obtain ⟨kd, us, fl, dy, sc, zn, raw⟩ := c
        obtain ⟨va, nx, mr, la, ms⟩ := b
        simp only [chV, chC, wkC] at *
        subst hV hQ
        obtain ⟨nn, hnn⟩ : ∃ nn, nx = nn + 1 := ⟨nx - 1, by omega⟩
        subst hnn
        simp only [Nat.add_sub_cancel]
        have c1 := (unhide KPH).cell 1
        have c2 := (unhide KPH).cell 2
        have c3 := (unhide KPH).cell 3
        have f2 := (unhide KPH).frozen 2
        have f3 := (unhide KPH).frozen 3
        simp only [List.getElem?_toArray, List.getElem?_cons_succ, List.getElem?_cons_zero] at c1 c2 c3
        have hw1 : IntKind.u64.wrap (((nn + 1 : Nat) : Int) - 1) = (nn : Int) := by rw [IntKind.wrap_u64]; omega
        have hw1b : IntKind.u64.wrap ((nn : Int) + 1 - 1) = (nn : Int) := by rw [IntKind.wrap_u64]; omega
        have hw2 : IntKind.u32.wrap (nn : Int) = (nn : Int) := by rw [IntKind.wrap_u32']; omega
        have R0 := hide (((unhide KPH).set 2 (.int .u32 (la : Int))).set 3 (.int .u32 (nn : Int)))
        have m1 := own_setT (i := 2) (u := .int .u32 (la : Int)) (unhide OMH) (unhide KPH) (by decide)
        have m2 := own_setT (i := 3) (u := .int .u32 (nn : Int)) m1 ((unhide KPH).set 2 (.int .u32 (la : Int))) (by decide)
        have R1 := hide (show OutM _ _ ms from ⟨own_zero m2, unhide HFM, by omega⟩)
        have R3 := hide (((unhide HBV).setCell (p := ⟨P, 2, none⟩) hP (.int .u32 (la : Int))).setCell (p := ⟨P, 3, none⟩) hP (.int .u32 (nn : Int)))
        clear m1 m2 KPH OMH HBV
        go_enter Tryd.func30, Tryd.ntmps30
        go_upto_region 8 with (fail)
        generalize W.alloc (.cells #[.int .u8 (kd : Int), .slice au us.length cu, .int .u8 (fl : Int), .int .i64 dy, .int .i64 sc, .int .i64 zn, .string raw] 33) = V at c1 c2 c3 f2 f3 R0 R1 R3 ⊢
        go_wp2
        go_ret
        exact ⟨rfl, _, _, unhide R0, unhide R1, OutT.nil _, unhide R3⟩
      · have d6 : ((c.kd : Int) == 6) = false := by simp; omega
        have HP := hide (mark_any P C0 B b c vm (.slice au c.us.length cu) V KP1 OM1 hfm hn hr hfc HU1 hus hul hP hC (by omega))
        have e1 : workE b c = markE b c := by unfold workE; rw [if_neg h1, if_neg h5, if_neg h6]
        have e2 : workT b c = markT b c := by unfold workT; rw [if_neg h1, if_neg h5, if_neg h6]
        have e3 : workB b c = markB b c := by unfold workB; rw [if_neg h1, if_neg h5, if_neg h6]
        rw [e1, e2, e3]
        generalize markE b c = E0 at HP ⊢
        generalize markT b c = T0 at HP ⊢
        generalize markB b c = B0 at HP ⊢
        clear e1 e2 e3 hfm hr hnx hfc HU0 HU1 hus h1 h5 h6 OM OM1 KP KP1 hA hB1
        obtain ⟨kd, us, fl, dy, sc, zn, raw⟩ := c
        simp only [chV, chC] at *
        subst hV hQ
        go_enter Tryd.func30, Tryd.ntmps30
        go_wp2_with fail
        refine (unhide HP).mono ?_
        rintro e w1 ⟨rfl, vm', vt', q1, q2, q3, q4⟩
        have R0 := hide q1
        have R1 := hide q2
        have R2 := hide q3
        have R3 := hide ((unhide HBV).trans q4)
        clear q1 q2 q3 q4 HP HBV KQ
        go_wp2
        go_ret
        exact ⟨rfl, _, _, unhide R0, unhide R1, unhide R2, unhide R3⟩
end Go.Proofs.YtnhcpkcpgpobdaaDoor
