/-
  What date.WriteTime does, over this seat's program.
-/
import Derived.Test.YthpjogfclklefaaDoorDwt
set_option linter.unusedVariables false
namespace Go.Proofs.YthpjogfclklefaaDoor
open Go.RowKit Go.Proofs.Dcl

/-- A time's text. -/
def timT (y m d s : Nat) (z : Int) : List UInt8 :=
  (if d < 10 then [32] else []) ++ (dayT y m d ++ (([32] ++ twoL (s / 3600)) ++ (([58] ++ twoL (s / 60 % 60)) ++ (([58] ++ twoL (s % 60)) ++ ([32] ++ (([if z < 0 then 45 else 43] ++ twoL (z.natAbs / 60)) ++ twoL (z.natAbs % 60)))))))

theorem dayT_len (y m d : Nat) (h1 : 1 ≤ m) (h2 : m ≤ 12) : (dayT y m d).length = if 10 ≤ d then 11 else 10 := by
  have := nmL_len (m - 1) (by omega)
  unfold dayT
  split <;> simp [this, twoL]

set_option maxHeartbeats 1000000 in
theorem writeTime_no (d s z : Int) (w : World) (h : rightB d s z = false) :
    Calls Tryd.prog 42 #[.agg #[.int .i64 d, .int .i64 s, .int .i64 z]] w fun e w' => e = .returned (.tuple #[.string (bts []), .int .i64 2]) ∧ Below w.heap.size w w' := by
  have hM : Mom ((w.alloc (.cells #[.int .i64 d, .int .i64 s, .int .i64 z] 31)).alloc (.cells #[.int .i64 d, .int .i64 s, .int .i64 z, .string { data := #[] }] 84)) (w.heap.size + 1) d s z { data := #[] } := by
    have := Blk.new (w.alloc (.cells #[.int .i64 d, .int .i64 s, .int .i64 z] 31)) 84 #[.int .i64 d, .int .i64 s, .int .i64 z, .string { data := #[] }]
    rwa [show (w.alloc (.cells #[.int .i64 d, .int .i64 s, .int .i64 z] 31)).heap.size = w.heap.size + 1 by simp] at this
  have HR := hide (isRight_any (w.heap.size + 1) d s z _ _ hM)
  rw [h] at HR
  clear hM h
  go_enter Tryd.func42, Tryd.ntmps42
  go_wp2_with fail
  refine (unhide HR).mono ?_
  rintro e _ ⟨rfl, rfl⟩
  go_wp2
  go_ret2
  exact ⟨rfl, ((Below.refl _ w).alloc (Nat.le_refl _) _).alloc (by simp) _⟩

set_option maxHeartbeats 4000000 in
set_option maxRecDepth 100000 in
theorem writeTime_yes (y m dd s : Nat) (d z : Int) (w : World) (ht : LTab w) (hv : vldB y m dd = true) (hn : num y m dd = d) (hs : s ≤ 86399) (hz1 : -5999 ≤ z) (hz2 : z ≤ 5999) :
    Calls Tryd.prog 42 #[.agg #[.int .i64 d, .int .i64 (s : Int), .int .i64 z]] w fun e w' => e = .returned (.tuple #[.string (bts (timT y m dd s z)), .int .i64 0]) ∧ Below w.heap.size w w' := by
  obtain ⟨u, hu⟩ : ∃ u, u = ((w.alloc (.cells #[.int .i64 d, .int .i64 (s : Int), .int .i64 z] 31)).alloc (.cells #[.int .i64 d, .int .i64 (s : Int), .int .i64 z, .string { data := #[] }] 84)) := ⟨_, rfl⟩
  have hM : Mom u (w.heap.size + 1) d s z { data := #[] } := by
    have := Blk.new (w.alloc (.cells #[.int .i64 d, .int .i64 (s : Int), .int .i64 z] 31)) 84 #[.int .i64 d, .int .i64 (s : Int), .int .i64 z, .string { data := #[] }]
    rwa [show (w.alloc (.cells #[.int .i64 d, .int .i64 (s : Int), .int .i64 z] 31)).heap.size = w.heap.size + 1 by simp, ← hu] at this
  have hr : rightB d s z = true := by
    unfold rightB
    rw [← hn, day_of_vld hv, decide_eq_true (by omega)]
    rfl
  have HR := hide (isRight_any (w.heap.size + 1) d s z _ _ hM)
  rw [hr] at HR
  have hub : Below w.heap.size w u := by rw [hu]; exact ((Below.refl _ w).alloc (Nat.le_refl _) _).alloc (by simp) _
  have hus : u.heap.size = w.heap.size + 2 := by rw [hu]; simp
  have HTU := hide (ht.below hub)
  have HUB := hide hub
  have HM := hide hM
  have hgo : ∀ (v : Value), w.alloc (.cells #[.int .i64 d, .int .i64 (s : Int), .int .i64 z] 31) = w.alloc (.cells #[.int .i64 d, .int .i64 (s : Int), .int .i64 z] 31) := fun _ => rfl
  clear hgo hr hM hub ht
  obtain ⟨y1, y2, m1, m2, d1, d2⟩ := vld_iff.1 hv
  have d3 := dim_le y m
  have hdl := dayT_len y m dd (by omega) (by omega)
  have hdl' : (dayT y m dd).length ≤ 11 := by rw [hdl]; split <;> omega
  have HV := hide (And.intro hv hn)
  have HU := hide hu
  have HUS := hide hus
  clear hv hn d2 d3 hdl hu hus
  go_enter Tryd.func42, Tryd.ntmps42
  go_wp2_with fail
  rw [← unhide HU]
  refine (unhide HR).mono ?_
  rintro e u ⟨rfl, rfl⟩
  clear HR HU
  have HW0 := hide (Wr.new u)
  have bW : ∀ (W : World) (l : List UInt8), Wr u W l → W.cell? ⟨w.heap.size + 1, 0, none⟩ = some (.int .i64 d) ∧ W.cell? ⟨w.heap.size + 1, 1, none⟩ = some (.int .i64 (s : Int)) ∧ W.cell? ⟨w.heap.size + 1, 2, none⟩ = some (.int .i64 z) := by
    intro W l h
    have hus := unhide HUS
    refine ⟨?_, ?_, ?_⟩
    · rw [h.bel.cell (p := ⟨w.heap.size + 1, 0, none⟩) (by show w.heap.size + 1 < _; omega)]; exact (Blk.cell (unhide HM) 0).trans rfl
    · rw [h.bel.cell (p := ⟨w.heap.size + 1, 1, none⟩) (by show w.heap.size + 1 < _; omega)]; exact (Blk.cell (unhide HM) 1).trans rfl
    · rw [h.bel.cell (p := ⟨w.heap.size + 1, 2, none⟩) (by show w.heap.size + 1 < _; omega)]; exact (Blk.cell (unhide HM) 2).trans rfl
  have BW := hide bW
  clear bW
  obtain ⟨a0, a1, a2⟩ := unhide BW _ _ (unhide HW0)
  have HC := hide (civil_any d _ ((unhide HTU).wr (unhide HW0)))
  have hfin : ∀ (l0 l3 : List UInt8), l0 ++ dayT y m dd = l3 → l0 = (if dd < 10 then [32] else []) → l3 ++ ([32] ++ twoL (s / 3600)) ++ ([58] ++ twoL (s / 60 % 60)) ++ ([58] ++ twoL (s % 60)) ++ [32] ++ ([if z < 0 then 45 else 43] ++ twoL (z.natAbs / 60)) ++ twoL (z.natAbs % 60) = timT y m dd s z := by
    intro l0 l3 h3 h0
    rw [← h3, h0]
    simp [timT]
  have HFIN := hide hfin
  clear hfin
  go_wp2_with fail
  refine (unhide HC).mono ?_
  rintro e W1 ⟨v, rfl, hc, hb⟩
  have HW1 := hide ((unhide HW0).below hb)
  obtain rfl := civ_known hc (unhide HV).1 (unhide HV).2
  clear hc hb HW0 HC a0 a1 a2
  by_cases hd10 : dd < 10
  · have hd10' : (dd : Int) < 10 := by omega
    go_wp2_with fail
    refine (wByte (unhide HW1) 32 32 rfl (by simp)).mono ?_
    rintro e W2 ⟨rfl, h⟩
    obtain ⟨l0, hl0⟩ : ∃ l0 : List UInt8, l0 = if dd < 10 then [32] else [] := ⟨_, rfl⟩
    rw [List.nil_append, show ([32] : List UInt8) = l0 by rw [hl0, if_pos hd10]] at h
    have HW2 := hide h
    clear h HW1
    have HL0 := hide hl0
    have hl1 : l0.length ≤ 1 := by rw [hl0]; split <;> simp
    clear hl0
    obtain ⟨a0, a1, a2⟩ := unhide BW _ _ (unhide HW2)
    go_wp2_with fail
    refine (wDay (unhide HW2) (unhide HTU) y m dd (unhide HV).1 d (unhide HV).2 (by omega)).mono ?_
    rintro e W3 ⟨rfl, h⟩
    have HW3 := hide h
    clear h HW2 a0 a1 a2
    obtain ⟨a0, a1, a2⟩ := unhide BW _ _ (unhide HW3)
    have HL3 : Hid ((l0 ++ dayT y m dd).length ≤ 12) := by simp; exact hide (by omega)
    have HFIN2 := hide (unhide HFIN l0 _ rfl (unhide HL0))
    clear HFIN
    have HFIN := HFIN2
    clear HFIN2
    generalize l0 ++ dayT y m dd = l3 at HW3 HL3 HFIN
    have hl3 := unhide HL3
    go_wp2_with fail
    refine (wSep (unhide HW3) 32 32 rfl (s / 3600) (by omega) (by omega)).mono ?_
    rintro e W4 ⟨rfl, h⟩
    have HW4 := hide h
    clear h HW3 a0 a1 a2
    obtain ⟨a0, a1, a2⟩ := unhide BW _ _ (unhide HW4)
    go_wp2_with fail
    refine (wSep (unhide HW4) 58 58 rfl (s / 60 % 60) (by omega) (by simp [twoL]; omega)).mono ?_
    rintro e W5 ⟨rfl, h⟩
    have HW5 := hide h
    clear h HW4 a0 a1 a2
    obtain ⟨a0, a1, a2⟩ := unhide BW _ _ (unhide HW5)
    go_wp2_with fail
    refine (wSep (unhide HW5) 58 58 rfl (s % 60) (by omega) (by simp [twoL]; omega)).mono ?_
    rintro e W6 ⟨rfl, h⟩
    have HW6 := hide h
    clear h HW5 a0 a1 a2
    obtain ⟨a0, a1, a2⟩ := unhide BW _ _ (unhide HW6)
    go_wp2_with fail
    refine (wByte (unhide HW6) 32 32 rfl (by simp [twoL]; omega)).mono ?_
    rintro e W7 ⟨rfl, h⟩
    have HW7 := hide h
    clear h HW6 a0 a1 a2
    obtain ⟨a0, a1, a2⟩ := unhide BW _ _ (unhide HW7)
    go_wp2_with fail
    have hw7 := unhide HW7
    by_cases hz : z < 0
    · obtain ⟨Z, hZ⟩ : ∃ Z : Nat, z = -(Z : Int) := ⟨z.natAbs, by omega⟩
      subst hZ
      have hz0 : ¬ 0 ≤ -(Z : Int) := by omega
      rw [if_pos hz, show (-(Z : Int)).natAbs = Z by omega] at HFIN
      have hZb : Z ≤ 5999 := by omega
      clear hw7
      go_quiet (fail)
      have HW8 := hide ((unhide HW7).below (drewB (Below.refl _ _) nq))
      clear HW7 a0 a1 a2
      generalize W7.drewN nq = W8 at HW8 ⊢
      go_wp2_with fail
      refine (wSep (unhide HW8) 45 45 rfl (Z / 60) (by omega) (by simp [twoL]; omega)).mono ?_
      rintro e W9 ⟨rfl, h⟩
      have HW9 := hide h
      clear h HW8
      go_wp2_with fail
      refine (wTwo (unhide HW9) (Z % 60) (by omega) (by simp [twoL]; omega)).mono ?_
      rintro e W10 ⟨rfl, h⟩
      rw [unhide HFIN] at h
      have HS := hide (Tryd.Builder_String_any_f _ _ _ W10 h.isb h.bel.size)
      have HB := hide h.bel
      clear h HW9
      go_wp2_with fail
      refine (unhide HS).mono ?_
      rintro e W11 ⟨rfl, _, hb⟩
      have HB2 := hide ((unhide HUB).trans (((unhide HB).trans hb).mono (unhide HUB).size))
      clear hb HS
      go_wp2
      go_ret2
      exact ⟨rfl, unhide HB2⟩
    · obtain ⟨Z, hZ⟩ : ∃ Z : Nat, z = (Z : Int) := ⟨z.natAbs, by omega⟩
      subst hZ
      rw [if_neg hz, show ((Z : Int)).natAbs = Z by omega] at HFIN
      have hZb : Z ≤ 5999 := by omega
      clear hw7
      go_quiet (fail)
      have HW8 := hide ((unhide HW7).below (drewB (Below.refl _ _) nq))
      clear HW7 a0 a1 a2
      generalize W7.drewN nq = W8 at HW8 ⊢
      go_wp2_with fail
      refine (wSep (unhide HW8) 43 43 rfl (Z / 60) (by omega) (by simp [twoL]; omega)).mono ?_
      rintro e W9 ⟨rfl, h⟩
      have HW9 := hide h
      clear h HW8
      go_wp2_with fail
      refine (wTwo (unhide HW9) (Z % 60) (by omega) (by simp [twoL]; omega)).mono ?_
      rintro e W10 ⟨rfl, h⟩
      rw [unhide HFIN] at h
      have HS := hide (Tryd.Builder_String_any_f _ _ _ W10 h.isb h.bel.size)
      have HB := hide h.bel
      clear h HW9
      go_wp2_with fail
      refine (unhide HS).mono ?_
      rintro e W11 ⟨rfl, _, hb⟩
      have HB2 := hide ((unhide HUB).trans (((unhide HB).trans hb).mono (unhide HUB).size))
      clear hb HS
      go_wp2
      go_ret2
      exact ⟨rfl, unhide HB2⟩
  · have hd10' : ¬ (dd : Int) < 10 := by omega
    obtain ⟨l0, hl0⟩ : ∃ l0 : List UInt8, l0 = if dd < 10 then [32] else [] := ⟨_, rfl⟩
    have HW2 := HW1
    rw [show ([] : List UInt8) = l0 by rw [hl0, if_neg hd10]] at HW2
    clear HW1
    have HL0 := hide hl0
    have hl1 : l0.length ≤ 1 := by rw [hl0]; split <;> simp
    clear hl0
    obtain ⟨a0, a1, a2⟩ := unhide BW _ _ (unhide HW2)
    go_wp2_with fail
    refine (wDay (unhide HW2) (unhide HTU) y m dd (unhide HV).1 d (unhide HV).2 (by omega)).mono ?_
    rintro e W3 ⟨rfl, h⟩
    have HW3 := hide h
    clear h HW2 a0 a1 a2
    obtain ⟨a0, a1, a2⟩ := unhide BW _ _ (unhide HW3)
    have HL3 : Hid ((l0 ++ dayT y m dd).length ≤ 12) := by simp; exact hide (by omega)
    have HFIN2 := hide (unhide HFIN l0 _ rfl (unhide HL0))
    clear HFIN
    have HFIN := HFIN2
    clear HFIN2
    generalize l0 ++ dayT y m dd = l3 at HW3 HL3 HFIN
    have hl3 := unhide HL3
    go_wp2_with fail
    refine (wSep (unhide HW3) 32 32 rfl (s / 3600) (by omega) (by omega)).mono ?_
    rintro e W4 ⟨rfl, h⟩
    have HW4 := hide h
    clear h HW3 a0 a1 a2
    obtain ⟨a0, a1, a2⟩ := unhide BW _ _ (unhide HW4)
    go_wp2_with fail
    refine (wSep (unhide HW4) 58 58 rfl (s / 60 % 60) (by omega) (by simp [twoL]; omega)).mono ?_
    rintro e W5 ⟨rfl, h⟩
    have HW5 := hide h
    clear h HW4 a0 a1 a2
    obtain ⟨a0, a1, a2⟩ := unhide BW _ _ (unhide HW5)
    go_wp2_with fail
    refine (wSep (unhide HW5) 58 58 rfl (s % 60) (by omega) (by simp [twoL]; omega)).mono ?_
    rintro e W6 ⟨rfl, h⟩
    have HW6 := hide h
    clear h HW5 a0 a1 a2
    obtain ⟨a0, a1, a2⟩ := unhide BW _ _ (unhide HW6)
    go_wp2_with fail
    refine (wByte (unhide HW6) 32 32 rfl (by simp [twoL]; omega)).mono ?_
    rintro e W7 ⟨rfl, h⟩
    have HW7 := hide h
    clear h HW6 a0 a1 a2
    obtain ⟨a0, a1, a2⟩ := unhide BW _ _ (unhide HW7)
    go_wp2_with fail
    have hw7 := unhide HW7
    by_cases hz : z < 0
    · obtain ⟨Z, hZ⟩ : ∃ Z : Nat, z = -(Z : Int) := ⟨z.natAbs, by omega⟩
      subst hZ
      have hz0 : ¬ 0 ≤ -(Z : Int) := by omega
      rw [if_pos hz, show (-(Z : Int)).natAbs = Z by omega] at HFIN
      have hZb : Z ≤ 5999 := by omega
      clear hw7
      go_quiet (fail)
      have HW8 := hide ((unhide HW7).below (drewB (Below.refl _ _) nq))
      clear HW7 a0 a1 a2
      generalize W7.drewN nq = W8 at HW8 ⊢
      go_wp2_with fail
      refine (wSep (unhide HW8) 45 45 rfl (Z / 60) (by omega) (by simp [twoL]; omega)).mono ?_
      rintro e W9 ⟨rfl, h⟩
      have HW9 := hide h
      clear h HW8
      go_wp2_with fail
      refine (wTwo (unhide HW9) (Z % 60) (by omega) (by simp [twoL]; omega)).mono ?_
      rintro e W10 ⟨rfl, h⟩
      rw [unhide HFIN] at h
      have HS := hide (Tryd.Builder_String_any_f _ _ _ W10 h.isb h.bel.size)
      have HB := hide h.bel
      clear h HW9
      go_wp2_with fail
      refine (unhide HS).mono ?_
      rintro e W11 ⟨rfl, _, hb⟩
      have HB2 := hide ((unhide HUB).trans (((unhide HB).trans hb).mono (unhide HUB).size))
      clear hb HS
      go_wp2
      go_ret2
      exact ⟨rfl, unhide HB2⟩
    · obtain ⟨Z, hZ⟩ : ∃ Z : Nat, z = (Z : Int) := ⟨z.natAbs, by omega⟩
      subst hZ
      rw [if_neg hz, show ((Z : Int)).natAbs = Z by omega] at HFIN
      have hZb : Z ≤ 5999 := by omega
      clear hw7
      go_quiet (fail)
      have HW8 := hide ((unhide HW7).below (drewB (Below.refl _ _) nq))
      clear HW7 a0 a1 a2
      generalize W7.drewN nq = W8 at HW8 ⊢
      go_wp2_with fail
      refine (wSep (unhide HW8) 43 43 rfl (Z / 60) (by omega) (by simp [twoL]; omega)).mono ?_
      rintro e W9 ⟨rfl, h⟩
      have HW9 := hide h
      clear h HW8
      go_wp2_with fail
      refine (wTwo (unhide HW9) (Z % 60) (by omega) (by simp [twoL]; omega)).mono ?_
      rintro e W10 ⟨rfl, h⟩
      rw [unhide HFIN] at h
      have HS := hide (Tryd.Builder_String_any_f _ _ _ W10 h.isb h.bel.size)
      have HB := hide h.bel
      clear h HW9
      go_wp2_with fail
      refine (unhide HS).mono ?_
      rintro e W11 ⟨rfl, _, hb⟩
      have HB2 := hide ((unhide HUB).trans (((unhide HB).trans hb).mono (unhide HUB).size))
      clear hb HS
      go_wp2
      go_ret2
      exact ⟨rfl, unhide HB2⟩

end Go.Proofs.YthpjogfclklefaaDoor
