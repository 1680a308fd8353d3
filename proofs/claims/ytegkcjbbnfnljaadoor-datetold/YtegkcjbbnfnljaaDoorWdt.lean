/-
  The walk of missivelaw10.DateTold, over this seat's program.
-/
import Derived.Test.YtegkcjbbnfnljaaDoorDbk
import Derived.Test.YtegkcjbbnfnljaaDoorWtx
set_option linter.unusedVariables false
namespace Go.Proofs.YtegkcjbbnfnljaaDoor
open Go.RowKit Go.Proofs.Dcl

theorem sTwo_lt {b n : Nat} {l r : List UInt8} (h : sTwo b l = some (n, r)) : n < b := by
  unfold sTwo at h
  split at h
  · cases h
  · split at h
    · simp only [Option.some.injEq, Prod.mk.injEq] at h
      omega
    · cases h
theorem read_right {k : Nat} {l : List UInt8} {d : Int} {r : List UInt8} (h : readDayR k l = some (d, r)) : ∃ y m dd : Nat, vldB y m dd = true ∧ num y m dd = d := by
  unfold readDayR at h
  split at h
  · cases h
  · split at h
    · split at h
      · cases h
      · split at h
        · split at h
          · cases h
          · split at h
            · rename_i hv
              simp only [Option.some.injEq, Prod.mk.injEq] at h
              exact ⟨_, _, _, hv, h.1⟩
            · cases h
        · cases h
    · cases h
theorem bind_some_of {α β : Type} {o : Option α} {f : α → Option β} {b : β} (h : o.bind f = some b) : ∃ a, o = some a ∧ f a = some b := by
  cases o with
  | none => cases h
  | some a => exact ⟨a, rfl, h⟩

/-- What is parsed is right. -/
theorem pt_right {l : List UInt8} {d s z : Int} (h : ptR l = some (d, s, z)) : ∃ y m dd S : Nat, vldB y m dd = true ∧ num y m dd = d ∧ s = (S : Int) ∧ S ≤ 86399 ∧ -5999 ≤ z ∧ z ≤ 5999 := by
  unfold ptR at h
  obtain ⟨⟨d1, l1⟩, h1, h⟩ := bind_some_of h
  unfold pt1 at h
  obtain ⟨⟨hh, l2⟩, h2, h⟩ := bind_some_of h
  obtain ⟨_, _, h2⟩ := bind_some_of h2
  unfold pt2 at h
  obtain ⟨⟨mm, l3⟩, h3, h⟩ := bind_some_of h
  obtain ⟨_, _, h3⟩ := bind_some_of h3
  unfold pt3 at h
  obtain ⟨⟨xx, l4⟩, h4, h⟩ := bind_some_of h
  obtain ⟨_, _, h4⟩ := bind_some_of h4
  unfold pt4 at h
  obtain ⟨⟨west, l5⟩, h5, h⟩ := bind_some_of h
  unfold pt5 at h
  obtain ⟨⟨zh, l6⟩, h6, h⟩ := bind_some_of h
  unfold pt6 at h
  obtain ⟨⟨zm, l7⟩, h7, h⟩ := bind_some_of h
  have b2 := sTwo_lt h2
  have b3 := sTwo_lt h3
  have b4 := sTwo_lt h4
  have b6 := sTwo_lt h6
  have b7 := sTwo_lt h7
  unfold pt7 at h
  simp only at h
  split at h
  · simp only [Option.some.injEq, Prod.mk.injEq] at h
    obtain ⟨e1, e2, e3⟩ := h
    subst e1
    have hr : ∃ y m dd : Nat, vldB y m dd = true ∧ num y m dd = d1 := by
      split at h1
      · exact read_right h1
      · exact read_right h1
    obtain ⟨y, m, dd, hv, hn⟩ := hr
    refine ⟨y, m, dd, (hh * 60 + mm) * 60 + xx, hv, hn, e2.symm, by omega, ?_, ?_⟩
    · rw [← e3]; split <;> omega
    · rw [← e3]; split <;> omega
  · cases h

/-- A right time is a day's, a second's and a zone's. -/
theorem right_parts {d s z : Int} (h : rightB d s z = true) : ∃ y m dd S : Nat, vldB y m dd = true ∧ num y m dd = d ∧ s = (S : Int) ∧ S ≤ 86399 ∧ -5999 ≤ z ∧ z ≤ 5999 := by
  unfold rightB at h
  rw [Bool.and_eq_true, decide_eq_true_eq] at h
  obtain ⟨hd, a, b, c, e⟩ := h
  obtain ⟨y, m, dd, hv, hn⟩ := day_exists hd
  exact ⟨y, m, dd, s.toNat, hv, hn, by omega, by omega, c, e⟩

set_option maxHeartbeats 4000000 in
set_option maxRecDepth 100000 in
theorem dateTold_walk (L : List UInt8) (d s z : Int) (w : World) (ht : LTab w) (hs : L.length ≤ 140737488355328) :
    Calls Tryd.prog 8 #[.string (bts L), .agg #[.int .i64 d, .int .i64 s, .int .i64 z]] w fun e w' => e = .returned (.bool true) ∧ Below w.heap.size w w' := by
  have hA : Below w.heap.size w (w.alloc (.cells #[.int .i64 d, .int .i64 s, .int .i64 z] 35)) := (Below.refl _ w).alloc (Nat.le_refl _) _
  have HT := hide ht
  have HX := hide (texts_any _ (ht.below hA))
  have HBx := hide (Blk.new w 35 #[.int .i64 d, .int .i64 s, .int .i64 z])
  have HA := hide hA
  clear ht hA
  go_enter Tryd.func8, Tryd.ntmps8
  go_wp2_with fail
  generalize w.alloc (.cells #[.int .i64 d, .int .i64 s, .int .i64 z] 35) = W0 at HX HBx HA ⊢
  refine (unhide HX).mono ?_
  rintro e W1 ⟨rfl, hb⟩
  have HB1 := hide (belowsD (unhide HA) hb)
  have HBx1 := hide ((unhide HBx).below hb)
  clear hb HX HA HBx
  have t0 : W1.cell? ⟨w.heap.size, 0, none⟩ = some (.int .i64 d) := (Blk.cell (unhide HBx1) 0).trans rfl
  have t1 : W1.cell? ⟨w.heap.size, 1, none⟩ = some (.int .i64 s) := (Blk.cell (unhide HBx1) 1).trans rfl
  have t2 : W1.cell? ⟨w.heap.size, 2, none⟩ = some (.int .i64 z) := (Blk.cell (unhide HBx1) 2).trans rfl
  cases hr : rightB d s z
  · have HW := hide (writeTime_no d s z W1 hr)
    simp only [bts] at HW
    clear hr
    go_wp2_with fail
    refine (unhide HW).mono ?_
    rintro e W2 ⟨rfl, hb⟩
    have HB2 := hide (belowsD (unhide HB1) hb)
    clear hb HW HB1 HBx1 t0 t1 t2
    have HP := hide (parseTime_any L W2 ((unhide HT).below (unhide HB2)) hs)
    go_wp2_with fail
    refine (unhide HP).mono ?_
    clear HP
    rintro e W3 ⟨rfl, hb⟩
    have HB3 := hide (belowsD (unhide HB2) hb)
    clear hb HB2
    cases ho : ptR L with
    | none =>
      simp only [timV]
      clear ho
      go_wp2
      go_ret
      exact ⟨by simp, (unhide HB3).alloc (unhide HB3).size _⟩
    | some p =>
      obtain ⟨d2, s2, z2⟩ := p
      obtain ⟨y, m, dd, S, hv, hn, rfl, hS, hz1, hz2⟩ := pt_right ho
      obtain ⟨_, _, m1, m2, _, _⟩ := vld_iff.1 hv
      simp only [timV]
      have hAB : Below w.heap.size w (W3.alloc (.cells #[.int .i64 d2, .int .i64 (S : Int), .int .i64 z2] 35)) := (unhide HB3).alloc (unhide HB3).size _
      have HWT := hide (writeTime_yes y m dd S d2 z2 _ ((unhide HT).below hAB) hv hn hS hz1 hz2)
      have HPT := hide (fun W (h : LTab W) => parseTime_any (timT y m dd S z2) W h (by rw [time_len y m dd S z2 (by omega) (by omega)]; decide))
      rw [pt_time y m dd S z2 hv hS hz1 hz2, hn] at HPT
      simp only [timV] at HPT
      have HBX := hide (Blk.new W3 35 #[.int .i64 d2, .int .i64 (S : Int), .int .i64 z2])
      have HAB := hide hAB
      clear ho hv hn hAB HB3
      generalize bts (timT y m dd S z2) = txt at HWT HPT
      go_wp2_with fail
      generalize W3.alloc (.cells #[.int .i64 d2, .int .i64 (S : Int), .int .i64 z2] 35) = W4 at HWT HBX HAB ⊢
      refine (unhide HWT).mono ?_
      clear HWT
      rintro e W5 ⟨rfl, hb⟩
      have HB5 := hide (belowsD (unhide HAB) hb)
      have HBX5 := hide ((unhide HBX).below hb)
      clear hb HAB HBX
      go_wp2_with fail
      refine (unhide HPT _ ((unhide HT).below (unhide HB5))).mono ?_
      clear HPT
      rintro e W6 ⟨rfl, hb⟩
      have HB6 := hide (belowsD (unhide HB5) hb)
      have hbx6 := (unhide HBX5).below hb
      have hlt := Blk.lt hbx6
      have k0 : W6.cell? ⟨W3.heap.size, 0, none⟩ = some (.int .i64 d2) := (Blk.cell hbx6 0).trans rfl
      have k1 : W6.cell? ⟨W3.heap.size, 1, none⟩ = some (.int .i64 (S : Int)) := (Blk.cell hbx6 1).trans rfl
      have k2 : W6.cell? ⟨W3.heap.size, 2, none⟩ = some (.int .i64 z2) := (Blk.cell hbx6 2).trans rfl
      clear hb HB5 HBX5 hbx6
      go_wp2
      go_ret
      exact ⟨by simp, (unhide HB6).alloc (unhide HB6).size _⟩
  · obtain ⟨y0, m0, dd0, S0, hv, hn, rfl, hS, hz1, hz2⟩ := right_parts hr
    obtain ⟨_, _, m1, m2, _, _⟩ := vld_iff.1 hv
    have HWT := hide (writeTime_yes y0 m0 dd0 S0 d z W1 ((unhide HT).below (unhide HB1)) hv hn hS hz1 hz2)
    have hlen := time_len y0 m0 dd0 S0 z (by omega) (by omega)
    have HPT := hide (fun W (h : LTab W) => parseTime_any (timT y0 m0 dd0 S0 z) W h (by rw [hlen]; decide))
    rw [pt_time y0 m0 dd0 S0 z hv hS hz1 hz2, hn] at HPT
    simp only [timV] at HPT
    have hsz : (bts (timT y0 m0 dd0 S0 z)).size = 26 := by rw [size_bts, hlen]
    clear hr hv hn hlen
    generalize bts (timT y0 m0 dd0 S0 z) = txt0 at HWT HPT hsz
    go_wp2_with fail
    refine (unhide HWT).mono ?_
    clear HWT
    rintro e Wa ⟨rfl, hb⟩
    have HBa := hide (belowsD (unhide HB1) hb)
    have HBxa := hide ((unhide HBx1).below hb)
    clear hb HB1 HBx1 t0 t1 t2
    go_wp2_with fail
    refine (unhide HPT _ ((unhide HT).below (unhide HBa))).mono ?_
    clear HPT
    rintro e Wb ⟨rfl, hb⟩
    have HBb := hide (belowsD (unhide HBa) hb)
    have hbxb := (unhide HBxa).below hb
    have hltb := Blk.lt hbxb
    have q0 : Wb.cell? ⟨w.heap.size, 0, none⟩ = some (.int .i64 d) := (Blk.cell hbxb 0).trans rfl
    have q1 : Wb.cell? ⟨w.heap.size, 1, none⟩ = some (.int .i64 (S0 : Int)) := (Blk.cell hbxb 1).trans rfl
    have q2 : Wb.cell? ⟨w.heap.size, 2, none⟩ = some (.int .i64 z) := (Blk.cell hbxb 2).trans rfl
    clear hb HBa HBxa hbxb
    have HB2 := hide ((unhide HBb).alloc (unhide HBb).size (.cells #[.int .i64 d, .int .i64 (S0 : Int), .int .i64 z] 35))
    clear HBb
    go_wp2_with fail
    generalize Wb.alloc (.cells #[.int .i64 d, .int .i64 (S0 : Int), .int .i64 z] 35) = W2 at HB2 ⊢
    clear q0 q1 q2 hltb
    have HP := hide (parseTime_any L W2 ((unhide HT).below (unhide HB2)) hs)
    refine (unhide HP).mono ?_
    clear HP
    rintro e W3 ⟨rfl, hb⟩
    have HB3 := hide (belowsD (unhide HB2) hb)
    clear hb HB2
    cases ho : ptR L with
    | none =>
      simp only [timV]
      clear ho
      go_wp2
      go_ret
      exact ⟨by simp, (unhide HB3).alloc (unhide HB3).size _⟩
    | some p =>
      obtain ⟨d2, s2, z2⟩ := p
      obtain ⟨y, m, dd, S, hv, hn, rfl, hS, hz1, hz2⟩ := pt_right ho
      obtain ⟨_, _, m1, m2, _, _⟩ := vld_iff.1 hv
      simp only [timV]
      have hAB : Below w.heap.size w (W3.alloc (.cells #[.int .i64 d2, .int .i64 (S : Int), .int .i64 z2] 35)) := (unhide HB3).alloc (unhide HB3).size _
      have HWT := hide (writeTime_yes y m dd S d2 z2 _ ((unhide HT).below hAB) hv hn hS hz1 hz2)
      have HPT := hide (fun W (h : LTab W) => parseTime_any (timT y m dd S z2) W h (by rw [time_len y m dd S z2 (by omega) (by omega)]; decide))
      rw [pt_time y m dd S z2 hv hS hz1 hz2, hn] at HPT
      simp only [timV] at HPT
      have HBX := hide (Blk.new W3 35 #[.int .i64 d2, .int .i64 (S : Int), .int .i64 z2])
      have HAB := hide hAB
      clear ho hv hn hAB HB3
      generalize bts (timT y m dd S z2) = txt at HWT HPT
      go_wp2_with fail
      generalize W3.alloc (.cells #[.int .i64 d2, .int .i64 (S : Int), .int .i64 z2] 35) = W4 at HWT HBX HAB ⊢
      refine (unhide HWT).mono ?_
      clear HWT
      rintro e W5 ⟨rfl, hb⟩
      have HB5 := hide (belowsD (unhide HAB) hb)
      have HBX5 := hide ((unhide HBX).below hb)
      clear hb HAB HBX
      go_wp2_with fail
      refine (unhide HPT _ ((unhide HT).below (unhide HB5))).mono ?_
      clear HPT
      rintro e W6 ⟨rfl, hb⟩
      have HB6 := hide (belowsD (unhide HB5) hb)
      have hbx6 := (unhide HBX5).below hb
      have hlt := Blk.lt hbx6
      have k0 : W6.cell? ⟨W3.heap.size, 0, none⟩ = some (.int .i64 d2) := (Blk.cell hbx6 0).trans rfl
      have k1 : W6.cell? ⟨W3.heap.size, 1, none⟩ = some (.int .i64 (S : Int)) := (Blk.cell hbx6 1).trans rfl
      have k2 : W6.cell? ⟨W3.heap.size, 2, none⟩ = some (.int .i64 z2) := (Blk.cell hbx6 2).trans rfl
      clear hb HB5 HBX5 hbx6
      go_wp2
      go_ret
      exact ⟨by simp, (unhide HB6).alloc (unhide HB6).size _⟩

end Go.Proofs.YtegkcjbbnfnljaaDoor
