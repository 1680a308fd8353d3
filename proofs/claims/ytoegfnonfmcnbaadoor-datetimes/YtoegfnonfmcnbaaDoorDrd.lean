/-
  What the moment's readDay does, over this seat's program.
-/
import Derived.Test.YtoegfnonfmcnbaaDoorDmo
set_option linter.unusedVariables false
namespace Go.Proofs.YtoegfnonfmcnbaaDoor
open Go.RowKit Go.Proofs.Dcl

section
variable {P : Program} {a : Act} {w : World} {Q : Exit → Act → World → Prop}
/-- A scope with one label that is gone to from ahead of it. -/
theorem wp_scope_out {c rest : Code} (l : Nat) (J : Act → World → Prop) (hf : findLabel c l = some (Code.skip.seq rest))
    (first : c.wp P (Exit.jump l J Q) a w)
    (pass : ∀ a w, J a w → rest.wp P (Exit.jump l (fun a' w' => J a' w' ∧ 0 < 0) Q) a w) : (Code.scope c).wp P Q a w :=
  wp_scope_jumps l J (fun _ _ => 0) hf first (fun a w h => wp_seq (wp_skip (pass a w h)))
end

/-- A day's text: so many digits, a name, four digits. -/
def readDayR (k : Nat) (l : List UInt8) : Option (Int × List UInt8) :=
  match numR (l.take k) k k with
  | none => none
  | some d =>
    if (l.drop k).head? = some 45 then
      if monR (((l.drop k).drop 1).take 3) = 0 then none
      else if (((l.drop k).drop 1).drop 3).head? = some 45 then
        match numR (((((l.drop k).drop 1).drop 3).drop 1).take 4) 4 4 with
        | none => none
        | some y =>
          if vldB y (monR (((l.drop k).drop 1).take 3)) d then some (num y (monR (((l.drop k).drop 1).take 3)) d, ((((l.drop k).drop 1).drop 3).drop 1).drop 4) else none
      else none
    else none

theorem behind_yes {c : UInt8} {l : ByteArray} (h : l.data.toList.head? = some c) : behindB c l = bts (l.data.toList.drop 1) := by
  unfold behindB; rw [if_pos h]; exact ext_list (by rw [toList_from, toList_bts])
theorem behind_no {c : UInt8} {l : ByteArray} (h : ¬ l.data.toList.head? = some c) : behindB c l = l := by
  unfold behindB; rw [if_neg h]

theorem LTab.belowB {w w' : World} {b : Nat} (h : LTab w) (hb : Below b w w') (hg : 0 < b) : LTab w' := by
  have hz := hb.size
  have h5 := h.size
  refine ⟨by omega, fun j hj => ?_⟩
  rw [hb.cell (p := ⟨0, j, none⟩) hg]; exact h.cells j hj

/-- What is so where no day is read. -/
def NoDay (b : Nat) (s z : Int) (w w' : World) : Prop := ∃ d' l', Mom w' b d' s z l' ∧ Below b w w'
def JDay (b : Nat) (s z : Int) (w : World) (k : Nat) (l : List UInt8) (a' : Act) (w' : World) : Prop :=
  ∃ u : Nat → Value, a' = { tmps := #[u 0, u 1, u 2, u 3, u 4, u 5, u 6, u 7, u 8, u 9, u 10, u 11, u 12, u 13, u 14, u 15, u 16, u 17, u 18, u 19, u 20, u 21, u 22, u 23, u 24, u 25, u 26, u 27, u 28, u 29, u 30, u 31, u 32, u 33, u 34, u 35, u 36, u 37, u 38, u 39, u 40, u 41, u 42, u 43, u 44, u 45, u 46, u 47, u 48, u 49, u 50, u 51, u 52, u 53, u 54, u 55, u 56, u 57, u 58, u 59], defers := [] } ∧ Hid (readDayR k l = none ∧ NoDay b s z w w')
theorem JDay.mk {b : Nat} {s z : Int} {w : World} {k : Nat} {l : List UInt8} {a' : Act} {w' : World}
    (ha : a' = { tmps := #[a'.tmps.getD 0 undef, a'.tmps.getD 1 undef, a'.tmps.getD 2 undef, a'.tmps.getD 3 undef, a'.tmps.getD 4 undef, a'.tmps.getD 5 undef, a'.tmps.getD 6 undef, a'.tmps.getD 7 undef, a'.tmps.getD 8 undef, a'.tmps.getD 9 undef, a'.tmps.getD 10 undef, a'.tmps.getD 11 undef, a'.tmps.getD 12 undef, a'.tmps.getD 13 undef, a'.tmps.getD 14 undef, a'.tmps.getD 15 undef, a'.tmps.getD 16 undef, a'.tmps.getD 17 undef, a'.tmps.getD 18 undef, a'.tmps.getD 19 undef, a'.tmps.getD 20 undef, a'.tmps.getD 21 undef, a'.tmps.getD 22 undef, a'.tmps.getD 23 undef, a'.tmps.getD 24 undef, a'.tmps.getD 25 undef, a'.tmps.getD 26 undef, a'.tmps.getD 27 undef, a'.tmps.getD 28 undef, a'.tmps.getD 29 undef, a'.tmps.getD 30 undef, a'.tmps.getD 31 undef, a'.tmps.getD 32 undef, a'.tmps.getD 33 undef, a'.tmps.getD 34 undef, a'.tmps.getD 35 undef, a'.tmps.getD 36 undef, a'.tmps.getD 37 undef, a'.tmps.getD 38 undef, a'.tmps.getD 39 undef, a'.tmps.getD 40 undef, a'.tmps.getD 41 undef, a'.tmps.getD 42 undef, a'.tmps.getD 43 undef, a'.tmps.getD 44 undef, a'.tmps.getD 45 undef, a'.tmps.getD 46 undef, a'.tmps.getD 47 undef, a'.tmps.getD 48 undef, a'.tmps.getD 49 undef, a'.tmps.getD 50 undef, a'.tmps.getD 51 undef, a'.tmps.getD 52 undef, a'.tmps.getD 53 undef, a'.tmps.getD 54 undef, a'.tmps.getD 55 undef, a'.tmps.getD 56 undef, a'.tmps.getD 57 undef, a'.tmps.getD 58 undef, a'.tmps.getD 59 undef], defers := [] }) (h : readDayR k l = none) (d' : Int) (l' : ByteArray) (hm : Mom w' b d' s z l') (hb : Below b w w') : JDay b s z w k l a' w' :=
  ⟨fun i => a'.tmps.getD i undef, ha, h, d', l', hm, hb⟩

theorem setB {b : Nat} {w w1 : World} (h : Below b w w1) (i : Nat) (v : Value) : Below b w (w1.setCell ⟨b, i, none⟩ v) := h.setCell (p := ⟨b, i, none⟩) (Nat.le_refl _) v

theorem size_drop (l : List UInt8) (k n : Nat) (h : l.length ≤ n) : (bts (l.drop k)).size ≤ n := by
  rw [size_bts, List.length_drop]; omega

set_option maxHeartbeats 2000000 in
set_option maxRecDepth 100000 in
theorem readDay_any (b : Nat) (d s z : Int) (l : ByteArray) (k : Nat) (w : World) (hM : Mom w b d s z l) (ht : LTab w) (hg : 0 < b) (hs : l.size ≤ 281474976710656) (hk : k ≤ 4) :
    Calls Tryd.prog 17 #[.pointer (some ⟨b, 0, none⟩), .int .i64 (k : Int)] w fun e w' =>
      (readDayR k l.data.toList = none ∧ e = .returned (.bool false) ∧ NoDay b s z w w') ∨ ∃ p, readDayR k l.data.toList = some p ∧ e = .returned (.bool true) ∧ Mom w' b p.1 s z (bts p.2) ∧ Below b w w' := by
  obtain ⟨L, hL⟩ : ∃ L, L = l.data.toList := ⟨_, rfl⟩
  have hLl : L.length ≤ 281474976710656 := by rw [hL, sizeL]; exact hs
  rw [← hL]
  have HT := hide (take_any b d s z l k w hM hs (by omega))
  rw [← hL] at HT
  have HL := hide hL
  have HTB := hide ht
  clear hL ht
  have HM1 := hide (hM.left (bts (L.drop k)))
  have HB1 := hide (setB (Below.refl b w) 3 (.string (bts (L.drop k))))
  clear hM
  have HN1 := hide (fun W => number_any (bts (L.take k)) k k W hk hk)
  rw [toList_bts] at HN1
  generalize w.setCell ⟨b, 3, none⟩ (.string (bts (L.drop k))) = w1 at HT HM1 HB1
  go_enter Tryd.func17, Tryd.ntmps17
  go_wp2_with fail
  refine wp_scope_out 0 (JDay b s z w k L) (by rfl) ?_ ?_
  · go_wp2_with fail
    refine (unhide HT).mono ?_
    rintro e w1 ⟨rfl, rfl⟩
    go_wp2_with fail
    refine (unhide HN1 _).mono ?_
    rintro e w1 ⟨rfl, rfl⟩
    cases hn : numR (L.take k) k k with
    | none =>
      have hno : readDayR k L = none := by unfold readDayR; rw [hn]
      simp only [optV]
      go_wp2
      refine wp_goto ?_
      exact ⟨rfl, JDay.mk rfl hno _ _ (unhide HM1) (unhide HB1)⟩
    | some d0 =>
      have HH1 := hide (has_any b d s z (bts (L.drop k)) 45 w1 (unhide HM1) (size_drop L k _ hLl))
      rw [toList_bts] at HH1
      simp only [optV]
      by_cases h1 : (L.drop k).head? = some 45
      · rw [decide_eq_true h1, behind_yes (by rw [toList_bts]; exact h1), toList_bts] at HH1
        have HM2 := hide ((unhide HM1).left (bts ((L.drop k).drop 1)))
        have HB2 := hide (setB (unhide HB1) 3 (.string (bts ((L.drop k).drop 1))))
        generalize w1.setCell ⟨b, 3, none⟩ (.string (bts ((L.drop k).drop 1))) = w2 at HH1 HM2 HB2
        have HT2 := hide (take_any b d s z (bts ((L.drop k).drop 1)) 3 w2 (unhide HM2) (size_drop _ 1 _ (by rw [List.length_drop]; omega)) (by omega))
        rw [toList_bts] at HT2
        have HM3 := hide ((unhide HM2).left (bts (((L.drop k).drop 1).drop 3)))
        have HB3 := hide (setB (unhide HB2) 3 (.string (bts (((L.drop k).drop 1).drop 3))))
        generalize w2.setCell ⟨b, 3, none⟩ (.string (bts (((L.drop k).drop 1).drop 3))) = w3 at HT2 HM3 HB3
        have HMO := hide (monthOf_any (bts (((L.drop k).drop 1).take 3)) w3 (by rw [size_bts, List.length_take]; omega))
        rw [toList_bts] at HMO
        have hmle := monR_le (((L.drop k).drop 1).take 3)
        have HX : Hid (readDayR k L = if monR (((L.drop k).drop 1).take 3) = 0 then none
          else if (((L.drop k).drop 1).drop 3).head? = some 45 then
            match numR (((((L.drop k).drop 1).drop 3).drop 1).take 4) 4 4 with
            | none => none
            | some y =>
              if vldB y (monR (((L.drop k).drop 1).take 3)) d0 then some (num y (monR (((L.drop k).drop 1).take 3)) d0, ((((L.drop k).drop 1).drop 3).drop 1).drop 4) else none
          else none) := hide (by unfold readDayR; rw [hn]; simp only [h1, if_true])
        clear hn h1 HT HN1 HM1 HB1 HM2 HB2
        have hl3 : (((L.drop k).drop 1).drop 3).length ≤ 281474976710656 := by simp only [List.length_drop]; omega
        generalize monR (((L.drop k).drop 1).take 3) = m at HMO HX hmle
        generalize bts (((L.drop k).drop 1).take 3) = mon at HT2 HMO
        generalize ((L.drop k).drop 1).drop 3 = L3 at HT2 HM3 HB3 HX hl3
        clear hLl
        go_wp2_with fail
        refine (unhide HH1).mono ?_
        rintro e w2 ⟨rfl, rfl⟩
        go_wp2_with fail
        refine (unhide HT2).mono ?_
        rintro e w3 ⟨rfl, rfl⟩
        go_wp2_with fail
        refine (unhide HMO).mono ?_
        rintro e _ ⟨rfl, q, rfl⟩
        have HM3q := hide ((unhide HM3).drew q)
        have HB3q := hide (drewB (unhide HB3) q)
        clear HM3 HB3 HT2 HMO HH1
        generalize w3.drewN q = w4 at HM3q HB3q ⊢
        by_cases hm0 : m = 0
        · have hno : Hid (readDayR k L = none) := hide (by rw [unhide HX, if_pos hm0])
          subst hm0
          simp only [monV, if_true]
          clear HX
          go_wp2
          refine wp_goto ?_
          exact ⟨rfl, JDay.mk rfl (unhide hno) _ _ (unhide HM3q) (unhide HB3q)⟩
        rw [if_neg hm0] at HX
        rw [show monV m = .tuple #[.int .i64 (m : Int), .bool true] by simp [monV, hm0]]
        have HH2 := hide (has_any b d s z (bts L3) 45 w4 (unhide HM3q) (by rw [size_bts]; exact hl3))
        rw [toList_bts] at HH2
        by_cases h2 : L3.head? = some 45
        · rw [decide_eq_true h2, behind_yes (by rw [toList_bts]; exact h2), toList_bts] at HH2
          rw [if_pos h2] at HX
          have HM5 := hide ((unhide HM3q).left (bts (L3.drop 1)))
          have HB5 := hide (setB (unhide HB3q) 3 (.string (bts (L3.drop 1))))
          generalize w4.setCell ⟨b, 3, none⟩ (.string (bts (L3.drop 1))) = w5 at HH2 HM5 HB5
          have HT3 := hide (take_any b d s z (bts (L3.drop 1)) 4 w5 (unhide HM5) (size_drop _ 1 _ hl3) (by omega))
          rw [toList_bts] at HT3
          have HM6 := hide ((unhide HM5).left (bts ((L3.drop 1).drop 4)))
          have HB6 := hide (setB (unhide HB5) 3 (.string (bts ((L3.drop 1).drop 4))))
          generalize w5.setCell ⟨b, 3, none⟩ (.string (bts ((L3.drop 1).drop 4))) = w6 at HT3 HM6 HB6
          have HN3 := hide (fun W => number_any (bts ((L3.drop 1).take 4)) 4 4 W (by omega) (by omega))
          rw [toList_bts] at HN3
          clear HM5 HB5 HM3q HB3q h2
          generalize numR ((L3.drop 1).take 4) 4 4 = oy at HN3 HX
          generalize bts ((L3.drop 1).take 4) = yr at HT3 HN3
          generalize (L3.drop 1).drop 4 = L6 at HT3 HM6 HB6 HX
          go_wp2_with fail
          refine (unhide HH2).mono ?_
          rintro e w5 ⟨rfl, rfl⟩
          go_wp2_with fail
          refine (unhide HT3).mono ?_
          rintro e w6 ⟨rfl, rfl⟩
          go_wp2_with fail
          refine (unhide HN3 _).mono ?_
          rintro e w6 ⟨rfl, rfl⟩
          clear HH2 HT3 HN3
          cases oy with
          | none =>
            have hno : Hid (readDayR k L = none) := HX
            simp only [optV]
            clear HX
            go_wp2
            refine wp_goto ?_
            exact ⟨rfl, JDay.mk rfl (unhide hno) _ _ (unhide HM6) (unhide HB6)⟩
          | some y =>
            simp only [optV]
            simp only at HX
            have HD := hide (day_any (y : Int) (m : Int) (d0 : Int) _ ((unhide HTB).belowB (unhide HB6) hg))
            have f0 := Blk.frozen (unhide HM6) 0
            have c0 : w6.cell? ⟨b, 0, none⟩ = some (.int .i64 d) := (Blk.cell (unhide HM6) 0).trans rfl
            cases hv : vldB (y : Int) (m : Int) (d0 : Int)
            · rw [dayV_f hv] at HD
              rw [hv] at HX
              have hno : Hid (readDayR k L = none) := hide (by rw [unhide HX]; rfl)
              clear HX hv
              have HM7 := hide ((unhide HM6).day 0)
              have HB7 := hide (setB (unhide HB6) 0 (.int .i64 0))
              go_wp2_with fail
              refine (unhide HD).mono ?_
              rintro e w6 ⟨rfl, rfl⟩
              go_wp2
              (try simp only [Exit.inBlock, Exit.then])
              (try simp only [Exit.jump])
              go_ret
              exact .inl ⟨unhide hno, rfl, _, _, unhide HM7, unhide HB7⟩
            · rw [dayV_t hv] at HD
              rw [hv] at HX
              have hyes : Hid (readDayR k L = some (num y m d0, L6)) := hide (by rw [unhide HX]; rfl)
              clear HX hv
              have HM7 := hide ((unhide HM6).day (num y m d0))
              have HB7 := hide (setB (unhide HB6) 0 (.int .i64 (num y m d0)))
              go_wp2_with fail
              refine (unhide HD).mono ?_
              rintro e w6 ⟨rfl, rfl⟩
              go_wp2
              (try simp only [Exit.inBlock, Exit.then])
              (try simp only [Exit.jump])
              go_ret
              exact .inr ⟨_, unhide hyes, rfl, unhide HM7, unhide HB7⟩
        · rw [decide_eq_false h2, behind_no (by rw [toList_bts]; exact h2)] at HH2
          rw [if_neg h2] at HX
          have hno : Hid (readDayR k L = none) := HX
          have HM5 := hide ((unhide HM3q).left (bts L3))
          have HB5 := hide (setB (unhide HB3q) 3 (.string (bts L3)))
          clear HX h2
          go_wp2_with fail
          refine (unhide HH2).mono ?_
          rintro e _ ⟨rfl, rfl⟩
          go_wp2
          refine wp_goto ?_
          exact ⟨rfl, JDay.mk rfl (unhide hno) _ _ (unhide HM5) (unhide HB5)⟩
      · rw [decide_eq_false h1, behind_no (by rw [toList_bts]; exact h1)] at HH1
        have hno : Hid (readDayR k L = none) := hide (by unfold readDayR; rw [hn]; simp only [if_neg h1])
        have HM2 := hide ((unhide HM1).left (bts (L.drop k)))
        have HB2 := hide (setB (unhide HB1) 3 (.string (bts (L.drop k))))
        clear hn h1
        go_wp2_with fail
        refine (unhide HH1).mono ?_
        rintro e _ ⟨rfl, rfl⟩
        go_wp2
        refine wp_goto ?_
        exact ⟨rfl, JDay.mk rfl (unhide hno) _ _ (unhide HM2) (unhide HB2)⟩
  · rintro a' w' ⟨u, rfl, HH⟩
    go_wp2
    (try simp only [Exit.inBlock, Exit.then])
    (try simp only [Exit.jump])
    go_ret
    exact .inl ⟨(unhide HH).1, rfl, (unhide HH).2⟩

end Go.Proofs.YtoegfnonfmcnbaaDoor
