/-
  What (*box.work).expunge does, over this seat's program.
-/
import Derived.Test.YtnhcpkcpgpobdaaDoorBxa
import Derived.Deep.RegionHeld3
import Derived.OrdersHeld
set_option linter.unusedVariables false
set_option linter.unusedSimpArgs false
namespace Go.Proofs.YtnhcpkcpgpobdaaDoor
open Go.RowKit

/-- A mail that goes. -/
def goneP (us : List Nat) (m : Msg) : Bool := decide (m.uid ∈ us) && decide (m.fl &&& 8 ≠ 0)
def stayL (us : List Nat) (l : List Msg) : List Msg := l.filter (fun m => !goneP us m)
def goneL (us : List Nat) (l : List Msg) : List Nat := uidsM (l.filter (goneP us))
theorem stayL_take {us : List Nat} {l : List Msg} {j : Nat} (h : j < l.length) : stayL us (l.take (j + 1)) = stayL us (l.take j) ++ (if goneP us l[j] then [] else [l[j]]) := by
  unfold stayL
  rw [filterM_take h]
  congr 1
  cases goneP us l[j] <;> rfl
theorem goneL_take {us : List Nat} {l : List Msg} {j : Nat} (h : j < l.length) : goneL us (l.take (j + 1)) = goneL us (l.take j) ++ (if goneP us l[j] then [l[j].uid] else []) := by
  unfold goneL uidsM
  rw [filterM_take h, List.map_append]
  congr 1
  cases goneP us l[j] <;> rfl
theorem stayL_len (us : List Nat) (l : List Msg) : (stayL us l).length ≤ l.length := List.length_filter_le _ _
theorem goneL_len (us : List Nat) (l : List Msg) : (goneL us l).length ≤ l.length := by unfold goneL; rw [uidsM_len]; exact List.length_filter_le _ _

set_option maxHeartbeats 8000000 in
set_option maxRecDepth 100000 in
theorem expunge_any (P C0 B : Nat) (b : Bx) (vm vu : Value) (us : List Nat) (W : World)
    (KP : Blk W P 61 (wkC b vm (.slice none 0 0)))
    (OM : W.ownsRow C0 47 6 vm b.ms.length (flatG msC b.ms)) (hfm : ∀ m ∈ b.ms, FitM m) (hn : b.ms.length ≤ 4194304)
    (HU0 : ∀ X, Below B W X → Row32 X vu us) (hur : us.Pairwise (· < ·)) (hul : us.length ≤ 65536) (hP : B ≤ P) (hB : B ≤ W.heap.size) :
    Calls Tryd.prog 42 #[.pointer (some ⟨P, 0, none⟩), vu] W fun e W' => e = .returned (.tuple #[]) ∧ ∃ vm' vt', Blk W' P 61 (wkC b vm' vt') ∧ OutM W' vm' (stayL us b.ms) ∧ OutT W' vt' (goneL us b.ms) ∧ Exc W P W' := by
  have HRM := hide (fun X (hX : Exc W P X) => rowG_of_own (Fit := FitM) msC_len (OM.kept hX (Or.inr (own_neT OM KP (by decide)))) (by omega) hfm)
  have HU := hide (fun X (hX : Exc W P X) => HU0 X (hX.to hP hB))
  have HBS := hide (fun X u (hX : Exc W P X) (hu : u ≤ 4294967295) => bsearch_any vu us u X (HU0 X (hX.to hP hB)) hu hul hur)
  have HFM := hide hfm
  have hvu := HU0 W (Below.refl _ _)
  obtain ⟨au, cu, rfl, _, _, _⟩ := hvu
  obtain ⟨am, cm, rfl, _⟩ := own_sliceG OM
  obtain ⟨va, nx, mr, la, ms⟩ := b
  simp only [wkC] at KP HRM OM hn HFM ⊢
  obtain ⟨n, hnn⟩ : ∃ n, ms.length = n := ⟨_, rfl⟩
  have KP0 := hide KP
  have k4 := KP.cell 4
  simp only [List.getElem?_toArray, List.getElem?_cons_succ, List.getElem?_cons_zero] at k4
  rw [hnn] at HRM hn k4 KP0
  have hPW := KP.lt
  have HN := hide hnn
  clear hnn OM hfm HU0 hur KP
  go_enter Tryd.func42, Tryd.ntmps42
  go_wp2
  go_loopw [4, 6, 7, 8, 15] (fun y _ _ _ z wr => ∃ (j : Nat) (vt : Value), z = .int .i64 j ∧ j ≤ n ∧ Hid (Blk wr P 61 (wkC ⟨va, nx, mr, la, ms⟩ (.slice am n cm) vt)) ∧ Hid (wr.ownsRow W.heap.size 22 1 vt (goneL us (ms.take j)).length (flatG cells32 (goneL us (ms.take j)))) ∧ Hid (wr.ownsRow W.heap.size 47 6 y (stayL us (ms.take j)).length (flatG msC (stayL us (ms.take j)))) ∧ Hid (Exc W P wr)) (fun _ _ _ _ z _ => n - (intOf z).toNat)
  case atStart => exact ⟨0, .slice none 0 0, rfl, Nat.zero_le _, KP0, hide (World.ownsRow_nil _ _ _ _), hide (World.ownsRow_nil _ _ _ _), hide (Exc.refl _ _)⟩
  case round =>
    obtain ⟨j, vt, rfl, hj, KPJ, OT, OS, G⟩ := hrel
    clear KP0 k4
    by_cases hlt : j < n
    · have hlt1 : (j : Int) < (n : Int) := by omega
      have hjl : j < ms.length := by rw [unhide HN]; exact hlt
      obtain ⟨g, off, rfl, hg, hft, d0, d1, d2, d3, d4, d5⟩ := RowM.mail (unhide HRM wr (unhide G)) (Below.refl _ _) hjl
      have HTL := hide (goneL_take (us := us) hjl)
      have HSL := hide (stayL_take (us := us) hjl)
      have htl := goneL_len us (ms.take j)
      have hsl := stayL_len us (ms.take j)
      rw [List.length_take] at htl hsl
      obtain ⟨ay, cy, hy, _⟩ := own_sliceG (unhide OS)
      subst hy
      obtain ⟨at_, ct, hvt, _⟩ := own_sliceG (unhide OT)
      subst hvt
      obtain ⟨TL, hTL⟩ : ∃ TL, TL = goneL us (ms.take j) := ⟨_, rfl⟩
      obtain ⟨SL, hSL⟩ : ∃ SL, SL = stayL us (ms.take j) := ⟨_, rfl⟩
      rw [← hTL] at HTL OT KPJ htl
      rw [← hSL] at HSL OS hsl ⊢
      obtain ⟨m, hm⟩ : ∃ m, ms[j] = m := ⟨_, rfl⟩
      rw [hm] at d0 d1 d2 d3 d4 d5 HTL HSL hft
      clear hm hTL hSL
      have hA : Below wr.heap.size wr (wr.alloc (.cells #[.int .u32 (m.uid : Int), .int .u8 (m.fl : Int), .int .i64 m.dy, .int .i64 m.sc, .int .i64 m.zn, .string m.raw] 47)) := (Below.refl _ wr).alloc (Nat.le_refl _) _
      have KM := Blk.new wr 47 #[.int .u32 (m.uid : Int), .int .u8 (m.fl : Int), .int .i64 m.dy, .int .i64 m.sc, .int .i64 m.zn, .string m.raw]
      have KP1 := (unhide KPJ).below hA
      have OT1 := own_below (unhide OT) hA
      have OS1 := own_below (unhide OS) hA
      have G1 := (unhide G).below hA
      have hmB : wr.heap.size ≠ P := by have := (unhide G).size; omega
      have hu := hft.1
      have hfl := hft.2.1
      obtain ⟨Ms, hMs⟩ : ∃ q, m.fl &&& 8 = q := ⟨_, rfl⟩
      have hk8 : bits .and .u8 (m.fl : Int) 8 = (Ms : Int) := by
        have := u8_and_nat m.fl 8 (by omega) (by omega)
        rw [← hMs]
        simpa using this
      have hgone : goneP us m = (decide (m.uid ∈ us) && decide (Ms ≠ 0)) := by unfold goneP; rw [hMs]
      have HBS1 := hide (unhide HBS _ m.uid G1 hu)
      have HFT := hide hft
      have HGN := hide hgone
      have KPH := hide KP1
      have OTH := hide OT1
      have OSH := hide OS1
      have GH := hide G1
      have KMH := hide KM
      clear hft hgone KP1 OT1 OS1 G1 KM hMs KPJ OT OS G hfl hA
      obtain ⟨mu, mf, md, msc, mz, mraw⟩ := m
      simp only at d0 d1 d2 d3 d4 d5 HTL HSL hk8 HBS1 HGN hu KPH OTH OSH GH KMH HFT
      obtain ⟨asked, hask⟩ : ∃ q, decide (mu ∈ us) = q := ⟨_, rfl⟩
      rw [hask] at HBS1 HGN
      clear hask
      go_wp2_with fail
      refine (unhide HBS1).mono ?_
      rintro e w2 ⟨⟨iv, rfl⟩, hw2⟩
      subst hw2
      have z0 := (unhide KMH).cell 0
      have z1 := (unhide KMH).cell 1
      have z2 := (unhide KMH).cell 2
      have z3 := (unhide KMH).cell 3
      have z4 := (unhide KMH).cell 4
      have z5 := (unhide KMH).cell 5
      simp only [List.getElem?_toArray, List.getElem?_cons_succ, List.getElem?_cons_zero] at z0 z1 z2 z3 z4 z5
      clear d0 d1 d2 d3 d4 d5 HBS1
      cases asked with
      | false =>
        have hg0 : goneP us ⟨mu, mf, md, msc, mz, mraw⟩ = false := by rw [unhide HGN]; rfl
        rw [hg0] at HTL HSL
        simp only [Bool.false_eq_true, if_false] at HTL HSL
        clear hg0
        obtain ⟨v', Y2, hrun, q1, q2, q3, q4⟩ := stay_app (⟨mu, mf, md, msc, mz, mraw⟩ : Msg) 24 (unhide KPH) (unhide OTH) (unhide OSH) (unhide GH) rfl (by omega)
        have Q1 := hide q1
        have Q2 : Hid (Y2.ownsRow W.heap.size 22 1 (.slice at_ TL.length ct) (goneL us (ms.take (j + 1))).length (flatG cells32 (goneL us (ms.take (j + 1))))) := hide (by rw [unhide HTL]; simpa using q2)
        have Q3 : Hid (Y2.ownsRow W.heap.size 47 6 v' (stayL us (ms.take (j + 1))).length (flatG msC (stayL us (ms.take (j + 1))))) := hide (by rw [unhide HSL]; simpa using q3)
        have Q4 := hide q4
        clear q1 q2 q3 q4 HTL HSL KPH OTH OSH GH KMH HGN htl hsl
        simp only [World.size_alloc] at hrun
        generalize SL.length = SLn at hrun ⊢
        go_wp2_with (at_builtin; refine wpList_append_runB (by rfl) _ _ 24 rfl rfl rfl rfl hrun ?_)
        exact ⟨⟨j + 1, _, by go_num, by omega, Q1, Q2, Q3, Q4⟩, by simp [intOf]; omega⟩
      | true =>
        by_cases hM0 : Ms = 0
        · have hb8 : ((Ms : Int) != 0) = false := by simp; omega
          have hg0 : goneP us ⟨mu, mf, md, msc, mz, mraw⟩ = false := by rw [unhide HGN]; simp; omega
          clear hM0
          rw [hg0] at HTL HSL
          simp only [Bool.false_eq_true, if_false] at HTL HSL
          clear hg0
          obtain ⟨v', Y2, hrun, q1, q2, q3, q4⟩ := stay_app (⟨mu, mf, md, msc, mz, mraw⟩ : Msg) 24 (unhide KPH) (unhide OTH) (unhide OSH) (unhide GH) rfl (by omega)
          have Q1 := hide q1
          have Q2 : Hid (Y2.ownsRow W.heap.size 22 1 (.slice at_ TL.length ct) (goneL us (ms.take (j + 1))).length (flatG cells32 (goneL us (ms.take (j + 1))))) := hide (by rw [unhide HTL]; simpa using q2)
          have Q3 : Hid (Y2.ownsRow W.heap.size 47 6 v' (stayL us (ms.take (j + 1))).length (flatG msC (stayL us (ms.take (j + 1))))) := hide (by rw [unhide HSL]; simpa using q3)
          have Q4 := hide q4
          clear q1 q2 q3 q4 HTL HSL KPH OTH OSH GH KMH HGN htl hsl
          simp only [World.size_alloc] at hrun
          generalize SL.length = SLn at hrun ⊢
          go_wp2_with (at_builtin; refine wpList_append_runB (by rfl) _ _ 24 rfl rfl rfl rfl hrun ?_)
          exact ⟨⟨j + 1, _, by go_num, by omega, Q1, Q2, Q3, Q4⟩, by simp [intOf]; omega⟩
        · have hb8 : ((Ms : Int) != 0) = true := by simp; omega
          have hg1 : goneP us ⟨mu, mf, md, msc, mz, mraw⟩ = true := by rw [unhide HGN]; simp; omega
          rw [hg1] at HTL HSL
          simp only [if_true, List.append_nil] at HTL HSL
          go_upto_region 6 with (fail)
          generalize hV : wr.alloc (.cells #[.int .u32 (mu : Int), .int .u8 (mf : Int), .int .i64 md, .int .i64 msc, .int .i64 mz, .string mraw] 47) = V at z0 KPH OTH OSH GH KMH ⊢
          clear hV z1 z2 z3 z4 z5
          generalize wr.heap.size = mB at z0 KMH hmB ⊢
          obtain ⟨v', Y2, hr, y5, yf, q1, q2, q3, q4, q5⟩ := told_app (V := V.drew) mu 28 (blk_drewB (unhide KPH)) (own_drewB (unhide OTH)) (own_drewB (unhide OSH)) (unhide GH).drewB rfl (by omega)
          obtain ⟨av, cv, hv2, _⟩ := own_sliceG q2
          obtain ⟨n9, hn9⟩ : ∃ n9, (TL ++ [mu]).length = n9 := ⟨_, rfl⟩
          rw [hn9] at hv2
          subst hv2
          have HQ := hide (And.intro q1 q4)
          have Q2 : Hid ((Y2.setCell ⟨P, 5, none⟩ (.slice av n9 cv)).ownsRow W.heap.size 22 1 (.slice av n9 cv) (goneL us (ms.take (j + 1))).length (flatG cells32 (goneL us (ms.take (j + 1))))) := hide (by rw [unhide HTL]; exact q2)
          have Q3 : Hid ((Y2.setCell ⟨P, 5, none⟩ (.slice av n9 cv)).ownsRow W.heap.size 47 6 (.slice ay SL.length cy) (stayL us (ms.take (j + 1))).length (flatG msC (stayL us (ms.take (j + 1))))) := hide (by rw [unhide HSL]; exact q3)
          have zA : (V.drew.alloc (.cells #[.int .u32 (mu : Int)] 22)).cell? ⟨mB, 0, none⟩ = some (.int .u32 (mu : Int)) := by
            rw [((blk_drewB (unhide KMH)).below ((Below.refl _ V.drew).alloc (Nat.le_refl _) (.cells #[.int .u32 (mu : Int)] 22))).cell 0]; rfl
          have zB : Y2.cell? ⟨mB, 0, none⟩ = some (.int .u32 (mu : Int)) := by rw [(q5 _ _ _ (blk_drewB (unhide KMH)) (by decide)).cell 0]; rfl
          have zC : (Y2.setCell ⟨P, 5, none⟩ (.slice av n9 cv)).cell? ⟨mB, 0, none⟩ = some (.int .u32 (mu : Int)) := by rw [((q5 _ _ _ (blk_drewB (unhide KMH)) (by decide)).other (a := ⟨P, 5, none⟩) hmB (.slice av n9 cv)).cell 0]; rfl
          have HY5 := hide y5
          have HYF := hide yf
          have HKP5 : Hid (V.drew.cell? ⟨P, 5, none⟩ = some (.slice at_ TL.length ct)) := hide (by rw [(blk_drewB (unhide KPH)).cell 5]; rfl)
          have HKPA : Hid ((V.alloc (.cells #[.int .u32 (mu : Int)] 22)).cell? ⟨P, 5, none⟩ = some (.slice at_ TL.length ct)) := hide (by
            rw [((unhide KPH).below ((Below.refl _ V).alloc (Nat.le_refl _) (.cells #[.int .u32 (mu : Int)] 22))).cell 5]; rfl)
          clear hn9
          clear q1 q2 q3 q4 q5 y5 yf HTL HSL KPH OTH OSH GH KMH hmB hg1 HGN hk8 HFT htl hsl
          generalize SL.length = SLn at Q3 ⊢
          refine wp_region_held_drew (S := (fun w' => w'.cell? ⟨mB, 0, none⟩ = some (.int .u32 (mu : Int)))) (by kernel_rfl) ?_ (fun hHeld => ?_)
          · exact z0
          refine wpAnyH_take (i := 0) (v := .pointer (some ⟨P, 0, none⟩)) rfl (by kernel_rfl) (by kernel_rfl) (by kernel_rfl) (fun _ _ _ h => h) (Or.inl ⟨by kernel_rfl, fun wS hSw => ?_⟩) (by assumption) ?_
          · (try dsimp only at hSw); go_simp
          (try simp only [Act.put, List.setIfInBounds_toArray, List.set_cons_zero, List.set_cons_succ])
          refine wpAnyH_take (i := 1) (v := .pointer (some ⟨P, 0, none⟩)) rfl (by kernel_rfl) (by kernel_rfl) (by kernel_rfl) (fun _ _ _ h => h) (Or.inl ⟨by kernel_rfl, fun wS hSw => ?_⟩) (by assumption) ?_
          · (try dsimp only at hSw); go_simp
          (try simp only [Act.put, List.setIfInBounds_toArray, List.set_cons_zero, List.set_cons_succ])
          refine wpAnyH_take (i := 2) (v := .pointer (some ⟨P, 0, none⟩)) rfl (by kernel_rfl) (by kernel_rfl) (by kernel_rfl) (fun _ _ _ h => h) (Or.inl ⟨by kernel_rfl, fun wS hSw => ?_⟩) (by assumption) ?_
          · (try dsimp only at hSw); go_simp
          (try simp only [Act.put, List.setIfInBounds_toArray, List.set_cons_zero, List.set_cons_succ])
          refine wpAnyH_take (i := 3) (v := .pointer (some ⟨P, 5, none⟩)) rfl (by kernel_rfl) (by kernel_rfl) (by kernel_rfl) (fun _ _ _ h => h) (Or.inl ⟨by kernel_rfl, fun wS hSw => ?_⟩) (by assumption) ?_
          · (try dsimp only at hSw); go_simp
          (try simp only [Act.put, List.setIfInBounds_toArray, List.set_cons_zero, List.set_cons_succ])
          refine wpAnyH_take (i := 5) (v := .pointer (some ⟨mB, 0, none⟩)) rfl (by kernel_rfl) (by kernel_rfl) (by kernel_rfl) (fun _ _ _ h => h) (Or.inl ⟨by kernel_rfl, fun wS hSw => ?_⟩) (by assumption) ?_
          · (try dsimp only at hSw); go_simp
          (try simp only [Act.put, List.setIfInBounds_toArray, List.set_cons_zero, List.set_cons_succ])
          refine wpAnyH_take (i := 6) (v := .int .u32 (mu : Int)) rfl (by kernel_rfl) (by kernel_rfl) (by kernel_rfl) (fun _ _ _ h => h) (Or.inl ⟨by kernel_rfl, fun wS hSw => ?_⟩) (by assumption) ?_
          · (try dsimp only at hSw); go_simp
          (try simp only [Act.put, List.setIfInBounds_toArray, List.set_cons_zero, List.set_cons_succ])
          refine wpAnyH_ready (rs := [4, 7]) (by kernel_rfl) (by simp) ?_
          refine (AllReadyH.cons rfl (fun K hK => ?_) (AllReadyH.cons rfl (fun K hK => ?_) AllReadyH.nil))
          · have kp5 := unhide HKP5
            clear HKP5
            go_simp
            refine hK.out _ _ ?_ (fun hHeld => ?_)
            · exact z0
            clear hK K
            (try simp only [Act.put, List.setIfInBounds_toArray, List.set_cons_zero, List.set_cons_succ])
            refine wpAnyH_ready (rs := [7]) (by kernel_rfl) (by simp) ?_
            refine AllReadyH.cons rfl (fun K hK => ?_) AllReadyH.nil
            go_simp
            refine hK.out _ _ ?_ (fun hHeld => ?_)
            · exact zA
            clear hK K
            (try simp only [Act.put, List.setIfInBounds_toArray, List.set_cons_zero, List.set_cons_succ])
            refine wpAnyH_ready (rs := [8]) (by kernel_rfl) (by simp) ?_
            refine AllReadyH.cons rfl (fun K hK => ?_) AllReadyH.nil
            refine step_append_runB rfl (.tmp 37) (.tmp 40) 28 28 rfl _ _ _ (by simp [Act.eval]) (by simp [Act.eval]) hr ?_
            refine hK.out _ _ ?_ (fun hHeld => ?_)
            · exact zB
            clear hK K
            (try simp only [Act.put, List.setIfInBounds_toArray, List.set_cons_zero, List.set_cons_succ])
            refine wpAnyH_take (i := 9) (v := .pointer (some ⟨P, 0, none⟩)) rfl (by kernel_rfl) (by kernel_rfl) (by kernel_rfl) (fun _ _ _ h => h) (Or.inl ⟨by kernel_rfl, fun wS hSw => ?_⟩) (by assumption) ?_
            · (try dsimp only at hSw); go_simp
            (try simp only [Act.put, List.setIfInBounds_toArray, List.set_cons_zero, List.set_cons_succ])
            refine wpAnyH_take (i := 10) (v := .pointer (some ⟨P, 5, none⟩)) rfl (by kernel_rfl) (by kernel_rfl) (by kernel_rfl) (fun _ _ _ h => h) (Or.inl ⟨by kernel_rfl, fun wS hSw => ?_⟩) (by assumption) ?_
            · (try dsimp only at hSw); go_simp
            (try simp only [Act.put, List.setIfInBounds_toArray, List.set_cons_zero, List.set_cons_succ])
            refine wpAnyH_ready (rs := [11]) (by kernel_rfl) (by simp) ?_
            refine AllReadyH.cons rfl (fun K hK => ?_) AllReadyH.nil
            have y5 := unhide HY5
            have yf := unhide HYF
            go_simp
            refine hK.out _ _ ?_ (fun hHeld => ?_)
            · exact zC
            clear hK K
            (try simp only [Act.put, List.setIfInBounds_toArray, List.set_cons_zero, List.set_cons_succ])
            refine wpAnyH_done (by kernel_rfl) ?_ _
            have Q1 := hide (unhide HQ).1
            have Q4 := hide (unhide HQ).2
            clear hHeld HY5 HYF HQ
            go_wp2
            exact ⟨⟨j + 1, _, by go_num, by omega, Q1, Q2, Q3, Q4⟩, by simp [intOf]; omega⟩
          · go_simp
            refine hK.out _ _ ?_ (fun hHeld => ?_)
            · exact zA
            clear hK K
            (try simp only [Act.put, List.setIfInBounds_toArray, List.set_cons_zero, List.set_cons_succ])
            refine wpAnyH_ready (rs := [4]) (by kernel_rfl) (by simp) ?_
            refine AllReadyH.cons rfl (fun K hK => ?_) AllReadyH.nil
            have kpA := unhide HKPA
            go_simp
            refine hK.out _ _ ?_ (fun hHeld => ?_)
            · exact zA
            clear hK K
            (try simp only [Act.put, List.setIfInBounds_toArray, List.set_cons_zero, List.set_cons_succ])
            refine wpAnyH_ready (rs := [8]) (by kernel_rfl) (by simp) ?_
            refine AllReadyH.cons rfl (fun K hK => ?_) AllReadyH.nil
            refine step_append_runB rfl (.tmp 37) (.tmp 40) 28 28 rfl _ _ _ (by simp [Act.eval]) (by simp [Act.eval]) hr ?_
            refine hK.out _ _ ?_ (fun hHeld => ?_)
            · exact zB
            clear hK K
            (try simp only [Act.put, List.setIfInBounds_toArray, List.set_cons_zero, List.set_cons_succ])
            refine wpAnyH_take (i := 9) (v := .pointer (some ⟨P, 0, none⟩)) rfl (by kernel_rfl) (by kernel_rfl) (by kernel_rfl) (fun _ _ _ h => h) (Or.inl ⟨by kernel_rfl, fun wS hSw => ?_⟩) (by assumption) ?_
            · (try dsimp only at hSw); go_simp
            (try simp only [Act.put, List.setIfInBounds_toArray, List.set_cons_zero, List.set_cons_succ])
            refine wpAnyH_take (i := 10) (v := .pointer (some ⟨P, 5, none⟩)) rfl (by kernel_rfl) (by kernel_rfl) (by kernel_rfl) (fun _ _ _ h => h) (Or.inl ⟨by kernel_rfl, fun wS hSw => ?_⟩) (by assumption) ?_
            · (try dsimp only at hSw); go_simp
            (try simp only [Act.put, List.setIfInBounds_toArray, List.set_cons_zero, List.set_cons_succ])
            refine wpAnyH_ready (rs := [11]) (by kernel_rfl) (by simp) ?_
            refine AllReadyH.cons rfl (fun K hK => ?_) AllReadyH.nil
            have y5 := unhide HY5
            have yf := unhide HYF
            go_simp
            refine hK.out _ _ ?_ (fun hHeld => ?_)
            · exact zC
            clear hK K
            (try simp only [Act.put, List.setIfInBounds_toArray, List.set_cons_zero, List.set_cons_succ])
            refine wpAnyH_done (by kernel_rfl) ?_ _
            have Q1 := hide (unhide HQ).1
            have Q4 := hide (unhide HQ).2
            clear hHeld HY5 HYF HQ
            go_wp2
            exact ⟨⟨j + 1, _, by go_num, by omega, Q1, Q2, Q3, Q4⟩, by simp [intOf]; omega⟩
    · have hlt1 : ¬ (j : Int) < (n : Int) := by omega
      have htk : ms.take j = ms := List.take_of_length_le (by rw [unhide HN]; omega)
      obtain ⟨ay, cy, hy, _⟩ := own_sliceG (unhide OS)
      subst hy
      rw [htk] at OS OT ⊢
      clear htk
      have hls := stayL_len us ms
      have hlg := goneL_len us ms
      rw [unhide HN] at hls hlg
      obtain ⟨sn, hsn⟩ : ∃ sn, (stayL us ms).length = sn := ⟨_, rfl⟩
      rw [hsn] at OS ⊢
      have kq := unhide KPJ
      have p0 := kq.cell 4
      have p1 := kq.frozen 4
      simp only [wkC, List.getElem?_toArray, List.getElem?_cons_succ, List.getElem?_cons_zero] at p0
      have oS := unhide OS
      have oT := unhide OT
      rw [← hsn] at oS
      have R1 := hide (show OutM _ _ (stayL us ms) from ⟨own_zero (own_setT (i := 4) (u := .slice ay sn cy) oS kq (by decide)), (fun m hm => unhide HFM m (List.mem_filter.1 hm).1), by omega⟩)
      have R2 := hide (show OutT _ _ (goneL us ms) from ⟨own_zero (own_setT (i := 4) (u := .slice ay sn cy) oT kq (by decide)), by
        intro x hx
        unfold goneL uidsM at hx
        obtain ⟨m, hm, rfl⟩ := List.mem_map.1 hx
        exact (unhide HFM m (List.mem_filter.1 hm).1).1, by omega⟩)
      have R3 := hide (kq.set 4 (.slice ay sn cy))
      have R4 := hide ((unhide G).set 4 (.slice ay sn cy))
      rw [hsn] at R1
      clear oS oT kq OS OT KPJ G hls hlg hsn
      go_wp2
      go_end0
      exact ⟨rfl, _, _, unhide R3, unhide R1, unhide R2, unhide R4⟩
end Go.Proofs.YtnhcpkcpgpobdaaDoor
