/-
  What the document's Append does (missiveref04), over this seat's program.
-/
import Derived.Test.YtmfkhbofmaonkaaDqi
import Derived.Test.YtmfkhbofmaonkaaDaq
import Derived.Deep.RegionHeld3
set_option linter.unusedVariables false
set_option linter.unusedSimpArgs false
namespace Go.Proofs.Ytmfkhbofmaonkaa
open Go.RowKit Go.Proofs.Dsk

theorem joined_is (s : ByteArray) (l : List ByteArray) (A : ByteArray) (h : A = ⟨(flatB l).toArray⟩) : s ++ A = joinB s l := by
  subst h
  apply ext_toList
  show (s ++ _).data.toList = _
  rw [ByteArray.data_append]
  simp [joinB, flatB]
theorem join_next {l : List ByteArray} {k : Nat} (hk : k < l.length) {A : ByteArray} (h : A = ⟨(flatB (l.take k)).toArray⟩) : A ++ l[k] = ⟨(flatB (l.take (k + 1))).toArray⟩ := by
  subst h
  apply ext_toList
  rw [ByteArray.data_append, flatB_take hk]
  simp
theorem flat_size {l : List ByteArray} {A : ByteArray} (h : A = ⟨(flatB l).toArray⟩) : A.size = total l := by
  subst h
  rw [← flatB_length]
  rfl
theorem used_one {l : List File} {i : Nat} (h : i < l.length) : l[i].data.size ≤ used l := by
  have h1 := used_take h
  have h2 := used_le l (i + 1)
  omega
/-- What an append does where there is room for it, by what its asking tells. -/
theorem appendC_no {data : List ByteArray} {i : Nat} {d : Fs} (hf : (used d.files + total data : Int) ≤ d.room) (h : (changeR d id).2 = 10) : appendC data i d = changeR d id := by
  unfold appendC
  rw [if_pos hf]
  by_cases h0 : d.fuse = 0
  · unfold changeR at h; rw [if_pos h0] at h; simp at h
  · rw [if_neg h0]
    exact changeR_no _ (by omega)
theorem appendC_yes {data : List ByteArray} {i : Nat} {d : Fs} (hf : (used d.files + total data : Int) ≤ d.room) (h : ¬ (changeR d id).2 = 10) (hi : i < d.files.length) :
    appendC data i d = (⟨(changeR d id).1.room, d.files.set i (putF data d.files[i]), (changeR d id).1.fuse, (changeR d id).1.fault, (changeR d id).1.down⟩, (changeR d id).2) := by
  have hm : d.files.modify i (fun f => { f with data := joinB f.data data }) = d.files.set i (putF data d.files[i]) := modify_set hi _
  unfold appendC
  rw [if_pos hf]
  by_cases h0 : d.fuse = 0
  · rw [if_pos h0]
    unfold changeR
    rw [if_pos h0, if_pos (show (putAt i data d).fuse = 0 from h0)]
    unfold putAt
    rw [hm]
  · rw [if_neg h0]
    unfold changeR at h ⊢
    rw [if_neg h0] at h ⊢
    rw [if_neg h0]
    by_cases h1 : d.fault = 0
    · rw [if_pos h1] at h; simp at h
    · rw [if_neg h1, if_neg h1]
      unfold putAt
      rw [show (spent d).files = d.files from rfl, hm]
      rfl

set_option maxHeartbeats 8000000 in
set_option maxRecDepth 100000 in
theorem refAppend_any (d : Fs) (v : Value) (n : ByteArray) (sa : Option Addr) (sn sc : Nat) (data : List ByteArray) (w : World) (hfit : FitAll d) (h : RowF w v d.files) (hnt : NeatF v) (hl : d.files.length ≤ 1048576) (hrow : RowS w (.slice sa sn sc) data) :
    Calls Try.prog 22 #[fsV d v, .string n, .slice sa sn sc] w fun e w' => ∃ v', e = .returned (.tuple #[fsV (appendR d n data).1 v', .int .i64 (appendR d n data).2]) ∧ RowF w' v' (appendR d n data).1.files ∧ Below w.heap.size w w' := by
  have HPW := hide (fun (X : World) (hX : RowF X v d.files) => refPower_any d v X hfit.1 hX)
  have HAS := hide (fun (c : Nat) (X : World) (hX : RowF X v d.files) => refAs_any d v c X hfit hX hnt hl)
  have HCP := hide (fun (X : World) (hX : RowF X v d.files) => refCopy_any d v X hX hnt hl)
  have HAK := hide (fun (X : World) (hX : RowF X v d.files) => refAsks_any d v X hfit hX hnt hl)
  have HFD := hide (fun (n : ByteArray) (X : World) (hr : Rise d.files) (hX : RowF X v d.files) => refFind_any d.files v n X hr hX)
  have HFF := hide hfit.2.1
  obtain ⟨a, cap, hv, h63, _, hc⟩ := id h
  subst hv
  have HC := hide hc
  clear hc
  obtain ⟨N, hN⟩ : ∃ N, d.files.length = N := ⟨_, rfl⟩
  have HN := hide hN
  rw [hN] at h hnt h63 HPW HAS HAK HCP HFD hl ⊢
  have hb2 : Below w.heap.size w ((w.alloc (Obj.cells #[.int .i64 d.room, .slice a N cap, .int .i64 d.fuse, .int .i64 d.fault, .bool d.down] 24)).alloc (Obj.cells #[.int .i64 0, .slice none 0 0, .int .i64 0, .int .i64 0, .bool false] 24)) := ((Below.refl _ w).alloc (Nat.le_refl _) _).alloc (by simp) _
  have k0 : Blk ((w.alloc (Obj.cells #[.int .i64 d.room, .slice a N cap, .int .i64 d.fuse, .int .i64 d.fault, .bool d.down] 24)).alloc (Obj.cells #[.int .i64 0, .slice none 0 0, .int .i64 0, .int .i64 0, .bool false] 24)) w.heap.size 24 #[.int .i64 d.room, .slice a N cap, .int .i64 d.fuse, .int .i64 d.fault, .bool d.down] := (Blk.new w _ _).below ((Below.refl _ _).alloc (Nat.le_refl _) _)
  have k1 := Blk.new (w.alloc (Obj.cells #[.int .i64 d.room, .slice a N cap, .int .i64 d.fuse, .int .i64 d.fault, .bool d.down] 24)) 24 #[.int .i64 0, .slice none 0 0, .int .i64 0, .int .i64 0, .bool false]
  simp only [World.size_alloc] at k1
  have K := hide k0
  have Z := hide k1
  have R0 := hide (h.below hb2)
  have B := hide hb2
  clear k0 k1 hb2 hN h hnt hfit
  simp only [fsV] at HPW HAS HAK HCP ⊢
  obtain ⟨sa2, sc2, hsv, hs63, hsz, hsc⟩ := hrow
  injection hsv with q1 q2 q3
  have HT := hide q2
  have hsn : sn ≤ 9223372036854775807 := by omega
  have HSZ := hide hsz
  rw [← q1] at hsc
  have HSC := hide hsc
  clear q1 q2 q3 hs63 hsz hsc
  by_cases hrdy : ready d = 0
  · obtain ⟨hr, hdn⟩ := ready_zero hrdy
    rw [hrdy] at HPW
    obtain ⟨hp1, hp2, hp3, hp4⟩ := right_parts hr
    have HRI := hide hp4
    have hR0 := hp1.1
    have hR1 := hp1.2.1
    have hres : appendR d n data = onR n (appendC data) d := work_good2 _ hr hdn
    rw [hres]
    have HUS := hide (fun (X : World) (hX : RowF X (.slice a N cap) d.files) => refUsed_any d.files (.slice a N cap) d.room X hR0 hR1 hX)
    rw [if_pos hp2] at HUS
    clear hres hrdy hdn hp1 hp3 hp4 hr
    cases hh : has d.files n with
    | false =>
      have hon : onR n (appendC data) d = (d, 3) := by unfold onR; rw [if_neg (by simp [hh])]
      rw [hon]
      have HF2 := hide (unhide HFD n)
      simp only [hh, Bool.false_eq_true, if_false] at HF2
      clear HFD hon hh HUS
      have HFD := hide (fun (_ : ByteArray) => unhide HF2)
      clear HF2
      go_enter Try.func22, Try.ntmps22
      go_wp2_with fail
      refine (unhide HPW _ (unhide R0)).mono ?_
      rintro e w1 ⟨rfl, b1⟩
      have KN := hide ((unhide K).below b1)
      have ZN := hide ((unhide Z).below b1)
      have RN := hide ((unhide R0).below b1)
      have BN := hide (belows (unhide B) b1)
      clear K Z R0 B
      have K := KN
      have Z := ZN
      have R0 := RN
      have B := BN
      clear KN ZN RN BN
      clear b1 HPW
      have c0 := (unhide K).cell 0
      have c1 := (unhide K).cell 1
      have c2 := (unhide K).cell 2
      have c3 := (unhide K).cell 3
      have c4 := (unhide K).cell 4
      simp only [List.getElem?_toArray, List.getElem?_cons_succ, List.getElem?_cons_zero] at c0 c1 c2 c3 c4
      go_wp2_with fail
      clear c0 c1 c2 c3 c4
      refine (unhide HFD n _ (unhide HRI) (unhide R0)).mono ?_
      rintro e w2 ⟨rfl, b2⟩
      have KN := hide ((unhide K).below b2)
      have ZN := hide ((unhide Z).below b2)
      have RN := hide ((unhide R0).below b2)
      have BN := hide (belows (unhide B) b2)
      clear K Z R0 B
      have K := KN
      have Z := ZN
      have R0 := RN
      have B := BN
      clear KN ZN RN BN
      clear b2
      have c0 := (unhide K).cell 0
      have c1 := (unhide K).cell 1
      have c2 := (unhide K).cell 2
      have c3 := (unhide K).cell 3
      have c4 := (unhide K).cell 4
      simp only [List.getElem?_toArray, List.getElem?_cons_succ, List.getElem?_cons_zero] at c0 c1 c2 c3 c4
      go_wp2_with fail
      clear c0 c1 c2 c3 c4
      refine (unhide HAS 3 _ (unhide R0)).mono ?_
      rintro e w9 ⟨v9, rfl, r9, _, b9⟩
      have KN := hide ((unhide K).below b9)
      have ZN := hide ((unhide Z).below b9)
      have RN := hide ((unhide R0).below b9)
      have BN := hide (belows (unhide B) b9)
      clear K Z R0 B
      have K := KN
      have Z := ZN
      have R0 := RN
      have B := BN
      clear KN ZN RN BN
      simp only [show ¬ (3 : Nat) = 2 by omega, if_false] at r9 ⊢
      obtain ⟨a9, cap9, hv9, _⟩ := id r9
      subst hv9
      rw [unhide HN] at r9 ⊢
      have R9 := hide r9
      clear r9 b9
      have e0 := (unhide Z).cell 0
      have e1 := (unhide Z).cell 1
      have e2 := (unhide Z).cell 2
      have e3 := (unhide Z).cell 3
      have e4 := (unhide Z).cell 4
      simp only [List.getElem?_toArray, List.getElem?_cons_succ, List.getElem?_cons_zero] at e0 e1 e2 e3 e4
      have f0 := (unhide Z).frozen 0
      have f1 := (unhide Z).frozen 1
      have f2 := (unhide Z).frozen 2
      have f3 := (unhide Z).frozen 3
      have f4 := (unhide Z).frozen 4
      have RB := hide (below5 (s := w.heap.size + 1) (unhide B) (by omega))
      have RR := hide (rowF5 (unhide R9) (unhide Z) (by intro i x; match i with | 0 | 1 | 2 | 3 | 4 => simp | i + 5 => simp))
      go_wp2
      (try simp only [Exit.inBlock, Exit.then])
      refine bodyPost_ret (v := .tuple #[.agg #[.int .i64 d.room, .slice a9 N cap9, .int .i64 d.fuse, .int .i64 d.fault, .bool d.down], .int .i64 3]) ?_ rfl ⟨_, rfl, unhide RR _ _ _ _ _, unhide RB _ _ _ _ _⟩
      rw [results_cell_tmp rfl]
      go_simp
    | true =>
      obtain ⟨hi, hnm⟩ := has_lb (unhide HRI) hh
      have hon : onR n (appendC data) d = (appendC data) (lb d.files n) d := by unfold onR; rw [if_pos hh]
      rw [hon]
      have HF2 := hide (unhide HFD n)
      simp only [hh, if_true] at HF2
      clear HFD hon hh hnm
      have HFD := hide (fun (_ : ByteArray) => unhide HF2)
      clear HF2
      obtain ⟨ix, hix⟩ : ∃ ix, lb d.files n = ix := ⟨_, rfl⟩
      rw [hix] at HFD hi ⊢
      have hixl : ix < d.files.length := hi
      have hx0 : ¬ (ix : Int) < 0 := by omega
      have hxb : decide ((ix : Int) < 0) = false := decide_eq_false hx0
      have hixN : ix < N := by have := unhide HN; omega
      have hixi : (ix : Int) < (N : Int) := by omega
      clear hix hi
      obtain ⟨rm, hrm⟩ : ∃ rm, rm = d.room - (used d.files : Int) := ⟨_, rfl⟩
      have hm0 : 0 ≤ rm := by omega
      have hm1 : rm ≤ 16777216 := by omega
      have HRM := hide hrm
      have hwr : IntKind.i64.wrap (d.room - (used d.files : Int)) = rm := by rw [IntKind.wrap_i64]; omega
      skip
      have HUB := hide hp2
      clear hrm hp2
      by_cases hft : (used d.files + total data : Int) ≤ d.room
      · have HFT := hide hft
        by_cases hz : (changeR d id).2 = 10
        · rw [appendC_no hft hz]
          have hfl := changeR_files d
          generalize changeR d id = res at HAK hz hfl ⊢
          obtain ⟨xx, n3⟩ := res
          simp only at HAK hz hfl ⊢
          subst hz
          have HFL := hide hfl
          clear hfl hft
          go_enter Try.func22, Try.ntmps22
          go_wp2_with fail
          refine (unhide HPW _ (unhide R0)).mono ?_
          rintro e w1 ⟨rfl, b1⟩
          have KN := hide ((unhide K).below b1)
          have ZN := hide ((unhide Z).below b1)
          have RN := hide ((unhide R0).below b1)
          have BN := hide (belows (unhide B) b1)
          clear K Z R0 B
          have K := KN
          have Z := ZN
          have R0 := RN
          have B := BN
          clear KN ZN RN BN
          clear b1 HPW
          have c0 := (unhide K).cell 0
          have c1 := (unhide K).cell 1
          have c2 := (unhide K).cell 2
          have c3 := (unhide K).cell 3
          have c4 := (unhide K).cell 4
          simp only [List.getElem?_toArray, List.getElem?_cons_succ, List.getElem?_cons_zero] at c0 c1 c2 c3 c4
          go_wp2_with fail
          clear c0 c1 c2 c3 c4
          refine (unhide HFD n _ (unhide HRI) (unhide R0)).mono ?_
          rintro e w2 ⟨rfl, b2⟩
          have KN := hide ((unhide K).below b2)
          have ZN := hide ((unhide Z).below b2)
          have RN := hide ((unhide R0).below b2)
          have BN := hide (belows (unhide B) b2)
          clear K Z R0 B
          have K := KN
          have Z := ZN
          have R0 := RN
          have B := BN
          clear KN ZN RN BN
          clear b2
          have c0 := (unhide K).cell 0
          have c1 := (unhide K).cell 1
          have c2 := (unhide K).cell 2
          have c3 := (unhide K).cell 3
          have c4 := (unhide K).cell 4
          simp only [List.getElem?_toArray, List.getElem?_cons_succ, List.getElem?_cons_zero] at c0 c1 c2 c3 c4
          go_upto_region 7 with (fail)
          clear c0 c1 c2 c3 c4
          have bD : Below w2.heap.size w2 w2.drew := below_dr1 (Below.refl _ _)
          refine wp_region_held_drew (S := fun w' => Below w2.heap.size w2 w') (by kernel_rfl) ?_ (fun hHeld => ?_)
          · exact bD
          refine wpAnyH_take (i := 0) (v := .pointer (some ⟨w.heap.size, 0, none⟩)) rfl (by kernel_rfl) (by kernel_rfl) (by kernel_rfl) (fun _ _ _ h => h) (Or.inl ⟨by rfl, fun wS hSw => ?_⟩) (by assumption) ?_
          · (try dsimp only at hSw); go_simp
          (try simp only [Act.put, List.setIfInBounds_toArray, List.set_cons_zero, List.set_cons_succ])
          refine wpAnyH_take (i := 1) (v := .int .i64 d.room) rfl (by kernel_rfl) (by kernel_rfl) (by kernel_rfl) (fun _ _ _ h => h) (Or.inl ⟨by rfl, fun wS hSw => ?_⟩) (by assumption) ?_
          · (try dsimp only at hSw); have c0 := ((unhide K).below hSw).cell 0; have c1 := ((unhide K).below hSw).cell 1; have c2 := ((unhide K).below hSw).cell 2; have c3 := ((unhide K).below hSw).cell 3; have c4 := ((unhide K).below hSw).cell 4; simp only [List.getElem?_toArray, List.getElem?_cons_succ, List.getElem?_cons_zero] at c0 c1 c2 c3 c4; go_simp
          (try simp only [Act.put, List.setIfInBounds_toArray, List.set_cons_zero, List.set_cons_succ])
          refine wpAnyH_take (i := 2) (v := .pointer (some ⟨w.heap.size, 1, none⟩)) rfl (by kernel_rfl) (by kernel_rfl) (by kernel_rfl) (fun _ _ _ h => h) (Or.inl ⟨by rfl, fun wS hSw => ?_⟩) (by assumption) ?_
          · (try dsimp only at hSw); go_simp
          (try simp only [Act.put, List.setIfInBounds_toArray, List.set_cons_zero, List.set_cons_succ])
          refine wpAnyH_take (i := 3) (v := .slice a N cap) rfl (by kernel_rfl) (by kernel_rfl) (by kernel_rfl) (fun _ _ _ h => h) (Or.inl ⟨by rfl, fun wS hSw => ?_⟩) (by assumption) ?_
          · (try dsimp only at hSw); have c0 := ((unhide K).below hSw).cell 0; have c1 := ((unhide K).below hSw).cell 1; have c2 := ((unhide K).below hSw).cell 2; have c3 := ((unhide K).below hSw).cell 3; have c4 := ((unhide K).below hSw).cell 4; simp only [List.getElem?_toArray, List.getElem?_cons_succ, List.getElem?_cons_zero] at c0 c1 c2 c3 c4; go_simp
          (try simp only [Act.put, List.setIfInBounds_toArray, List.set_cons_zero, List.set_cons_succ])
          refine wpAnyH_take (i := 4) (v := .pointer (some ⟨w.heap.size, 0, none⟩)) rfl (by kernel_rfl) (by kernel_rfl) (by kernel_rfl) (fun _ _ _ h => h) (Or.inl ⟨by rfl, fun wS hSw => ?_⟩) (by assumption) ?_
          · (try dsimp only at hSw); go_simp
          (try simp only [Act.put, List.setIfInBounds_toArray, List.set_cons_zero, List.set_cons_succ])
          refine wpAnyH_take (i := 5) (v := .int .i64 d.room) rfl (by kernel_rfl) (by kernel_rfl) (by kernel_rfl) (fun _ _ _ h => h) (Or.inl ⟨by rfl, fun wS hSw => ?_⟩) (by assumption) ?_
          · (try dsimp only at hSw); have c0 := ((unhide K).below hSw).cell 0; have c1 := ((unhide K).below hSw).cell 1; have c2 := ((unhide K).below hSw).cell 2; have c3 := ((unhide K).below hSw).cell 3; have c4 := ((unhide K).below hSw).cell 4; simp only [List.getElem?_toArray, List.getElem?_cons_succ, List.getElem?_cons_zero] at c0 c1 c2 c3 c4; go_simp
          (try simp only [Act.put, List.setIfInBounds_toArray, List.set_cons_zero, List.set_cons_succ])
          refine wpAnyH_ready (rs := [6]) (by kernel_rfl) (by simp) ?_
          refine AllReadyH.cons rfl (fun K hK => ?_) AllReadyH.nil
          have hB : Below w2.heap.size w2 _ := hHeld
          go_simp
          refine (unhide HUS _ ((unhide R0).below hB)).mono ?_
          rintro e w5 ⟨rfl, b5⟩
          have h5 : Below w2.heap.size w2 w5 := belows hB b5
          clear b5 hB
          go_wp2_with fail
          refine hK.out _ _ ?_ (fun hHeld => ?_)
          · exact h5
          clear hK K
          (try simp only [Act.put, List.setIfInBounds_toArray, List.set_cons_zero, List.set_cons_succ])
          refine wpAnyH_take (i := 7) (v := .int .i64 rm) rfl (by kernel_rfl) (by kernel_rfl) (by kernel_rfl) (fun _ _ _ h => h) (Or.inl ⟨by rfl, fun wS hSw => ?_⟩) (by assumption) ?_
          · (try dsimp only at hSw); go_simp
          (try simp only [Act.put, List.setIfInBounds_toArray, List.set_cons_zero, List.set_cons_succ])
          refine wpAnyH_ready (rs := [8]) (by kernel_rfl) (by simp) ?_
          refine AllReadyH.cons rfl (fun K hK => ?_) AllReadyH.nil
          go_simp
          refine hK.out _ _ ?_ (fun hHeld => ?_)
          · exact hHeld
          clear hK K
          (try simp only [Act.put, List.setIfInBounds_toArray, List.set_cons_zero, List.set_cons_succ])
          refine wpAnyH_done (by kernel_rfl) ?_ _
          clear hHeld
          have KN := hide ((unhide K).below h5)
          have ZN := hide ((unhide Z).below h5)
          have RN := hide ((unhide R0).below h5)
          have BN := hide (belows (unhide B) h5)
          clear K Z R0 B
          have K := KN
          have Z := ZN
          have R0 := RN
          have B := BN
          clear KN ZN RN BN
          clear h5 bD HUS
          go_wp2
          go_loopw [11, 13, 45] (fun x y z wr => ∃ (k : Nat) (A : ByteArray), x = .string A ∧ z = .int .i64 (k : Int) ∧ k ≤ sn ∧ (A.size : Int) ≤ rm ∧ Hid (A = ⟨(flatB (data.take k)).toArray⟩) ∧ wr = w5) (fun _ _ z _ => sn - (intOf z).toNat)
          case atStart => exact ⟨0, { data := #[] }, rfl, rfl, Nat.zero_le _, by show ((0 : Nat) : Int) ≤ rm; omega, hide (by simp [flatB]), rfl⟩
          case round =>
            obtain ⟨k, A, rfl, rfl, hk, hA, HA, hwr5⟩ := hrel
            subst hwr5
            by_cases hlt : k < sn
            · have hlt1 : (k : Int) < (sn : Int) := by omega
              have hkl : k < data.length := by have := unhide HT; omega
              obtain ⟨b, off, rfl, hb, hcl⟩ : ∃ b off, sa = some ⟨b, off, none⟩ ∧ b < w.heap.size ∧ ∀ j (h : j < data.length), w.cell? ⟨b, off + j, none⟩ = some (.string data[j]) := by
                rcases unhide HSC with h0 | h0
                · rw [h0] at hkl; simp at hkl
                · exact h0
              have y0 := ((unhide B).cell (p := ⟨b, off + k, none⟩) hb).trans (hcl k hkl)
              have hz := unhide HSZ _ (List.getElem_mem hkl)
              have hAs := flat_size (unhide HA)
              have ht1 := total_take hkl
              have ht2 := total_le data (k + 1)
              have HA2 := hide (join_next hkl (unhide HA))
              have hle : ¬ (data[k].size : Int) > rm - (A.size : Int) := by have := unhide HFT; have := unhide HRM; omega
              clear hcl hAs ht1 ht2 HA
              generalize data[k] = s0 at *
              have d1 : decide ((s0.size : Int) > rm - (A.size : Int)) = false := decide_eq_false (by omega)
              have d1b : ¬ (s0.size : Int) > rm - (A.size : Int) := by omega
              have hsm : A.size + s0.size ≤ 16777216 := by omega
              have hsz : (A ++ s0).size = A.size + s0.size := ByteArray.size_append
              have HS2 := hide hsz
              clear hsz
              go_wp2
              exact ⟨⟨k + 1, A ++ s0, rfl, by go_num, by omega, by rw [unhide HS2]; omega, HA2, trivial⟩, by simp [intOf]; omega⟩
            · have hke : k = sn := by omega
              have htl : data.take k = data := by rw [hke, unhide HT]; simp
              have hAs := flat_size (unhide HA)
              have ha := unhide HA
              rw [htl] at hAs ha
              have HAD := hide ha
              have hlt1 : ¬ (k : Int) < (sn : Int) := by omega
              have hA24 : A.size ≤ 16777216 := by omega
              clear htl hAs ha HA hke
              have c0 := (unhide K).cell 0
              have c1 := (unhide K).cell 1
              have c2 := (unhide K).cell 2
              have c3 := (unhide K).cell 3
              have c4 := (unhide K).cell 4
              simp only [List.getElem?_toArray, List.getElem?_cons_succ, List.getElem?_cons_zero] at c0 c1 c2 c3 c4
              go_wp2_with fail
              clear c0 c1 c2 c3 c4
              refine (unhide HAK _ (unhide R0)).mono ?_
              rintro e w3 ⟨v3, rfl, own3, b3⟩
              have hs3 := b3.size
              have hsb := (unhide B).size
              have hz3 : w.heap.size + 1 < w3.heap.size := Nat.lt_of_lt_of_le (unhide Z).lt b3.size
              obtain ⟨a3, cap3, rfl⟩ := own_form own3
              have bal : Below w3.heap.size w3 (w3.alloc (Obj.cells #[.int .i64 xx.room, .slice a3 N cap3, .int .i64 xx.fuse, .int .i64 xx.fault, .bool xx.down] 24)) := (Below.refl _ _).alloc (Nat.le_refl _) _
              have r3 := rowF_of_own (l := d.files) (by rw [unhide HN]; exact own3) (by have := unhide HN; omega) (unhide HFF)
              have R3 := hide (r3.below bal)
              have KX := hide (Blk.new w3 24 #[.int .i64 xx.room, .slice a3 N cap3, .int .i64 xx.fuse, .int .i64 xx.fault, .bool xx.down])
              have KN := hide ((unhide K).below b3)
              have ZN := hide ((unhide Z).below b3)
              have RN := hide ((unhide R0).below b3)
              have BN := hide (belows (unhide B) b3)
              clear K Z R0 B
              have K := KN
              have Z := ZN
              have R0 := RN
              have B := BN
              clear KN ZN RN BN
              have KN := hide ((unhide K).below bal)
              have ZN := hide ((unhide Z).below bal)
              have RN := hide ((unhide R0).below bal)
              have BN := hide (belows (unhide B) bal)
              clear K Z R0 B
              have K := KN
              have Z := ZN
              have R0 := RN
              have B := BN
              clear KN ZN RN BN
              clear bal b3 own3 r3 HAK
              go_upto_region 19 with (fail)
              generalize (w3.alloc (Obj.cells #[.int .i64 xx.room, .slice a3 N cap3, .int .i64 xx.fuse, .int .i64 xx.fault, .bool xx.down] 24)) = Y at *
              have x0 := (unhide KX).cell 0
              have x1 := (unhide KX).cell 1
              have x2 := (unhide KX).cell 2
              have x3 := (unhide KX).cell 3
              have x4 := (unhide KX).cell 4
              simp only [List.getElem?_toArray, List.getElem?_cons_succ, List.getElem?_cons_zero] at x0 x1 x2 x3 x4
              have e0 := (unhide Z).cell 0
              have e1 := (unhide Z).cell 1
              have e2 := (unhide Z).cell 2
              have e3 := (unhide Z).cell 3
              have e4 := (unhide Z).cell 4
              simp only [List.getElem?_toArray, List.getElem?_cons_succ, List.getElem?_cons_zero] at e0 e1 e2 e3 e4
              have f0 := (unhide Z).frozen 0
              have f1 := (unhide Z).frozen 1
              have f2 := (unhide Z).frozen 2
              have f3 := (unhide Z).frozen 3
              have f4 := (unhide Z).frozen 4
              have RB := hide (below5 (s := w.heap.size + 1) (unhide B) (by omega))
              have RR := hide (rowF5 (show RowF Y (.slice a3 N cap3) xx.files by rw [unhide HFL]; exact unhide R3) (unhide Z) (by intro i x; match i with | 0 | 1 | 2 | 3 | 4 => simp | i + 5 => simp))
              go_wp2
              (try simp only [Exit.inBlock, Exit.then])
              refine bodyPost_ret (v := .tuple #[.agg #[.int .i64 xx.room, .slice a3 N cap3, .int .i64 xx.fuse, .int .i64 xx.fault, .bool xx.down], .int .i64 10]) ?_ rfl ⟨_, rfl, unhide RR _ _ _ _ _, unhide RB _ _ _ _ _⟩
              rw [results_cell_tmp rfl]
              go_simp
        · rw [appendC_yes hft hz hixl]
          generalize changeR d id = res at HAK hz ⊢
          obtain ⟨xx, n3⟩ := res
          simp only at HAK hz ⊢
          have hn0 : ((n3 : Int) != 10) = true := by simp; omega
          have hn2 : ((n3 : Int) == 10) = false := by simp; omega
          have hn1 : ¬ (n3 : Int) = 10 := by omega
          have hul : (d.files[ix].data.size : Int) ≤ d.room := by have h1 := used_one hixl; have := unhide HUB; omega
          have hdt : d.files[ix].data.size ≤ 16777216 := by omega
          have HFE : Hid (∀ f ∈ d.files.set ix (putF data d.files[ix]), Fits f) := hide (fun f hf => (List.mem_or_eq_of_mem_set hf).elim (fun h1 => unhide HFF f h1) (fun h1 => by rw [h1]; exact fits_put (unhide HFF _ (List.getElem_mem hixl)) (by omega)))
          clear hz hft hul
          go_enter Try.func22, Try.ntmps22
          go_wp2_with fail
          refine (unhide HPW _ (unhide R0)).mono ?_
          rintro e w1 ⟨rfl, b1⟩
          have KN := hide ((unhide K).below b1)
          have ZN := hide ((unhide Z).below b1)
          have RN := hide ((unhide R0).below b1)
          have BN := hide (belows (unhide B) b1)
          clear K Z R0 B
          have K := KN
          have Z := ZN
          have R0 := RN
          have B := BN
          clear KN ZN RN BN
          clear b1 HPW
          have c0 := (unhide K).cell 0
          have c1 := (unhide K).cell 1
          have c2 := (unhide K).cell 2
          have c3 := (unhide K).cell 3
          have c4 := (unhide K).cell 4
          simp only [List.getElem?_toArray, List.getElem?_cons_succ, List.getElem?_cons_zero] at c0 c1 c2 c3 c4
          go_wp2_with fail
          clear c0 c1 c2 c3 c4
          refine (unhide HFD n _ (unhide HRI) (unhide R0)).mono ?_
          rintro e w2 ⟨rfl, b2⟩
          have KN := hide ((unhide K).below b2)
          have ZN := hide ((unhide Z).below b2)
          have RN := hide ((unhide R0).below b2)
          have BN := hide (belows (unhide B) b2)
          clear K Z R0 B
          have K := KN
          have Z := ZN
          have R0 := RN
          have B := BN
          clear KN ZN RN BN
          clear b2
          have c0 := (unhide K).cell 0
          have c1 := (unhide K).cell 1
          have c2 := (unhide K).cell 2
          have c3 := (unhide K).cell 3
          have c4 := (unhide K).cell 4
          simp only [List.getElem?_toArray, List.getElem?_cons_succ, List.getElem?_cons_zero] at c0 c1 c2 c3 c4
          go_upto_region 7 with (fail)
          clear c0 c1 c2 c3 c4
          have bD : Below w2.heap.size w2 w2.drew := below_dr1 (Below.refl _ _)
          refine wp_region_held_drew (S := fun w' => Below w2.heap.size w2 w') (by kernel_rfl) ?_ (fun hHeld => ?_)
          · exact bD
          refine wpAnyH_take (i := 0) (v := .pointer (some ⟨w.heap.size, 0, none⟩)) rfl (by kernel_rfl) (by kernel_rfl) (by kernel_rfl) (fun _ _ _ h => h) (Or.inl ⟨by rfl, fun wS hSw => ?_⟩) (by assumption) ?_
          · (try dsimp only at hSw); go_simp
          (try simp only [Act.put, List.setIfInBounds_toArray, List.set_cons_zero, List.set_cons_succ])
          refine wpAnyH_take (i := 1) (v := .int .i64 d.room) rfl (by kernel_rfl) (by kernel_rfl) (by kernel_rfl) (fun _ _ _ h => h) (Or.inl ⟨by rfl, fun wS hSw => ?_⟩) (by assumption) ?_
          · (try dsimp only at hSw); have c0 := ((unhide K).below hSw).cell 0; have c1 := ((unhide K).below hSw).cell 1; have c2 := ((unhide K).below hSw).cell 2; have c3 := ((unhide K).below hSw).cell 3; have c4 := ((unhide K).below hSw).cell 4; simp only [List.getElem?_toArray, List.getElem?_cons_succ, List.getElem?_cons_zero] at c0 c1 c2 c3 c4; go_simp
          (try simp only [Act.put, List.setIfInBounds_toArray, List.set_cons_zero, List.set_cons_succ])
          refine wpAnyH_take (i := 2) (v := .pointer (some ⟨w.heap.size, 1, none⟩)) rfl (by kernel_rfl) (by kernel_rfl) (by kernel_rfl) (fun _ _ _ h => h) (Or.inl ⟨by rfl, fun wS hSw => ?_⟩) (by assumption) ?_
          · (try dsimp only at hSw); go_simp
          (try simp only [Act.put, List.setIfInBounds_toArray, List.set_cons_zero, List.set_cons_succ])
          refine wpAnyH_take (i := 3) (v := .slice a N cap) rfl (by kernel_rfl) (by kernel_rfl) (by kernel_rfl) (fun _ _ _ h => h) (Or.inl ⟨by rfl, fun wS hSw => ?_⟩) (by assumption) ?_
          · (try dsimp only at hSw); have c0 := ((unhide K).below hSw).cell 0; have c1 := ((unhide K).below hSw).cell 1; have c2 := ((unhide K).below hSw).cell 2; have c3 := ((unhide K).below hSw).cell 3; have c4 := ((unhide K).below hSw).cell 4; simp only [List.getElem?_toArray, List.getElem?_cons_succ, List.getElem?_cons_zero] at c0 c1 c2 c3 c4; go_simp
          (try simp only [Act.put, List.setIfInBounds_toArray, List.set_cons_zero, List.set_cons_succ])
          refine wpAnyH_take (i := 4) (v := .pointer (some ⟨w.heap.size, 0, none⟩)) rfl (by kernel_rfl) (by kernel_rfl) (by kernel_rfl) (fun _ _ _ h => h) (Or.inl ⟨by rfl, fun wS hSw => ?_⟩) (by assumption) ?_
          · (try dsimp only at hSw); go_simp
          (try simp only [Act.put, List.setIfInBounds_toArray, List.set_cons_zero, List.set_cons_succ])
          refine wpAnyH_take (i := 5) (v := .int .i64 d.room) rfl (by kernel_rfl) (by kernel_rfl) (by kernel_rfl) (fun _ _ _ h => h) (Or.inl ⟨by rfl, fun wS hSw => ?_⟩) (by assumption) ?_
          · (try dsimp only at hSw); have c0 := ((unhide K).below hSw).cell 0; have c1 := ((unhide K).below hSw).cell 1; have c2 := ((unhide K).below hSw).cell 2; have c3 := ((unhide K).below hSw).cell 3; have c4 := ((unhide K).below hSw).cell 4; simp only [List.getElem?_toArray, List.getElem?_cons_succ, List.getElem?_cons_zero] at c0 c1 c2 c3 c4; go_simp
          (try simp only [Act.put, List.setIfInBounds_toArray, List.set_cons_zero, List.set_cons_succ])
          refine wpAnyH_ready (rs := [6]) (by kernel_rfl) (by simp) ?_
          refine AllReadyH.cons rfl (fun K hK => ?_) AllReadyH.nil
          have hB : Below w2.heap.size w2 _ := hHeld
          go_simp
          refine (unhide HUS _ ((unhide R0).below hB)).mono ?_
          rintro e w5 ⟨rfl, b5⟩
          have h5 : Below w2.heap.size w2 w5 := belows hB b5
          clear b5 hB
          go_wp2_with fail
          refine hK.out _ _ ?_ (fun hHeld => ?_)
          · exact h5
          clear hK K
          (try simp only [Act.put, List.setIfInBounds_toArray, List.set_cons_zero, List.set_cons_succ])
          refine wpAnyH_take (i := 7) (v := .int .i64 rm) rfl (by kernel_rfl) (by kernel_rfl) (by kernel_rfl) (fun _ _ _ h => h) (Or.inl ⟨by rfl, fun wS hSw => ?_⟩) (by assumption) ?_
          · (try dsimp only at hSw); go_simp
          (try simp only [Act.put, List.setIfInBounds_toArray, List.set_cons_zero, List.set_cons_succ])
          refine wpAnyH_ready (rs := [8]) (by kernel_rfl) (by simp) ?_
          refine AllReadyH.cons rfl (fun K hK => ?_) AllReadyH.nil
          go_simp
          refine hK.out _ _ ?_ (fun hHeld => ?_)
          · exact hHeld
          clear hK K
          (try simp only [Act.put, List.setIfInBounds_toArray, List.set_cons_zero, List.set_cons_succ])
          refine wpAnyH_done (by kernel_rfl) ?_ _
          clear hHeld
          have KN := hide ((unhide K).below h5)
          have ZN := hide ((unhide Z).below h5)
          have RN := hide ((unhide R0).below h5)
          have BN := hide (belows (unhide B) h5)
          clear K Z R0 B
          have K := KN
          have Z := ZN
          have R0 := RN
          have B := BN
          clear KN ZN RN BN
          clear h5 bD HUS
          go_wp2
          go_loopw [11, 13, 45] (fun x y z wr => ∃ (k : Nat) (A : ByteArray), x = .string A ∧ z = .int .i64 (k : Int) ∧ k ≤ sn ∧ (A.size : Int) ≤ rm ∧ Hid (A = ⟨(flatB (data.take k)).toArray⟩) ∧ wr = w5) (fun _ _ z _ => sn - (intOf z).toNat)
          case atStart => exact ⟨0, { data := #[] }, rfl, rfl, Nat.zero_le _, by show ((0 : Nat) : Int) ≤ rm; omega, hide (by simp [flatB]), rfl⟩
          case round =>
            obtain ⟨k, A, rfl, rfl, hk, hA, HA, hwr5⟩ := hrel
            subst hwr5
            by_cases hlt : k < sn
            · have hlt1 : (k : Int) < (sn : Int) := by omega
              have hkl : k < data.length := by have := unhide HT; omega
              obtain ⟨b, off, rfl, hb, hcl⟩ : ∃ b off, sa = some ⟨b, off, none⟩ ∧ b < w.heap.size ∧ ∀ j (h : j < data.length), w.cell? ⟨b, off + j, none⟩ = some (.string data[j]) := by
                rcases unhide HSC with h0 | h0
                · rw [h0] at hkl; simp at hkl
                · exact h0
              have y0 := ((unhide B).cell (p := ⟨b, off + k, none⟩) hb).trans (hcl k hkl)
              have hz := unhide HSZ _ (List.getElem_mem hkl)
              have hAs := flat_size (unhide HA)
              have ht1 := total_take hkl
              have ht2 := total_le data (k + 1)
              have HA2 := hide (join_next hkl (unhide HA))
              have hle : ¬ (data[k].size : Int) > rm - (A.size : Int) := by have := unhide HFT; have := unhide HRM; omega
              clear hcl hAs ht1 ht2 HA
              generalize data[k] = s0 at *
              have d1 : decide ((s0.size : Int) > rm - (A.size : Int)) = false := decide_eq_false (by omega)
              have d1b : ¬ (s0.size : Int) > rm - (A.size : Int) := by omega
              have hsm : A.size + s0.size ≤ 16777216 := by omega
              have hsz : (A ++ s0).size = A.size + s0.size := ByteArray.size_append
              have HS2 := hide hsz
              clear hsz
              go_wp2
              exact ⟨⟨k + 1, A ++ s0, rfl, by go_num, by omega, by rw [unhide HS2]; omega, HA2, trivial⟩, by simp [intOf]; omega⟩
            · have hke : k = sn := by omega
              have htl : data.take k = data := by rw [hke, unhide HT]; simp
              have hAs := flat_size (unhide HA)
              have ha := unhide HA
              rw [htl] at hAs ha
              have HAD := hide ha
              have hlt1 : ¬ (k : Int) < (sn : Int) := by omega
              have hA24 : A.size ≤ 16777216 := by omega
              clear htl hAs ha HA hke
              have c0 := (unhide K).cell 0
              have c1 := (unhide K).cell 1
              have c2 := (unhide K).cell 2
              have c3 := (unhide K).cell 3
              have c4 := (unhide K).cell 4
              simp only [List.getElem?_toArray, List.getElem?_cons_succ, List.getElem?_cons_zero] at c0 c1 c2 c3 c4
              go_wp2_with fail
              clear c0 c1 c2 c3 c4
              refine (unhide HAK _ (unhide R0)).mono ?_
              rintro e w3 ⟨v3, rfl, own3, b3⟩
              have hs3 := b3.size
              have hsb := (unhide B).size
              have hz3 : w.heap.size + 1 < w3.heap.size := Nat.lt_of_lt_of_le (unhide Z).lt b3.size
              have HJ := hide (joined_is d.files[ix].data data A (unhide HAD))
              obtain ⟨g, cap3, hv3, hgb, hgl, hcel, hfrz⟩ := own_at3 own3 (by have := unhide HN; omega) hixl
              subst hv3
              have bal : Below w3.heap.size w3 (w3.alloc (Obj.cells #[.int .i64 xx.room, .slice (some ⟨g, 0, none⟩) N cap3, .int .i64 xx.fuse, .int .i64 xx.fault, .bool xx.down] 24)) := (Below.refl _ _).alloc (Nat.le_refl _) _
              have KX := hide (Blk.new w3 24 #[.int .i64 xx.room, .slice (some ⟨g, 0, none⟩) N cap3, .int .i64 xx.fuse, .int .i64 xx.fault, .bool xx.down])
              have KN := hide ((unhide K).below b3)
              have ZN := hide ((unhide Z).below b3)
              have RN := hide ((unhide R0).below b3)
              have BN := hide (belows (unhide B) b3)
              clear K Z R0 B
              have K := KN
              have Z := ZN
              have R0 := RN
              have B := BN
              clear KN ZN RN BN
              have KN := hide ((unhide K).below bal)
              have ZN := hide ((unhide Z).below bal)
              have RN := hide ((unhide R0).below bal)
              have BN := hide (belows (unhide B) bal)
              clear K Z R0 B
              have K := KN
              have Z := ZN
              have R0 := RN
              have B := BN
              clear KN ZN RN BN
              have ownX := own_below own3 bal
              have c1g : (w3.alloc (Obj.cells #[.int .i64 xx.room, .slice (some ⟨g, 0, none⟩) N cap3, .int .i64 xx.fuse, .int .i64 xx.fault, .bool xx.down] 24)).cell? ⟨g, ix * 3 + 1, none⟩ = some (.string d.files[ix].data) := (bal.cell (p := ⟨g, ix * 3 + 1, none⟩) hgl).trans hcel.2.1
              have fzg : (w3.alloc (Obj.cells #[.int .i64 xx.room, .slice (some ⟨g, 0, none⟩) N cap3, .int .i64 xx.fuse, .int .i64 xx.fault, .bool xx.down] 24)).frozen? ⟨g, ix * 3 + 1, none⟩ = false := (bal.frozen (p := ⟨g, ix * 3 + 1, none⟩) hgl).trans (hfrz _)
              have hng : g ≠ w3.heap.size := by omega
              have hnz : w.heap.size + 1 ≠ g := blkz_ne (unhide Z) (own_heap ownX) (by decide)
              have KY : Hid (Blk ((w3.alloc (Obj.cells #[.int .i64 xx.room, .slice (some ⟨g, 0, none⟩) N cap3, .int .i64 xx.fuse, .int .i64 xx.fault, .bool xx.down] 24)).setCell ⟨g, ix * 3 + 1, none⟩ (.string (d.files[ix].data ++ A))) w3.heap.size 24 #[.int .i64 xx.room, .slice (some ⟨g, 0, none⟩) N cap3, .int .i64 xx.fuse, .int .i64 xx.fault, .bool xx.down]) := hide (blk_far (b := g) (i := ix * 3 + 1) (unhide KX) (fun e => hng e.symm) _)
              have ZY := hide (blk_far (b := g) (i := ix * 3 + 1) (unhide Z) hnz (.string (d.files[ix].data ++ A)))
              have BY := hide ((unhide B).setCell (p := ⟨g, ix * 3 + 1, none⟩) (show w.heap.size ≤ g by omega) (.string (d.files[ix].data ++ A)))
              have RY : Hid (RowF ((w3.alloc (Obj.cells #[.int .i64 xx.room, .slice (some ⟨g, 0, none⟩) N cap3, .int .i64 xx.fuse, .int .i64 xx.fault, .bool xx.down] 24)).setCell ⟨g, ix * 3 + 1, none⟩ (.string (d.files[ix].data ++ A))) (.slice (some ⟨g, 0, none⟩) N cap3) (d.files.set ix (putF data d.files[ix]))) := hide (by
                have hs := (ownX.stored (ix * 3 + 1) (.string (d.files[ix].data ++ A))).1
                rw [flatF_set1 d.files ix hixl (putF data d.files[ix]) 1 (.string (d.files[ix].data ++ A)) (by omega) (by rw [unhide HJ]; rfl)] at hs
                exact rowF_of_own (l := d.files.set ix (putF data d.files[ix])) (by rw [List.length_set, unhide HN]; exact hs) (by rw [List.length_set]; have := unhide HN; omega) (unhide HFE))
              have x1 := (unhide KX).cell 1
              simp only [List.getElem?_toArray, List.getElem?_cons_succ, List.getElem?_cons_zero] at x1
              generalize hdz : d.files[ix].data = dt at c1g KY ZY BY RY hdt
              have hsm : dt.size + A.size ≤ 33554432 := by omega
              clear hdz bal b3 own3 ownX HAK hcel hfrz HJ
              go_upto_region 18 with (fail)
              generalize (w3.alloc (Obj.cells #[.int .i64 xx.room, .slice (some ⟨g, 0, none⟩) N cap3, .int .i64 xx.fuse, .int .i64 xx.fault, .bool xx.down] 24)) = X at *
              clear R0 K Z B
              go_upto_region 19 with (fail)
              generalize (X.setCell ⟨g, ix * 3 + 1, none⟩ (.string (dt ++ A))) = Y at *
              clear x1 c1g fzg
              have Z := ZY
              have B := BY
              clear ZY BY
              have x0 := (unhide KY).cell 0
              have x1 := (unhide KY).cell 1
              have x2 := (unhide KY).cell 2
              have x3 := (unhide KY).cell 3
              have x4 := (unhide KY).cell 4
              simp only [List.getElem?_toArray, List.getElem?_cons_succ, List.getElem?_cons_zero] at x0 x1 x2 x3 x4
              have e0 := (unhide Z).cell 0
              have e1 := (unhide Z).cell 1
              have e2 := (unhide Z).cell 2
              have e3 := (unhide Z).cell 3
              have e4 := (unhide Z).cell 4
              simp only [List.getElem?_toArray, List.getElem?_cons_succ, List.getElem?_cons_zero] at e0 e1 e2 e3 e4
              have f0 := (unhide Z).frozen 0
              have f1 := (unhide Z).frozen 1
              have f2 := (unhide Z).frozen 2
              have f3 := (unhide Z).frozen 3
              have f4 := (unhide Z).frozen 4
              have RB := hide (below5 (s := w.heap.size + 1) (unhide B) (by omega))
              have RR := hide (rowF5 (unhide RY) (unhide Z) (by intro i x; match i with | 0 | 1 | 2 | 3 | 4 => simp | i + 5 => simp))
              go_wp2
              (try simp only [Exit.inBlock, Exit.then])
              refine bodyPost_ret (v := .tuple #[.agg #[.int .i64 xx.room, .slice (some ⟨g, 0, none⟩) N cap3, .int .i64 xx.fuse, .int .i64 xx.fault, .bool xx.down], .int .i64 n3]) ?_ rfl ⟨_, rfl, unhide RR _ _ _ _ _, unhide RB _ _ _ _ _⟩
              rw [results_cell_tmp rfl]
              go_simp
      · have HNF := hide hft
        have hc : appendC data ix d = (d, 8) := by unfold appendC; rw [if_neg hft]
        rw [hc]
        clear hc hft HAK
        go_enter Try.func22, Try.ntmps22
        go_wp2_with fail
        refine (unhide HPW _ (unhide R0)).mono ?_
        rintro e w1 ⟨rfl, b1⟩
        have KN := hide ((unhide K).below b1)
        have ZN := hide ((unhide Z).below b1)
        have RN := hide ((unhide R0).below b1)
        have BN := hide (belows (unhide B) b1)
        clear K Z R0 B
        have K := KN
        have Z := ZN
        have R0 := RN
        have B := BN
        clear KN ZN RN BN
        clear b1 HPW
        have c0 := (unhide K).cell 0
        have c1 := (unhide K).cell 1
        have c2 := (unhide K).cell 2
        have c3 := (unhide K).cell 3
        have c4 := (unhide K).cell 4
        simp only [List.getElem?_toArray, List.getElem?_cons_succ, List.getElem?_cons_zero] at c0 c1 c2 c3 c4
        go_wp2_with fail
        clear c0 c1 c2 c3 c4
        refine (unhide HFD n _ (unhide HRI) (unhide R0)).mono ?_
        rintro e w2 ⟨rfl, b2⟩
        have KN := hide ((unhide K).below b2)
        have ZN := hide ((unhide Z).below b2)
        have RN := hide ((unhide R0).below b2)
        have BN := hide (belows (unhide B) b2)
        clear K Z R0 B
        have K := KN
        have Z := ZN
        have R0 := RN
        have B := BN
        clear KN ZN RN BN
        clear b2
        have c0 := (unhide K).cell 0
        have c1 := (unhide K).cell 1
        have c2 := (unhide K).cell 2
        have c3 := (unhide K).cell 3
        have c4 := (unhide K).cell 4
        simp only [List.getElem?_toArray, List.getElem?_cons_succ, List.getElem?_cons_zero] at c0 c1 c2 c3 c4
        go_upto_region 7 with (fail)
        clear c0 c1 c2 c3 c4
        have bD : Below w2.heap.size w2 w2.drew := below_dr1 (Below.refl _ _)
        refine wp_region_held_drew (S := fun w' => Below w2.heap.size w2 w') (by kernel_rfl) ?_ (fun hHeld => ?_)
        · exact bD
        refine wpAnyH_take (i := 0) (v := .pointer (some ⟨w.heap.size, 0, none⟩)) rfl (by kernel_rfl) (by kernel_rfl) (by kernel_rfl) (fun _ _ _ h => h) (Or.inl ⟨by rfl, fun wS hSw => ?_⟩) (by assumption) ?_
        · (try dsimp only at hSw); go_simp
        (try simp only [Act.put, List.setIfInBounds_toArray, List.set_cons_zero, List.set_cons_succ])
        refine wpAnyH_take (i := 1) (v := .int .i64 d.room) rfl (by kernel_rfl) (by kernel_rfl) (by kernel_rfl) (fun _ _ _ h => h) (Or.inl ⟨by rfl, fun wS hSw => ?_⟩) (by assumption) ?_
        · (try dsimp only at hSw); have c0 := ((unhide K).below hSw).cell 0; have c1 := ((unhide K).below hSw).cell 1; have c2 := ((unhide K).below hSw).cell 2; have c3 := ((unhide K).below hSw).cell 3; have c4 := ((unhide K).below hSw).cell 4; simp only [List.getElem?_toArray, List.getElem?_cons_succ, List.getElem?_cons_zero] at c0 c1 c2 c3 c4; go_simp
        (try simp only [Act.put, List.setIfInBounds_toArray, List.set_cons_zero, List.set_cons_succ])
        refine wpAnyH_take (i := 2) (v := .pointer (some ⟨w.heap.size, 1, none⟩)) rfl (by kernel_rfl) (by kernel_rfl) (by kernel_rfl) (fun _ _ _ h => h) (Or.inl ⟨by rfl, fun wS hSw => ?_⟩) (by assumption) ?_
        · (try dsimp only at hSw); go_simp
        (try simp only [Act.put, List.setIfInBounds_toArray, List.set_cons_zero, List.set_cons_succ])
        refine wpAnyH_take (i := 3) (v := .slice a N cap) rfl (by kernel_rfl) (by kernel_rfl) (by kernel_rfl) (fun _ _ _ h => h) (Or.inl ⟨by rfl, fun wS hSw => ?_⟩) (by assumption) ?_
        · (try dsimp only at hSw); have c0 := ((unhide K).below hSw).cell 0; have c1 := ((unhide K).below hSw).cell 1; have c2 := ((unhide K).below hSw).cell 2; have c3 := ((unhide K).below hSw).cell 3; have c4 := ((unhide K).below hSw).cell 4; simp only [List.getElem?_toArray, List.getElem?_cons_succ, List.getElem?_cons_zero] at c0 c1 c2 c3 c4; go_simp
        (try simp only [Act.put, List.setIfInBounds_toArray, List.set_cons_zero, List.set_cons_succ])
        refine wpAnyH_take (i := 4) (v := .pointer (some ⟨w.heap.size, 0, none⟩)) rfl (by kernel_rfl) (by kernel_rfl) (by kernel_rfl) (fun _ _ _ h => h) (Or.inl ⟨by rfl, fun wS hSw => ?_⟩) (by assumption) ?_
        · (try dsimp only at hSw); go_simp
        (try simp only [Act.put, List.setIfInBounds_toArray, List.set_cons_zero, List.set_cons_succ])
        refine wpAnyH_take (i := 5) (v := .int .i64 d.room) rfl (by kernel_rfl) (by kernel_rfl) (by kernel_rfl) (fun _ _ _ h => h) (Or.inl ⟨by rfl, fun wS hSw => ?_⟩) (by assumption) ?_
        · (try dsimp only at hSw); have c0 := ((unhide K).below hSw).cell 0; have c1 := ((unhide K).below hSw).cell 1; have c2 := ((unhide K).below hSw).cell 2; have c3 := ((unhide K).below hSw).cell 3; have c4 := ((unhide K).below hSw).cell 4; simp only [List.getElem?_toArray, List.getElem?_cons_succ, List.getElem?_cons_zero] at c0 c1 c2 c3 c4; go_simp
        (try simp only [Act.put, List.setIfInBounds_toArray, List.set_cons_zero, List.set_cons_succ])
        refine wpAnyH_ready (rs := [6]) (by kernel_rfl) (by simp) ?_
        refine AllReadyH.cons rfl (fun K hK => ?_) AllReadyH.nil
        have hB : Below w2.heap.size w2 _ := hHeld
        go_simp
        refine (unhide HUS _ ((unhide R0).below hB)).mono ?_
        rintro e w5 ⟨rfl, b5⟩
        have h5 : Below w2.heap.size w2 w5 := belows hB b5
        clear b5 hB
        go_wp2_with fail
        refine hK.out _ _ ?_ (fun hHeld => ?_)
        · exact h5
        clear hK K
        (try simp only [Act.put, List.setIfInBounds_toArray, List.set_cons_zero, List.set_cons_succ])
        refine wpAnyH_take (i := 7) (v := .int .i64 rm) rfl (by kernel_rfl) (by kernel_rfl) (by kernel_rfl) (fun _ _ _ h => h) (Or.inl ⟨by rfl, fun wS hSw => ?_⟩) (by assumption) ?_
        · (try dsimp only at hSw); go_simp
        (try simp only [Act.put, List.setIfInBounds_toArray, List.set_cons_zero, List.set_cons_succ])
        refine wpAnyH_ready (rs := [8]) (by kernel_rfl) (by simp) ?_
        refine AllReadyH.cons rfl (fun K hK => ?_) AllReadyH.nil
        go_simp
        refine hK.out _ _ ?_ (fun hHeld => ?_)
        · exact hHeld
        clear hK K
        (try simp only [Act.put, List.setIfInBounds_toArray, List.set_cons_zero, List.set_cons_succ])
        refine wpAnyH_done (by kernel_rfl) ?_ _
        clear hHeld
        have KN := hide ((unhide K).below h5)
        have ZN := hide ((unhide Z).below h5)
        have RN := hide ((unhide R0).below h5)
        have BN := hide (belows (unhide B) h5)
        clear K Z R0 B
        have K := KN
        have Z := ZN
        have R0 := RN
        have B := BN
        clear KN ZN RN BN
        clear h5 bD HUS
        go_wp2
        go_loopw [11, 13, 45] (fun x y z wr => ∃ (k : Nat) (A : ByteArray), x = .string A ∧ z = .int .i64 (k : Int) ∧ k ≤ sn ∧ (A.size : Int) ≤ rm ∧ Hid (A = ⟨(flatB (data.take k)).toArray⟩) ∧ wr = w5) (fun _ _ z _ => sn - (intOf z).toNat)
        case atStart => exact ⟨0, { data := #[] }, rfl, rfl, Nat.zero_le _, by show ((0 : Nat) : Int) ≤ rm; omega, hide (by simp [flatB]), rfl⟩
        case round =>
          obtain ⟨k, A, rfl, rfl, hk, hA, HA, hwr5⟩ := hrel
          subst hwr5
          by_cases hlt : k < sn
          · have hlt1 : (k : Int) < (sn : Int) := by omega
            have hkl : k < data.length := by have := unhide HT; omega
            obtain ⟨b, off, rfl, hb, hcl⟩ : ∃ b off, sa = some ⟨b, off, none⟩ ∧ b < w.heap.size ∧ ∀ j (h : j < data.length), w.cell? ⟨b, off + j, none⟩ = some (.string data[j]) := by
              rcases unhide HSC with h0 | h0
              · rw [h0] at hkl; simp at hkl
              · exact h0
            have y0 := ((unhide B).cell (p := ⟨b, off + k, none⟩) hb).trans (hcl k hkl)
            have hz := unhide HSZ _ (List.getElem_mem hkl)
            have hAs := flat_size (unhide HA)
            have ht1 := total_take hkl
            have ht2 := total_le data (k + 1)
            have HA2 := hide (join_next hkl (unhide HA))
            by_cases hbig : (data[k].size : Int) > rm - (A.size : Int)
            · clear hcl hAs ht1 ht2 HA
              generalize data[k] = s0 at *
              have d1 : decide ((s0.size : Int) > rm - (A.size : Int)) = true := decide_eq_true hbig
              have c0 := (unhide K).cell 0
              have c1 := (unhide K).cell 1
              have c2 := (unhide K).cell 2
              have c3 := (unhide K).cell 3
              have c4 := (unhide K).cell 4
              simp only [List.getElem?_toArray, List.getElem?_cons_succ, List.getElem?_cons_zero] at c0 c1 c2 c3 c4
              go_wp2_with fail
              clear c0 c1 c2 c3 c4
              refine (unhide HAS 8 _ (unhide R0)).mono ?_
              rintro e w9 ⟨v9, rfl, r9, _, b9⟩
              have KN := hide ((unhide K).below b9)
              have ZN := hide ((unhide Z).below b9)
              have RN := hide ((unhide R0).below b9)
              have BN := hide (belows (unhide B) b9)
              clear K Z R0 B
              have K := KN
              have Z := ZN
              have R0 := RN
              have B := BN
              clear KN ZN RN BN
              simp only [show ¬ (8 : Nat) = 2 by omega, if_false] at r9 ⊢
              obtain ⟨a9, cap9, hv9, _⟩ := id r9
              subst hv9
              rw [unhide HN] at r9 ⊢
              have R9 := hide r9
              clear r9 b9
              have e0 := (unhide Z).cell 0
              have e1 := (unhide Z).cell 1
              have e2 := (unhide Z).cell 2
              have e3 := (unhide Z).cell 3
              have e4 := (unhide Z).cell 4
              simp only [List.getElem?_toArray, List.getElem?_cons_succ, List.getElem?_cons_zero] at e0 e1 e2 e3 e4
              have f0 := (unhide Z).frozen 0
              have f1 := (unhide Z).frozen 1
              have f2 := (unhide Z).frozen 2
              have f3 := (unhide Z).frozen 3
              have f4 := (unhide Z).frozen 4
              have RB := hide (below5 (s := w.heap.size + 1) (unhide B) (by omega))
              have RR := hide (rowF5 (unhide R9) (unhide Z) (by intro i x; match i with | 0 | 1 | 2 | 3 | 4 => simp | i + 5 => simp))
              go_wp2
              (try simp only [Exit.inBlock, Exit.then])
              refine bodyPost_ret (v := .tuple #[.agg #[.int .i64 d.room, .slice a9 N cap9, .int .i64 d.fuse, .int .i64 d.fault, .bool d.down], .int .i64 8]) ?_ rfl ⟨_, rfl, unhide RR _ _ _ _ _, unhide RB _ _ _ _ _⟩
              rw [results_cell_tmp rfl]
              go_simp
            · clear hcl hAs ht1 ht2 HA
              generalize data[k] = s0 at *
              have d1 : decide ((s0.size : Int) > rm - (A.size : Int)) = false := decide_eq_false (by omega)
              have d1b : ¬ (s0.size : Int) > rm - (A.size : Int) := by omega
              have hsm : A.size + s0.size ≤ 16777216 := by omega
              have hsz : (A ++ s0).size = A.size + s0.size := ByteArray.size_append
              have HS2 := hide hsz
              clear hsz
              go_wp2
              exact ⟨⟨k + 1, A ++ s0, rfl, by go_num, by omega, by rw [unhide HS2]; omega, HA2, trivial⟩, by simp [intOf]; omega⟩
          · exfalso
            have hke : k = sn := by omega
            have htl : data.take k = data := by rw [hke, unhide HT]; simp
            have hAs := flat_size (unhide HA)
            rw [htl] at hAs
            have h1 := unhide HNF; have h2 := unhide HRM; omega
  · have hne : ready d ≠ 0 := hrdy
    have hres : appendR d n data = (if ready d = 2 then zeroFs else d, ready d) := work_bad _ hrdy
    rw [hres]
    have hc1 : (((ready d : Nat) : Int) == 0) = false := by simp; omega
    have hc2 : ¬ ((ready d : Nat) : Int) = 0 := by omega
    generalize ready d = rc at *
    have HA1 := hide (fun (X : World) hX => unhide HAS rc X hX)
    generalize (if rc = 2 then zeroFs else d) = x9 at HA1 ⊢
    clear hres hrdy hne HAS
    have HAS := hide (fun (_ : Nat) => unhide HA1)
    clear HA1
    go_enter Try.func22, Try.ntmps22
    go_wp2_with fail
    refine (unhide HPW _ (unhide R0)).mono ?_
    rintro e w1 ⟨rfl, b1⟩
    have KN := hide ((unhide K).below b1)
    have ZN := hide ((unhide Z).below b1)
    have RN := hide ((unhide R0).below b1)
    have BN := hide (belows (unhide B) b1)
    clear K Z R0 B
    have K := KN
    have Z := ZN
    have R0 := RN
    have B := BN
    clear KN ZN RN BN
    clear b1 HPW
    have c0 := (unhide K).cell 0
    have c1 := (unhide K).cell 1
    have c2 := (unhide K).cell 2
    have c3 := (unhide K).cell 3
    have c4 := (unhide K).cell 4
    simp only [List.getElem?_toArray, List.getElem?_cons_succ, List.getElem?_cons_zero] at c0 c1 c2 c3 c4
    go_wp2_with fail
    clear c0 c1 c2 c3 c4
    refine (unhide HAS rc _ (unhide R0)).mono ?_
    rintro e w9 ⟨v9, rfl, r9, _, b9⟩
    have KN := hide ((unhide K).below b9)
    have ZN := hide ((unhide Z).below b9)
    have RN := hide ((unhide R0).below b9)
    have BN := hide (belows (unhide B) b9)
    clear K Z R0 B
    have K := KN
    have Z := ZN
    have R0 := RN
    have B := BN
    clear KN ZN RN BN
    obtain ⟨a9, cap9, hv9, _⟩ := id r9
    subst hv9
    have R9 := hide r9
    clear r9 b9
    have e0 := (unhide Z).cell 0
    have e1 := (unhide Z).cell 1
    have e2 := (unhide Z).cell 2
    have e3 := (unhide Z).cell 3
    have e4 := (unhide Z).cell 4
    simp only [List.getElem?_toArray, List.getElem?_cons_succ, List.getElem?_cons_zero] at e0 e1 e2 e3 e4
    have f0 := (unhide Z).frozen 0
    have f1 := (unhide Z).frozen 1
    have f2 := (unhide Z).frozen 2
    have f3 := (unhide Z).frozen 3
    have f4 := (unhide Z).frozen 4
    have RB := hide (below5 (s := w.heap.size + 1) (unhide B) (by omega))
    have RR := hide (rowF5 (unhide R9) (unhide Z) (by intro i x; match i with | 0 | 1 | 2 | 3 | 4 => simp | i + 5 => simp))
    go_wp2
    (try simp only [Exit.inBlock, Exit.then])
    refine bodyPost_ret (v := .tuple #[.agg #[.int .i64 x9.room, .slice a9 x9.files.length cap9, .int .i64 x9.fuse, .int .i64 x9.fault, .bool x9.down], .int .i64 rc]) ?_ rfl ⟨_, rfl, unhide RR _ _ _ _ _, unhide RB _ _ _ _ _⟩
    rw [results_cell_tmp rfl]
    go_simp
end Go.Proofs.Ytmfkhbofmaonkaa
