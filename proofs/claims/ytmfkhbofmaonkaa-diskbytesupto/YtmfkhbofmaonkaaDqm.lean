/-
  What the document's Cut does (missiveref04), over this seat's program.
-/
import Derived.Test.YtmfkhbofmaonkaaDqi
import Derived.Test.YtmfkhbofmaonkaaDqj
set_option linter.unusedVariables false
set_option linter.unusedSimpArgs false
namespace Go.Proofs.Ytmfkhbofmaonkaa
open Go.RowKit Go.Proofs.Dsk

set_option maxHeartbeats 8000000 in
set_option maxRecDepth 100000 in
theorem refCut_any (d : Fs) (v : Value) (n : ByteArray) (m : Int) (w : World) (hfit : FitAll d) (h : RowF w v d.files) (hnt : NeatF v) (hl : d.files.length ≤ 1048576) (hm1 : -9223372036854775808 ≤ m) (hm2 : m ≤ 9223372036854775807) :
    Calls Try.prog 26 #[fsV d v, .string n, .int .i64 m] w fun e w' => ∃ v', e = .returned (.tuple #[fsV (cutR d n m).1 v', .int .i64 (cutR d n m).2]) ∧ RowF w' v' (cutR d n m).1.files ∧ Below w.heap.size w w' := by
  have HPW := hide (fun (X : World) (hX : RowF X v d.files) => refPower_any d v X hfit.1 hX)
  have HAS := hide (fun (c : Nat) (X : World) (hX : RowF X v d.files) => refAs_any d v c X hfit hX hnt hl)
  have HCP := hide (fun (X : World) (hX : RowF X v d.files) => refCopy_any d v X hX hnt hl)
  have HAK := hide (fun (X : World) (hX : RowF X v d.files) => refAsks_any d v X hfit hX hnt hl)
  have HFD := hide (fun (n : ByteArray) (X : World) (hr : Rise d.files) (hX : RowF X v d.files) => refFind_any d.files v n X hr hX)
  have HFF := hide hfit.2.1
  obtain ⟨a, cap, hv, h63, _, hc⟩ := id h
  subst hv
  have HC := hide hc
  clear hc
  obtain ⟨N, hN⟩ : ∃ N, d.files.length = N := ⟨_, rfl⟩
  have HN := hide hN
  rw [hN] at h hnt h63 HPW HAS HAK HCP HFD hl ⊢
  have hb2 : Below w.heap.size w ((w.alloc (Obj.cells #[.int .i64 d.room, .slice a N cap, .int .i64 d.fuse, .int .i64 d.fault, .bool d.down] 24)).alloc (Obj.cells #[.int .i64 0, .slice none 0 0, .int .i64 0, .int .i64 0, .bool false] 24)) := ((Below.refl _ w).alloc (Nat.le_refl _) _).alloc (by simp) _
  have k0 : Blk ((w.alloc (Obj.cells #[.int .i64 d.room, .slice a N cap, .int .i64 d.fuse, .int .i64 d.fault, .bool d.down] 24)).alloc (Obj.cells #[.int .i64 0, .slice none 0 0, .int .i64 0, .int .i64 0, .bool false] 24)) w.heap.size 24 #[.int .i64 d.room, .slice a N cap, .int .i64 d.fuse, .int .i64 d.fault, .bool d.down] := (Blk.new w _ _).below ((Below.refl _ _).alloc (Nat.le_refl _) _)
  have k1 := Blk.new (w.alloc (Obj.cells #[.int .i64 d.room, .slice a N cap, .int .i64 d.fuse, .int .i64 d.fault, .bool d.down] 24)) 24 #[.int .i64 0, .slice none 0 0, .int .i64 0, .int .i64 0, .bool false]
  simp only [World.size_alloc] at k1
  have K := hide k0
  have Z := hide k1
  have R0 := hide (h.below hb2)
  have B := hide hb2
  clear k0 k1 hb2 hN h hnt hfit
  simp only [fsV] at HPW HAS HAK HCP ⊢
  by_cases hrdy : ready d = 0
  · obtain ⟨hr, hdn⟩ := ready_zero hrdy
    rw [hrdy] at HPW
    have HRI := hide (right_parts hr).2.2.2
    have hres : cutR d n m = onR n (cutC m) d := work_good2 _ hr hdn
    rw [hres]
    clear hres hrdy hdn HAK
    cases hh : has d.files n with
    | false =>
      have hon : onR n (cutC m) d = (d, 3) := by unfold onR; rw [if_neg (by simp [hh])]
      rw [hon]
      have HF2 := hide (unhide HFD n)
      simp only [hh, Bool.false_eq_true, if_false] at HF2
      clear HFD hon hh
      have HFD := hide (fun (_ : ByteArray) => unhide HF2)
      clear HF2
      go_enter Try.func26, Try.ntmps26
      go_wp2_with fail
      refine (unhide HPW _ (unhide R0)).mono ?_
      rintro e w1 ⟨rfl, b1⟩
      have KN := hide ((unhide K).below b1)
      have ZN := hide ((unhide Z).below b1)
      have RN := hide ((unhide R0).below b1)
      have BN := hide (belows (unhide B) b1)
      clear K Z R0 B
      have K := KN
      have Z := ZN
      have R0 := RN
      have B := BN
      clear KN ZN RN BN
      clear b1 HPW
      have c0 := (unhide K).cell 0
      have c1 := (unhide K).cell 1
      have c2 := (unhide K).cell 2
      have c3 := (unhide K).cell 3
      have c4 := (unhide K).cell 4
      simp only [List.getElem?_toArray, List.getElem?_cons_succ, List.getElem?_cons_zero] at c0 c1 c2 c3 c4
      go_wp2_with fail
      clear c0 c1 c2 c3 c4
      refine (unhide HFD n _ (unhide HRI) (unhide R0)).mono ?_
      rintro e w2 ⟨rfl, b2⟩
      have KN := hide ((unhide K).below b2)
      have ZN := hide ((unhide Z).below b2)
      have RN := hide ((unhide R0).below b2)
      have BN := hide (belows (unhide B) b2)
      clear K Z R0 B
      have K := KN
      have Z := ZN
      have R0 := RN
      have B := BN
      clear KN ZN RN BN
      clear b2
      have c0 := (unhide K).cell 0
      have c1 := (unhide K).cell 1
      have c2 := (unhide K).cell 2
      have c3 := (unhide K).cell 3
      have c4 := (unhide K).cell 4
      simp only [List.getElem?_toArray, List.getElem?_cons_succ, List.getElem?_cons_zero] at c0 c1 c2 c3 c4
      go_wp2_with fail
      clear c0 c1 c2 c3 c4
      refine (unhide HAS 3 _ (unhide R0)).mono ?_
      rintro e w9 ⟨v9, rfl, r9, _, b9⟩
      have KN := hide ((unhide K).below b9)
      have ZN := hide ((unhide Z).below b9)
      have RN := hide ((unhide R0).below b9)
      have BN := hide (belows (unhide B) b9)
      clear K Z R0 B
      have K := KN
      have Z := ZN
      have R0 := RN
      have B := BN
      clear KN ZN RN BN
      simp only [show ¬ (3 : Nat) = 2 by omega, if_false] at r9 ⊢
      obtain ⟨a9, cap9, hv9, _⟩ := id r9
      subst hv9
      rw [unhide HN] at r9 ⊢
      have R9 := hide r9
      clear r9 b9
      have e0 := (unhide Z).cell 0
      have e1 := (unhide Z).cell 1
      have e2 := (unhide Z).cell 2
      have e3 := (unhide Z).cell 3
      have e4 := (unhide Z).cell 4
      simp only [List.getElem?_toArray, List.getElem?_cons_succ, List.getElem?_cons_zero] at e0 e1 e2 e3 e4
      have f0 := (unhide Z).frozen 0
      have f1 := (unhide Z).frozen 1
      have f2 := (unhide Z).frozen 2
      have f3 := (unhide Z).frozen 3
      have f4 := (unhide Z).frozen 4
      have RB := hide (below5 (s := w.heap.size + 1) (unhide B) (by omega))
      have RR := hide (rowF5 (unhide R9) (unhide Z) (by intro i x; match i with | 0 | 1 | 2 | 3 | 4 => simp | i + 5 => simp))
      go_wp2
      (try simp only [Exit.inBlock, Exit.then])
      refine bodyPost_ret (v := .tuple #[.agg #[.int .i64 d.room, .slice a9 N cap9, .int .i64 d.fuse, .int .i64 d.fault, .bool d.down], .int .i64 3]) ?_ rfl ⟨_, rfl, unhide RR _ _ _ _ _, unhide RB _ _ _ _ _⟩
      rw [results_cell_tmp rfl]
      go_simp
    | true =>
      obtain ⟨hi, hnm⟩ := has_lb (unhide HRI) hh
      have hon : onR n (cutC m) d = (cutC m) (lb d.files n) d := by unfold onR; rw [if_pos hh]
      rw [hon]
      have HF2 := hide (unhide HFD n)
      simp only [hh, if_true] at HF2
      clear HFD hon hh
      have HFD := hide (fun (_ : ByteArray) => unhide HF2)
      clear HF2 hnm
      obtain ⟨ix, hix⟩ : ∃ ix, lb d.files n = ix := ⟨_, rfl⟩
      rw [hix] at HFD hi ⊢
      have hx0 : ¬ (ix : Int) < 0 := by omega
      have hxb : decide ((ix : Int) < 0) = false := decide_eq_false hx0
      have hixl := hi
      have hixN : ix < N := by have := unhide HN; omega
      have hixi : (ix : Int) < (N : Int) := by omega
      clear hix hi
      obtain ⟨b, off, rfl, hb, hcl⟩ : ∃ b off, a = some ⟨b, off, none⟩ ∧ b < w.heap.size ∧ ∀ j u, (flatF d.files)[j]? = some u → w.cell? ⟨b, off + j, none⟩ = some u := by
        rcases unhide HC with h0 | h0
        · rw [h0] at hixl; simp at hixl
        · exact h0
      obtain ⟨_, p1, _⟩ := row_cells hcl hixl
      clear hcl HC
      have hgb : d.files[ix]! = d.files[ix] := getElem!_pos d.files ix hixl
      have hdz := (unhide HFF _ (List.getElem_mem hixl)).2.1
      by_cases hneg : m < 0
      · have hc : cutC m ix d = (d, 1) := by unfold cutC; rw [if_pos (.inl hneg)]
        rw [hc]
        have d0 : decide (m < 0) = true := decide_eq_true hneg
        clear hc hgb
        go_enter Try.func26, Try.ntmps26
        go_wp2_with fail
        refine (unhide HPW _ (unhide R0)).mono ?_
        rintro e w1 ⟨rfl, b1⟩
        have KN := hide ((unhide K).below b1)
        have ZN := hide ((unhide Z).below b1)
        have RN := hide ((unhide R0).below b1)
        have BN := hide (belows (unhide B) b1)
        clear K Z R0 B
        have K := KN
        have Z := ZN
        have R0 := RN
        have B := BN
        clear KN ZN RN BN
        clear b1 HPW
        have c0 := (unhide K).cell 0
        have c1 := (unhide K).cell 1
        have c2 := (unhide K).cell 2
        have c3 := (unhide K).cell 3
        have c4 := (unhide K).cell 4
        simp only [List.getElem?_toArray, List.getElem?_cons_succ, List.getElem?_cons_zero] at c0 c1 c2 c3 c4
        go_wp2_with fail
        clear c0 c1 c2 c3 c4
        refine (unhide HFD n _ (unhide HRI) (unhide R0)).mono ?_
        rintro e w2 ⟨rfl, b2⟩
        have KN := hide ((unhide K).below b2)
        have ZN := hide ((unhide Z).below b2)
        have RN := hide ((unhide R0).below b2)
        have BN := hide (belows (unhide B) b2)
        clear K Z R0 B
        have K := KN
        have Z := ZN
        have R0 := RN
        have B := BN
        clear KN ZN RN BN
        clear b2
        have pd : w2.cell? ⟨b, off + ix * 3 + 1, none⟩ = some (.string d.files[ix].data) := ((unhide B).cell (p := ⟨b, off + ix * 3 + 1, none⟩) hb).trans p1
        have c0 := (unhide K).cell 0
        have c1 := (unhide K).cell 1
        have c2 := (unhide K).cell 2
        have c3 := (unhide K).cell 3
        have c4 := (unhide K).cell 4
        simp only [List.getElem?_toArray, List.getElem?_cons_succ, List.getElem?_cons_zero] at c0 c1 c2 c3 c4
        go_wp2_with fail
        clear c0 c1 c2 c3 c4
        refine (unhide HAS 1 _ (unhide R0)).mono ?_
        rintro e w9 ⟨v9, rfl, r9, _, b9⟩
        have KN := hide ((unhide K).below b9)
        have ZN := hide ((unhide Z).below b9)
        have RN := hide ((unhide R0).below b9)
        have BN := hide (belows (unhide B) b9)
        clear K Z R0 B
        have K := KN
        have Z := ZN
        have R0 := RN
        have B := BN
        clear KN ZN RN BN
        simp only [show ¬ (1 : Nat) = 2 by omega, if_false] at r9 ⊢
        obtain ⟨a9, cap9, hv9, _⟩ := id r9
        subst hv9
        rw [unhide HN] at r9 ⊢
        have R9 := hide r9
        clear r9 b9
        have e0 := (unhide Z).cell 0
        have e1 := (unhide Z).cell 1
        have e2 := (unhide Z).cell 2
        have e3 := (unhide Z).cell 3
        have e4 := (unhide Z).cell 4
        simp only [List.getElem?_toArray, List.getElem?_cons_succ, List.getElem?_cons_zero] at e0 e1 e2 e3 e4
        have f0 := (unhide Z).frozen 0
        have f1 := (unhide Z).frozen 1
        have f2 := (unhide Z).frozen 2
        have f3 := (unhide Z).frozen 3
        have f4 := (unhide Z).frozen 4
        have RB := hide (below5 (s := w.heap.size + 1) (unhide B) (by omega))
        have RR := hide (rowF5 (unhide R9) (unhide Z) (by intro i x; match i with | 0 | 1 | 2 | 3 | 4 => simp | i + 5 => simp))
        go_wp2
        (try simp only [Exit.inBlock, Exit.then])
        refine bodyPost_ret (v := .tuple #[.agg #[.int .i64 d.room, .slice a9 N cap9, .int .i64 d.fuse, .int .i64 d.fault, .bool d.down], .int .i64 1]) ?_ rfl ⟨_, rfl, unhide RR _ _ _ _ _, unhide RB _ _ _ _ _⟩
        rw [results_cell_tmp rfl]
        go_simp
      · have d0 : decide (m < 0) = false := decide_eq_false hneg
        by_cases hbg : (d.files[ix].data.size : Int) < m
        · have hc : cutC m ix d = (d, 1) := by unfold cutC; rw [if_pos (.inr (by rw [hgb]; exact hbg))]
          rw [hc]
          have d1 : decide (m > (d.files[ix].data.size : Int)) = true := decide_eq_true hbg
          have d1b : m > (d.files[ix].data.size : Int) := hbg
          clear hc hgb
          go_enter Try.func26, Try.ntmps26
          go_wp2_with fail
          refine (unhide HPW _ (unhide R0)).mono ?_
          rintro e w1 ⟨rfl, b1⟩
          have KN := hide ((unhide K).below b1)
          have ZN := hide ((unhide Z).below b1)
          have RN := hide ((unhide R0).below b1)
          have BN := hide (belows (unhide B) b1)
          clear K Z R0 B
          have K := KN
          have Z := ZN
          have R0 := RN
          have B := BN
          clear KN ZN RN BN
          clear b1 HPW
          have c0 := (unhide K).cell 0
          have c1 := (unhide K).cell 1
          have c2 := (unhide K).cell 2
          have c3 := (unhide K).cell 3
          have c4 := (unhide K).cell 4
          simp only [List.getElem?_toArray, List.getElem?_cons_succ, List.getElem?_cons_zero] at c0 c1 c2 c3 c4
          go_wp2_with fail
          clear c0 c1 c2 c3 c4
          refine (unhide HFD n _ (unhide HRI) (unhide R0)).mono ?_
          rintro e w2 ⟨rfl, b2⟩
          have KN := hide ((unhide K).below b2)
          have ZN := hide ((unhide Z).below b2)
          have RN := hide ((unhide R0).below b2)
          have BN := hide (belows (unhide B) b2)
          clear K Z R0 B
          have K := KN
          have Z := ZN
          have R0 := RN
          have B := BN
          clear KN ZN RN BN
          clear b2
          have pd : w2.cell? ⟨b, off + ix * 3 + 1, none⟩ = some (.string d.files[ix].data) := ((unhide B).cell (p := ⟨b, off + ix * 3 + 1, none⟩) hb).trans p1
          generalize d.files[ix].data = dt at *
          have c0 := (unhide K).cell 0
          have c1 := (unhide K).cell 1
          have c2 := (unhide K).cell 2
          have c3 := (unhide K).cell 3
          have c4 := (unhide K).cell 4
          simp only [List.getElem?_toArray, List.getElem?_cons_succ, List.getElem?_cons_zero] at c0 c1 c2 c3 c4
          go_wp2_with fail
          clear c0 c1 c2 c3 c4
          refine (unhide HAS 1 _ (unhide R0)).mono ?_
          rintro e w9 ⟨v9, rfl, r9, _, b9⟩
          have KN := hide ((unhide K).below b9)
          have ZN := hide ((unhide Z).below b9)
          have RN := hide ((unhide R0).below b9)
          have BN := hide (belows (unhide B) b9)
          clear K Z R0 B
          have K := KN
          have Z := ZN
          have R0 := RN
          have B := BN
          clear KN ZN RN BN
          simp only [show ¬ (1 : Nat) = 2 by omega, if_false] at r9 ⊢
          obtain ⟨a9, cap9, hv9, _⟩ := id r9
          subst hv9
          rw [unhide HN] at r9 ⊢
          have R9 := hide r9
          clear r9 b9
          have e0 := (unhide Z).cell 0
          have e1 := (unhide Z).cell 1
          have e2 := (unhide Z).cell 2
          have e3 := (unhide Z).cell 3
          have e4 := (unhide Z).cell 4
          simp only [List.getElem?_toArray, List.getElem?_cons_succ, List.getElem?_cons_zero] at e0 e1 e2 e3 e4
          have f0 := (unhide Z).frozen 0
          have f1 := (unhide Z).frozen 1
          have f2 := (unhide Z).frozen 2
          have f3 := (unhide Z).frozen 3
          have f4 := (unhide Z).frozen 4
          have RB := hide (below5 (s := w.heap.size + 1) (unhide B) (by omega))
          have RR := hide (rowF5 (unhide R9) (unhide Z) (by intro i x; match i with | 0 | 1 | 2 | 3 | 4 => simp | i + 5 => simp))
          go_wp2
          (try simp only [Exit.inBlock, Exit.then])
          refine bodyPost_ret (v := .tuple #[.agg #[.int .i64 d.room, .slice a9 N cap9, .int .i64 d.fuse, .int .i64 d.fault, .bool d.down], .int .i64 1]) ?_ rfl ⟨_, rfl, unhide RR _ _ _ _ _, unhide RB _ _ _ _ _⟩
          rw [results_cell_tmp rfl]
          go_simp
        · obtain ⟨mm, rfl⟩ : ∃ mm : Nat, m = (mm : Int) := ⟨m.toNat, by omega⟩
          have hc : cutC (mm : Int) ix d = (⟨d.room, d.files.set ix (cutF (mm : Int) d.files[ix]), d.fuse, d.fault, d.down⟩, 0) := by unfold cutC; rw [if_neg (by rw [hgb]; omega), modify_set hixl]
          rw [hc]
          have d1 : decide ((mm : Int) > (d.files[ix].data.size : Int)) = false := decide_eq_false hbg
          have d1b : ¬ (mm : Int) > (d.files[ix].data.size : Int) := hbg
          have d1c : decide (mm > d.files[ix].data.size) = false := decide_eq_false (by omega)
          have d1d : decide (d.files[ix].data.size < mm) = false := decide_eq_false (by omega)
          have HFE : Hid (∀ f ∈ d.files.set ix (cutF (mm : Int) d.files[ix]), Fits f) := hide (fun f hf => by
            rcases List.mem_or_eq_of_mem_set hf with h1 | h1
            · exact unhide HFF f h1
            · have hq := unhide HFF _ (List.getElem_mem hixl)
              rw [h1]
              exact ⟨hq.1, Nat.le_trans (extract_le _ _) hq.2.1, by show -9223372036854775808 ≤ min d.files[ix].synced (mm : Int); have := hq.2.2; omega, by show min d.files[ix].synced (mm : Int) ≤ 9223372036854775807; have := hq.2.2; omega⟩)
          clear hc hgb
          go_enter Try.func26, Try.ntmps26
          go_wp2_with fail
          refine (unhide HPW _ (unhide R0)).mono ?_
          rintro e w1 ⟨rfl, b1⟩
          have KN := hide ((unhide K).below b1)
          have ZN := hide ((unhide Z).below b1)
          have RN := hide ((unhide R0).below b1)
          have BN := hide (belows (unhide B) b1)
          clear K Z R0 B
          have K := KN
          have Z := ZN
          have R0 := RN
          have B := BN
          clear KN ZN RN BN
          clear b1 HPW
          have c0 := (unhide K).cell 0
          have c1 := (unhide K).cell 1
          have c2 := (unhide K).cell 2
          have c3 := (unhide K).cell 3
          have c4 := (unhide K).cell 4
          simp only [List.getElem?_toArray, List.getElem?_cons_succ, List.getElem?_cons_zero] at c0 c1 c2 c3 c4
          go_wp2_with fail
          clear c0 c1 c2 c3 c4
          refine (unhide HFD n _ (unhide HRI) (unhide R0)).mono ?_
          rintro e w2 ⟨rfl, b2⟩
          have KN := hide ((unhide K).below b2)
          have ZN := hide ((unhide Z).below b2)
          have RN := hide ((unhide R0).below b2)
          have BN := hide (belows (unhide B) b2)
          clear K Z R0 B
          have K := KN
          have Z := ZN
          have R0 := RN
          have B := BN
          clear KN ZN RN BN
          clear b2
          have pd : w2.cell? ⟨b, off + ix * 3 + 1, none⟩ = some (.string d.files[ix].data) := ((unhide B).cell (p := ⟨b, off + ix * 3 + 1, none⟩) hb).trans p1
          have c0 := (unhide K).cell 0
          have c1 := (unhide K).cell 1
          have c2 := (unhide K).cell 2
          have c3 := (unhide K).cell 3
          have c4 := (unhide K).cell 4
          simp only [List.getElem?_toArray, List.getElem?_cons_succ, List.getElem?_cons_zero] at c0 c1 c2 c3 c4
          go_wp2_with fail
          clear c0 c1 c2 c3 c4
          refine (unhide HCP _ (unhide R0)).mono ?_
          rintro e w3 ⟨v3, rfl, own3, b3⟩
          have hs3 := b3.size
          have hsb := (unhide B).size
          have hz3 : w.heap.size + 1 < w3.heap.size := Nat.lt_of_lt_of_le (unhide Z).lt b3.size
          obtain ⟨g, cap3, hv3, hgb, hgl, hcel, hfrz⟩ := own_at3 own3 (by have := unhide HN; omega) hixl
          subst hv3
          have bal : Below w3.heap.size w3 (w3.alloc (Obj.cells #[.int .i64 d.room, .slice (some ⟨g, 0, none⟩) N cap3, .int .i64 d.fuse, .int .i64 d.fault, .bool d.down] 24)) := (Below.refl _ _).alloc (Nat.le_refl _) _
          have KX := hide (Blk.new w3 24 #[.int .i64 d.room, .slice (some ⟨g, 0, none⟩) N cap3, .int .i64 d.fuse, .int .i64 d.fault, .bool d.down])
          have KN := hide ((unhide K).below b3)
          have ZN := hide ((unhide Z).below b3)
          have RN := hide ((unhide R0).below b3)
          have BN := hide (belows (unhide B) b3)
          clear K Z R0 B
          have K := KN
          have Z := ZN
          have R0 := RN
          have B := BN
          clear KN ZN RN BN
          have KN := hide ((unhide K).below bal)
          have ZN := hide ((unhide Z).below bal)
          have RN := hide ((unhide R0).below bal)
          have BN := hide (belows (unhide B) bal)
          clear K Z R0 B
          have K := KN
          have Z := ZN
          have R0 := RN
          have B := BN
          clear KN ZN RN BN
          have ownX := own_below own3 bal
          have c1g : (w3.alloc (Obj.cells #[.int .i64 d.room, .slice (some ⟨g, 0, none⟩) N cap3, .int .i64 d.fuse, .int .i64 d.fault, .bool d.down] 24)).cell? ⟨g, ix * 3 + 1, none⟩ = some (.string d.files[ix].data) := (bal.cell (p := ⟨g, ix * 3 + 1, none⟩) hgl).trans hcel.2.1
          have c2g : (w3.alloc (Obj.cells #[.int .i64 d.room, .slice (some ⟨g, 0, none⟩) N cap3, .int .i64 d.fuse, .int .i64 d.fault, .bool d.down] 24)).cell? ⟨g, ix * 3 + 2, none⟩ = some (.int .i64 d.files[ix].synced) := (bal.cell (p := ⟨g, ix * 3 + 2, none⟩) hgl).trans hcel.2.2
          have fz1 : (w3.alloc (Obj.cells #[.int .i64 d.room, .slice (some ⟨g, 0, none⟩) N cap3, .int .i64 d.fuse, .int .i64 d.fault, .bool d.down] 24)).frozen? ⟨g, ix * 3 + 1, none⟩ = false := (bal.frozen (p := ⟨g, ix * 3 + 1, none⟩) hgl).trans (hfrz _)
          have fz2 : (w3.alloc (Obj.cells #[.int .i64 d.room, .slice (some ⟨g, 0, none⟩) N cap3, .int .i64 d.fuse, .int .i64 d.fault, .bool d.down] 24)).frozen? ⟨g, ix * 3 + 2, none⟩ = false := (bal.frozen (p := ⟨g, ix * 3 + 2, none⟩) hgl).trans (hfrz _)
          have hng : g ≠ w3.heap.size := by omega
          have hnz : w.heap.size + 1 ≠ g := blkz_ne (unhide Z) (own_heap ownX) (by decide)
          have hwg : w.heap.size ≤ g := by omega
          have RY : Hid (RowF (((w3.alloc (Obj.cells #[.int .i64 d.room, .slice (some ⟨g, 0, none⟩) N cap3, .int .i64 d.fuse, .int .i64 d.fault, .bool d.down] 24)).setCell ⟨g, ix * 3 + 1, none⟩ (.string (d.files[ix].data.extract 0 mm))).setCell ⟨g, ix * 3 + 2, none⟩ (.int .i64 (min d.files[ix].synced (mm : Int)))) (.slice (some ⟨g, 0, none⟩) N cap3) (d.files.set ix (cutF (mm : Int) d.files[ix]))) := hide (by
            have hs := (ownX.stored (ix * 3 + 1) (.string (d.files[ix].data.extract 0 mm))).1
            rw [flatF_set1 d.files ix hixl { d.files[ix] with data := d.files[ix].data.extract 0 mm } 1 (.string (d.files[ix].data.extract 0 mm)) (by omega) rfl] at hs
            have hs2 := (hs.stored (ix * 3 + 2) (.int .i64 (min d.files[ix].synced (mm : Int)))).1
            rw [flatF_set1 (d.files.set ix { d.files[ix] with data := d.files[ix].data.extract 0 mm }) ix (by simpa using hixl) (cutF (mm : Int) d.files[ix]) 2 (.int .i64 (min d.files[ix].synced (mm : Int))) (by omega) (by simp [cutF, cellsF]), setset] at hs2
            exact rowF_of_own (l := d.files.set ix (cutF (mm : Int) d.files[ix])) (by rw [List.length_set, unhide HN]; exact hs2) (by rw [List.length_set]; have := unhide HN; omega) (unhide HFE))
          have KY := hide (blk_far (b := g) (i := ix * 3 + 2) (blk_far (b := g) (i := ix * 3 + 1) (unhide KX) (fun e => hng e.symm) (.string (d.files[ix].data.extract 0 mm))) (fun e => hng e.symm) (.int .i64 (min d.files[ix].synced (mm : Int))))
          have ZY := hide (blk_far (b := g) (i := ix * 3 + 2) (blk_far (b := g) (i := ix * 3 + 1) (unhide Z) hnz (.string (d.files[ix].data.extract 0 mm))) hnz (.int .i64 (min d.files[ix].synced (mm : Int))))
          have BY := hide (((unhide B).setCell (p := ⟨g, ix * 3 + 1, none⟩) hwg (.string (d.files[ix].data.extract 0 mm))).setCell (p := ⟨g, ix * 3 + 2, none⟩) hwg (.int .i64 (min d.files[ix].synced (mm : Int))))
          have x1 := (unhide KX).cell 1
          simp only [List.getElem?_toArray, List.getElem?_cons_succ, List.getElem?_cons_zero] at x1
          skip
          generalize hdz2 : d.files[ix].data = dt at c1g KY ZY BY RY d1 d1b d1c d1d hbg hdz pd
          generalize hsz2 : d.files[ix].synced = sy at c2g KY ZY BY RY
          have hms : mm ≤ dt.size := by omega
          have hmi : (mm : Int) ≤ (dt.size : Int) := by omega
          have hsl := fun W => slice_upto dt (mm : Int) mm rfl hms W
          clear bal b3 own3 ownX HCP hcel hfrz pd p1
          go_upto_region 10 with (fail)
          generalize (w3.alloc (Obj.cells #[.int .i64 d.room, .slice (some ⟨g, 0, none⟩) N cap3, .int .i64 d.fuse, .int .i64 d.fault, .bool d.down] 24)) = X at *
          clear R0 K Z B
          refine wp_region_held_drew (S := fun w' => w'.cell? ⟨w3.heap.size, 1, none⟩ = some (.slice (some ⟨g, 0, none⟩) N cap3)) (by kernel_rfl) ?_ (fun hHeld => ?_)
          · exact x1
          refine wpAnyH_take (i := 0) (v := .pointer (some ⟨w3.heap.size, 1, none⟩)) rfl (by kernel_rfl) (by kernel_rfl) (by kernel_rfl) (fun _ _ _ h => h) (Or.inl ⟨by rfl, fun wS hSw => ?_⟩) (by assumption) ?_
          · (try dsimp only at hSw); go_simp
          (try simp only [Act.put, List.setIfInBounds_toArray, List.set_cons_zero, List.set_cons_succ])
          refine wpAnyH_take (i := 1) (v := .slice (some ⟨g, 0, none⟩) N cap3) rfl (by kernel_rfl) (by kernel_rfl) (by kernel_rfl) (fun _ _ _ h => h) (Or.inl ⟨by rfl, fun wS hSw => ?_⟩) (by assumption) ?_
          · (try dsimp only at hSw); go_simp
          (try simp only [Act.put, List.setIfInBounds_toArray, List.set_cons_zero, List.set_cons_succ])
          refine wpAnyH_take (i := 2) (v := .int .i64 (ix : Int)) rfl (by kernel_rfl) (by kernel_rfl) (by kernel_rfl) (fun _ _ _ h => h) (Or.inl ⟨by rfl, fun wS hSw => ?_⟩) (by assumption) ?_
          · (try dsimp only at hSw); go_simp
          (try simp only [Act.put, List.setIfInBounds_toArray, List.set_cons_zero, List.set_cons_succ])
          refine wpAnyH_take (i := 3) (v := .pointer (some ⟨w3.heap.size, 1, none⟩)) rfl (by kernel_rfl) (by kernel_rfl) (by kernel_rfl) (fun _ _ _ h => h) (Or.inl ⟨by rfl, fun wS hSw => ?_⟩) (by assumption) ?_
          · (try dsimp only at hSw); go_simp
          (try simp only [Act.put, List.setIfInBounds_toArray, List.set_cons_zero, List.set_cons_succ])
          refine wpAnyH_take (i := 4) (v := .slice (some ⟨g, 0, none⟩) N cap3) rfl (by kernel_rfl) (by kernel_rfl) (by kernel_rfl) (fun _ _ _ h => h) (Or.inl ⟨by rfl, fun wS hSw => ?_⟩) (by assumption) ?_
          · (try dsimp only at hSw); go_simp
          (try simp only [Act.put, List.setIfInBounds_toArray, List.set_cons_zero, List.set_cons_succ])
          refine wpAnyH_take (i := 5) (v := .int .i64 (ix : Int)) rfl (by kernel_rfl) (by kernel_rfl) (by kernel_rfl) (fun _ _ _ h => h) (Or.inl ⟨by rfl, fun wS hSw => ?_⟩) (by assumption) ?_
          · (try dsimp only at hSw); go_simp
          (try simp only [Act.put, List.setIfInBounds_toArray, List.set_cons_zero, List.set_cons_succ])
          refine wpAnyH_take (i := 6) (v := .pointer (some ⟨g, ix * 3, none⟩)) rfl (by kernel_rfl) (by kernel_rfl) (by kernel_rfl) (fun _ _ _ h => h) (Or.inl ⟨by rfl, fun wS hSw => ?_⟩) (by assumption) ?_
          · (try dsimp only at hSw); go_simp
          (try simp only [Act.put, List.setIfInBounds_toArray, List.set_cons_zero, List.set_cons_succ])
          refine wpAnyH_take (i := 7) (v := .pointer (some ⟨g, ix * 3 + 1, none⟩)) rfl (by kernel_rfl) (by kernel_rfl) (by kernel_rfl) (fun _ _ _ h => h) (Or.inl ⟨by rfl, fun wS hSw => ?_⟩) (by assumption) ?_
          · (try dsimp only at hSw); go_simp
          (try simp only [Act.put, List.setIfInBounds_toArray, List.set_cons_zero, List.set_cons_succ])
          refine wpAnyH_take (i := 9) (v := .int .i64 (mm : Int)) rfl (by kernel_rfl) (by kernel_rfl) (by kernel_rfl) (fun _ _ _ h => h) (Or.inl ⟨by rfl, fun wS hSw => ?_⟩) (by assumption) ?_
          · (try dsimp only at hSw); go_simp
          (try simp only [Act.put, List.setIfInBounds_toArray, List.set_cons_zero, List.set_cons_succ])
          refine wpAnyH_ready (rs := [8]) (by kernel_rfl) (by simp) ?_
          refine AllReadyH.cons rfl (fun K hK => ?_) AllReadyH.nil
          go_simp
          refine hK.out _ _ ?_ (fun hHeld => ?_)
          · exact hHeld
          clear hK K
          (try simp only [Act.put, List.setIfInBounds_toArray, List.set_cons_zero, List.set_cons_succ])
          refine wpAnyH_take (i := 10) (v := .string (dt.extract 0 mm)) rfl (by kernel_rfl) (by kernel_rfl) (by kernel_rfl) (fun _ _ _ h => h) (Or.inl ⟨by rfl, fun wS hSw => ?_⟩) (by assumption) ?_
          · (try dsimp only at hSw); go_simp
          (try simp only [Act.put, List.setIfInBounds_toArray, List.set_cons_zero, List.set_cons_succ])
          refine wpAnyH_take (i := 11) (v := .pointer (some ⟨g, ix * 3, none⟩)) rfl (by kernel_rfl) (by kernel_rfl) (by kernel_rfl) (fun _ _ _ h => h) (Or.inl ⟨by rfl, fun wS hSw => ?_⟩) (by assumption) ?_
          · (try dsimp only at hSw); go_simp
          (try simp only [Act.put, List.setIfInBounds_toArray, List.set_cons_zero, List.set_cons_succ])
          refine wpAnyH_take (i := 12) (v := .pointer (some ⟨g, ix * 3 + 1, none⟩)) rfl (by kernel_rfl) (by kernel_rfl) (by kernel_rfl) (fun _ _ _ h => h) (Or.inl ⟨by rfl, fun wS hSw => ?_⟩) (by assumption) ?_
          · (try dsimp only at hSw); go_simp
          (try simp only [Act.put, List.setIfInBounds_toArray, List.set_cons_zero, List.set_cons_succ])
          refine wpAnyH_ready (rs := [13]) (by kernel_rfl) (by simp) ?_
          refine AllReadyH.cons rfl (fun K hK => ?_) AllReadyH.nil
          go_simp
          refine hK.out _ _ ?_ (fun hHeld => ?_)
          · exact (World.cell?_setCell_far _ _ _ _ (fun e => hng e)).trans x1
          clear hK K
          (try simp only [Act.put, List.setIfInBounds_toArray, List.set_cons_zero, List.set_cons_succ])
          refine wpAnyH_done (by kernel_rfl) ?_ _
          clear hHeld
          have x1b : (X.setCell ⟨g, ix * 3 + 1, none⟩ (.string (dt.extract 0 mm))).drew.cell? ⟨w3.heap.size, 1, none⟩ = some (.slice (some ⟨g, 0, none⟩) N cap3) := (World.cell?_setCell_far _ _ _ _ (fun e => hng e)).trans x1
          have c2b : (X.setCell ⟨g, ix * 3 + 1, none⟩ (.string (dt.extract 0 mm))).drew.cell? ⟨g, ix * 3 + 2, none⟩ = some (.int .i64 sy) := (World.cell?_setCell_other _ _ _ _ (by simp)).trans c2g
          have fzb : (X.setCell ⟨g, ix * 3 + 1, none⟩ (.string (dt.extract 0 mm))).drew.frozen? ⟨g, ix * 3 + 2, none⟩ = false := by show World.frozen? (X.setCell ⟨g, ix * 3 + 1, none⟩ (.string (dt.extract 0 mm))) _ = false; simp [fz2]
          have KY2 : Hid (Blk ((X.setCell ⟨g, ix * 3 + 1, none⟩ (.string (dt.extract 0 mm))).drew.setCell ⟨g, ix * 3 + 2, none⟩ (.int .i64 (min sy (mm : Int)))) w3.heap.size 24 #[.int .i64 d.room, .slice (some ⟨g, 0, none⟩) N cap3, .int .i64 d.fuse, .int .i64 d.fault, .bool d.down]) := KY
          have ZY2 : Hid (Blk ((X.setCell ⟨g, ix * 3 + 1, none⟩ (.string (dt.extract 0 mm))).drew.setCell ⟨g, ix * 3 + 2, none⟩ (.int .i64 (min sy (mm : Int)))) (w.heap.size + 1) 24 #[.int .i64 0, .slice none 0 0, .int .i64 0, .int .i64 0, .bool false]) := ZY
          have BY2 : Hid (Below w.heap.size w ((X.setCell ⟨g, ix * 3 + 1, none⟩ (.string (dt.extract 0 mm))).drew.setCell ⟨g, ix * 3 + 2, none⟩ (.int .i64 (min sy (mm : Int))))) := hide (by have h := unhide BY; exact ⟨h.os, h.tape, h.output, h.size, h.block⟩)
          have RY2 : Hid (RowF ((X.setCell ⟨g, ix * 3 + 1, none⟩ (.string (dt.extract 0 mm))).drew.setCell ⟨g, ix * 3 + 2, none⟩ (.int .i64 (min sy (mm : Int)))) (.slice (some ⟨g, 0, none⟩) N cap3) (d.files.set ix (cutF (mm : Int) d.files[ix]))) := RY
          clear KY ZY BY RY x1 c1g c2g fz1 fz2 hsl
          generalize (X.setCell ⟨g, ix * 3 + 1, none⟩ (.string (dt.extract 0 mm))).drew = Y at *
          go_wp2
          refine wp_region_held_drew (S := fun w' => w'.cell? ⟨w3.heap.size, 1, none⟩ = some (.slice (some ⟨g, 0, none⟩) N cap3)) (by kernel_rfl) ?_ (fun hHeld => ?_)
          · exact x1b
          refine wpAnyH_take (i := 0) (v := .pointer (some ⟨w3.heap.size, 1, none⟩)) rfl (by kernel_rfl) (by kernel_rfl) (by kernel_rfl) (fun _ _ _ h => h) (Or.inl ⟨by rfl, fun wS hSw => ?_⟩) (by assumption) ?_
          · (try dsimp only at hSw); go_simp
          (try simp only [Act.put, List.setIfInBounds_toArray, List.set_cons_zero, List.set_cons_succ])
          refine wpAnyH_take (i := 1) (v := .slice (some ⟨g, 0, none⟩) N cap3) rfl (by kernel_rfl) (by kernel_rfl) (by kernel_rfl) (fun _ _ _ h => h) (Or.inl ⟨by rfl, fun wS hSw => ?_⟩) (by assumption) ?_
          · (try dsimp only at hSw); go_simp
          (try simp only [Act.put, List.setIfInBounds_toArray, List.set_cons_zero, List.set_cons_succ])
          refine wpAnyH_take (i := 2) (v := .int .i64 (ix : Int)) rfl (by kernel_rfl) (by kernel_rfl) (by kernel_rfl) (fun _ _ _ h => h) (Or.inl ⟨by rfl, fun wS hSw => ?_⟩) (by assumption) ?_
          · (try dsimp only at hSw); go_simp
          (try simp only [Act.put, List.setIfInBounds_toArray, List.set_cons_zero, List.set_cons_succ])
          refine wpAnyH_take (i := 3) (v := .pointer (some ⟨w3.heap.size, 1, none⟩)) rfl (by kernel_rfl) (by kernel_rfl) (by kernel_rfl) (fun _ _ _ h => h) (Or.inl ⟨by rfl, fun wS hSw => ?_⟩) (by assumption) ?_
          · (try dsimp only at hSw); go_simp
          (try simp only [Act.put, List.setIfInBounds_toArray, List.set_cons_zero, List.set_cons_succ])
          refine wpAnyH_take (i := 4) (v := .slice (some ⟨g, 0, none⟩) N cap3) rfl (by kernel_rfl) (by kernel_rfl) (by kernel_rfl) (fun _ _ _ h => h) (Or.inl ⟨by rfl, fun wS hSw => ?_⟩) (by assumption) ?_
          · (try dsimp only at hSw); go_simp
          (try simp only [Act.put, List.setIfInBounds_toArray, List.set_cons_zero, List.set_cons_succ])
          refine wpAnyH_take (i := 5) (v := .int .i64 (ix : Int)) rfl (by kernel_rfl) (by kernel_rfl) (by kernel_rfl) (fun _ _ _ h => h) (Or.inl ⟨by rfl, fun wS hSw => ?_⟩) (by assumption) ?_
          · (try dsimp only at hSw); go_simp
          (try simp only [Act.put, List.setIfInBounds_toArray, List.set_cons_zero, List.set_cons_succ])
          refine wpAnyH_take (i := 6) (v := .pointer (some ⟨g, ix * 3, none⟩)) rfl (by kernel_rfl) (by kernel_rfl) (by kernel_rfl) (fun _ _ _ h => h) (Or.inl ⟨by rfl, fun wS hSw => ?_⟩) (by assumption) ?_
          · (try dsimp only at hSw); go_simp
          (try simp only [Act.put, List.setIfInBounds_toArray, List.set_cons_zero, List.set_cons_succ])
          refine wpAnyH_take (i := 7) (v := .pointer (some ⟨g, ix * 3 + 2, none⟩)) rfl (by kernel_rfl) (by kernel_rfl) (by kernel_rfl) (fun _ _ _ h => h) (Or.inl ⟨by rfl, fun wS hSw => ?_⟩) (by assumption) ?_
          · (try dsimp only at hSw); go_simp
          (try simp only [Act.put, List.setIfInBounds_toArray, List.set_cons_zero, List.set_cons_succ])
          refine wpAnyH_take (i := 9) (v := .int .i64 (mm : Int)) rfl (by kernel_rfl) (by kernel_rfl) (by kernel_rfl) (fun _ _ _ h => h) (Or.inl ⟨by rfl, fun wS hSw => ?_⟩) (by assumption) ?_
          · (try dsimp only at hSw); go_simp
          (try simp only [Act.put, List.setIfInBounds_toArray, List.set_cons_zero, List.set_cons_succ])
          refine wpAnyH_ready (rs := [8]) (by kernel_rfl) (by simp) ?_
          refine AllReadyH.cons rfl (fun K hK => ?_) AllReadyH.nil
          go_simp
          refine hK.out _ _ ?_ (fun hHeld => ?_)
          · exact hHeld
          clear hK K
          (try simp only [Act.put, List.setIfInBounds_toArray, List.set_cons_zero, List.set_cons_succ])
          refine wpAnyH_take (i := 10) (v := .int .i64 (min sy (mm : Int))) rfl (by kernel_rfl) (by kernel_rfl) (by kernel_rfl) (fun _ _ _ h => h) (Or.inl ⟨by rfl, fun wS hSw => ?_⟩) (by assumption) ?_
          · (try dsimp only at hSw); go_simp
          (try simp only [Act.put, List.setIfInBounds_toArray, List.set_cons_zero, List.set_cons_succ])
          refine wpAnyH_take (i := 11) (v := .pointer (some ⟨g, ix * 3, none⟩)) rfl (by kernel_rfl) (by kernel_rfl) (by kernel_rfl) (fun _ _ _ h => h) (Or.inl ⟨by rfl, fun wS hSw => ?_⟩) (by assumption) ?_
          · (try dsimp only at hSw); go_simp
          (try simp only [Act.put, List.setIfInBounds_toArray, List.set_cons_zero, List.set_cons_succ])
          refine wpAnyH_take (i := 12) (v := .pointer (some ⟨g, ix * 3 + 2, none⟩)) rfl (by kernel_rfl) (by kernel_rfl) (by kernel_rfl) (fun _ _ _ h => h) (Or.inl ⟨by rfl, fun wS hSw => ?_⟩) (by assumption) ?_
          · (try dsimp only at hSw); go_simp
          (try simp only [Act.put, List.setIfInBounds_toArray, List.set_cons_zero, List.set_cons_succ])
          refine wpAnyH_ready (rs := [13]) (by kernel_rfl) (by simp) ?_
          refine AllReadyH.cons rfl (fun K hK => ?_) AllReadyH.nil
          go_simp
          refine hK.out _ _ ?_ (fun hHeld => ?_)
          · exact (World.cell?_setCell_far _ _ _ _ (fun e => hng e)).trans x1b
          clear hK K
          (try simp only [Act.put, List.setIfInBounds_toArray, List.set_cons_zero, List.set_cons_succ])
          refine wpAnyH_done (by kernel_rfl) ?_ _
          clear hHeld
          have hdr2 := below_dr1 (Below.refl (Y.setCell ⟨g, ix * 3 + 2, none⟩ (.int .i64 (min sy (mm : Int)))).heap.size (Y.setCell ⟨g, ix * 3 + 2, none⟩ (.int .i64 (min sy (mm : Int)))))
          have KY3 := hide ((unhide KY2).below hdr2)
          have Z := hide ((unhide ZY2).below hdr2)
          have B := hide (below_dr1 (unhide BY2))
          have RY3 := hide ((unhide RY2).below hdr2)
          clear KY2 ZY2 BY2 RY2 hdr2
          go_upto_region 12 with (fail)
          generalize (Y.setCell ⟨g, ix * 3 + 2, none⟩ (.int .i64 (min sy (mm : Int)))).drew = Y2 at *
          have x0 := (unhide KY3).cell 0
          have x1 := (unhide KY3).cell 1
          have x2 := (unhide KY3).cell 2
          have x3 := (unhide KY3).cell 3
          have x4 := (unhide KY3).cell 4
          simp only [List.getElem?_toArray, List.getElem?_cons_succ, List.getElem?_cons_zero] at x0 x1 x2 x3 x4
          have e0 := (unhide Z).cell 0
          have e1 := (unhide Z).cell 1
          have e2 := (unhide Z).cell 2
          have e3 := (unhide Z).cell 3
          have e4 := (unhide Z).cell 4
          simp only [List.getElem?_toArray, List.getElem?_cons_succ, List.getElem?_cons_zero] at e0 e1 e2 e3 e4
          have f0 := (unhide Z).frozen 0
          have f1 := (unhide Z).frozen 1
          have f2 := (unhide Z).frozen 2
          have f3 := (unhide Z).frozen 3
          have f4 := (unhide Z).frozen 4
          have RB := hide (below5 (s := w.heap.size + 1) (unhide B) (by omega))
          have RR := hide (rowF5 (unhide RY3) (unhide Z) (by intro i x; match i with | 0 | 1 | 2 | 3 | 4 => simp | i + 5 => simp))
          go_wp2
          (try simp only [Exit.inBlock, Exit.then])
          refine bodyPost_ret (v := .tuple #[.agg #[.int .i64 d.room, .slice (some ⟨g, 0, none⟩) N cap3, .int .i64 d.fuse, .int .i64 d.fault, .bool d.down], .int .i64 0]) ?_ rfl ⟨_, rfl, unhide RR _ _ _ _ _, unhide RB _ _ _ _ _⟩
          rw [results_cell_tmp rfl]
          go_simp
  · have hne : ready d ≠ 0 := hrdy
    have hres : cutR d n m = (if ready d = 2 then zeroFs else d, ready d) := work_bad _ hrdy
    rw [hres]
    have hc1 : (((ready d : Nat) : Int) == 0) = false := by simp; omega
    have hc2 : ¬ ((ready d : Nat) : Int) = 0 := by omega
    generalize ready d = rc at *
    have HA1 := hide (fun (X : World) hX => unhide HAS rc X hX)
    generalize (if rc = 2 then zeroFs else d) = x9 at HA1 ⊢
    clear hres hrdy hne HAS
    have HAS := hide (fun (_ : Nat) => unhide HA1)
    clear HA1
    go_enter Try.func26, Try.ntmps26
    go_wp2_with fail
    refine (unhide HPW _ (unhide R0)).mono ?_
    rintro e w1 ⟨rfl, b1⟩
    have KN := hide ((unhide K).below b1)
    have ZN := hide ((unhide Z).below b1)
    have RN := hide ((unhide R0).below b1)
    have BN := hide (belows (unhide B) b1)
    clear K Z R0 B
    have K := KN
    have Z := ZN
    have R0 := RN
    have B := BN
    clear KN ZN RN BN
    clear b1 HPW
    have c0 := (unhide K).cell 0
    have c1 := (unhide K).cell 1
    have c2 := (unhide K).cell 2
    have c3 := (unhide K).cell 3
    have c4 := (unhide K).cell 4
    simp only [List.getElem?_toArray, List.getElem?_cons_succ, List.getElem?_cons_zero] at c0 c1 c2 c3 c4
    go_wp2_with fail
    clear c0 c1 c2 c3 c4
    refine (unhide HAS rc _ (unhide R0)).mono ?_
    rintro e w9 ⟨v9, rfl, r9, _, b9⟩
    have KN := hide ((unhide K).below b9)
    have ZN := hide ((unhide Z).below b9)
    have RN := hide ((unhide R0).below b9)
    have BN := hide (belows (unhide B) b9)
    clear K Z R0 B
    have K := KN
    have Z := ZN
    have R0 := RN
    have B := BN
    clear KN ZN RN BN
    obtain ⟨a9, cap9, hv9, _⟩ := id r9
    subst hv9
    have R9 := hide r9
    clear r9 b9
    have e0 := (unhide Z).cell 0
    have e1 := (unhide Z).cell 1
    have e2 := (unhide Z).cell 2
    have e3 := (unhide Z).cell 3
    have e4 := (unhide Z).cell 4
    simp only [List.getElem?_toArray, List.getElem?_cons_succ, List.getElem?_cons_zero] at e0 e1 e2 e3 e4
    have f0 := (unhide Z).frozen 0
    have f1 := (unhide Z).frozen 1
    have f2 := (unhide Z).frozen 2
    have f3 := (unhide Z).frozen 3
    have f4 := (unhide Z).frozen 4
    have RB := hide (below5 (s := w.heap.size + 1) (unhide B) (by omega))
    have RR := hide (rowF5 (unhide R9) (unhide Z) (by intro i x; match i with | 0 | 1 | 2 | 3 | 4 => simp | i + 5 => simp))
    go_wp2
    (try simp only [Exit.inBlock, Exit.then])
    refine bodyPost_ret (v := .tuple #[.agg #[.int .i64 x9.room, .slice a9 x9.files.length cap9, .int .i64 x9.fuse, .int .i64 x9.fault, .bool x9.down], .int .i64 rc]) ?_ rfl ⟨_, rfl, unhide RR _ _ _ _ _, unhide RB _ _ _ _ _⟩
    rw [results_cell_tmp rfl]
    go_simp
end Go.Proofs.Ytmfkhbofmaonkaa
