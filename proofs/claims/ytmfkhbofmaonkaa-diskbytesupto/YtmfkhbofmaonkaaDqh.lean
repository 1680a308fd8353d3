/-
  What the document's Delete does (missiveref04), over this seat's program.
-/
import Derived.Test.YtmfkhbofmaonkaaDqg
import Derived.Test.YtmfkhbofmaonkaaCrt
set_option linter.unusedVariables false
set_option linter.unusedSimpArgs false
namespace Go.Proofs.Ytmfkhbofmaonkaa
open Go.RowKit Go.Proofs.Dsk

theorem ready_zero {d : Fs} (h : ready d = 0) : right d = true ∧ d.down = false := by
  unfold ready at h
  by_cases h0 : right d = false
  · rw [if_pos h0] at h; omega
  · rw [if_neg h0] at h
    by_cases h1 : d.down = true
    · rw [if_pos h1] at h; omega
    · exact ⟨by simpa using h0, by simpa using h1⟩
theorem work_bad {d : Fs} (f : Fs → Fs × Nat) (h : ready d ≠ 0) : workR d f = (if ready d = 2 then zeroFs else d, ready d) := by
  unfold ready at h ⊢
  unfold workR
  by_cases h0 : right d = false
  · rw [if_pos h0, if_pos h0]; rfl
  · rw [if_neg h0] at h ⊢
    rw [if_neg h0]
    by_cases h1 : d.down = true
    · rw [if_pos h1, if_pos h1]; rfl
    · rw [if_neg h1] at h; exact absurd rfl h
theorem work_good2 {d : Fs} (f : Fs → Fs × Nat) (hr : right d = true) (hd : d.down = false) : workR d f = f d := by
  unfold workR
  rw [if_neg (by simp [hr]), if_neg (by simp [hd])]
theorem changeR_no {d : Fs} (f : Fs → Fs) (h : (changeR d id).2 ≠ 0) : changeR d f = changeR d id := by
  unfold changeR at h ⊢
  by_cases h0 : d.fuse = 0
  · rw [if_pos h0, if_pos h0]
  · rw [if_neg h0] at h ⊢
    rw [if_neg h0]
    by_cases h1 : d.fault = 0
    · rw [if_pos h1, if_pos h1]
    · rw [if_neg h1] at h; exact absurd rfl h
theorem changeR_yes {d : Fs} (f : Fs → Fs) (h : (changeR d id).2 = 0) : changeR d id = (spent d, 0) ∧ changeR d f = (f (spent d), 0) := by
  unfold changeR at h ⊢
  by_cases h0 : d.fuse = 0
  · rw [if_pos h0] at h; simp at h
  · rw [if_neg h0] at h ⊢
    rw [if_neg h0]
    by_cases h1 : d.fault = 0
    · rw [if_pos h1] at h; simp at h
    · rw [if_neg h1, if_neg h1]; exact ⟨rfl, rfl⟩
theorem changeR_files (d : Fs) : (changeR d id).1.files = d.files := by
  unfold changeR
  by_cases h0 : d.fuse = 0
  · rw [if_pos h0]
  · rw [if_neg h0]
    by_cases h1 : d.fault = 0
    · rw [if_pos h1]
    · rw [if_neg h1]; rfl

set_option maxHeartbeats 8000000 in
set_option maxRecDepth 100000 in
theorem refDelete_any (d : Fs) (v : Value) (n : ByteArray) (w : World) (hfit : FitAll d) (h : RowF w v d.files) (hnt : NeatF v) (hl : d.files.length ≤ 1048576) :
    Calls Try.prog 11 #[fsV d v, .string n] w fun e w' => ∃ v', e = .returned (.tuple #[fsV (deleteR d n).1 v', .int .i64 (deleteR d n).2]) ∧ RowF w' v' (deleteR d n).1.files ∧ Below w.heap.size w w' := by
  have HPW := hide (fun (X : World) (hX : RowF X v d.files) => refPower_any d v X hfit.1 hX)
  have HAS := hide (fun (c : Nat) (X : World) (hX : RowF X v d.files) => refAs_any d v c X hfit hX hnt hl)
  have HCP := hide (fun (X : World) (hX : RowF X v d.files) => refCopy_any d v X hX hnt hl)
  have HAK := hide (fun (X : World) (hX : RowF X v d.files) => refAsks_any d v X hfit hX hnt hl)
  have HFD := hide (fun (n : ByteArray) (X : World) (hr : Rise d.files) (hX : RowF X v d.files) => refFind_any d.files v n X hr hX)
  have HFF := hide hfit.2.1
  obtain ⟨a, cap, hv, h63, _, hc⟩ := id h
  subst hv
  have HC := hide hc
  clear hc
  obtain ⟨N, hN⟩ : ∃ N, d.files.length = N := ⟨_, rfl⟩
  have HN := hide hN
  rw [hN] at h hnt h63 HPW HAS HAK HCP HFD hl ⊢
  have hb2 : Below w.heap.size w ((w.alloc (Obj.cells #[.int .i64 d.room, .slice a N cap, .int .i64 d.fuse, .int .i64 d.fault, .bool d.down] 24)).alloc (Obj.cells #[.int .i64 0, .slice none 0 0, .int .i64 0, .int .i64 0, .bool false] 24)) := ((Below.refl _ w).alloc (Nat.le_refl _) _).alloc (by simp) _
  have k0 : Blk ((w.alloc (Obj.cells #[.int .i64 d.room, .slice a N cap, .int .i64 d.fuse, .int .i64 d.fault, .bool d.down] 24)).alloc (Obj.cells #[.int .i64 0, .slice none 0 0, .int .i64 0, .int .i64 0, .bool false] 24)) w.heap.size 24 #[.int .i64 d.room, .slice a N cap, .int .i64 d.fuse, .int .i64 d.fault, .bool d.down] := (Blk.new w _ _).below ((Below.refl _ _).alloc (Nat.le_refl _) _)
  have k1 := Blk.new (w.alloc (Obj.cells #[.int .i64 d.room, .slice a N cap, .int .i64 d.fuse, .int .i64 d.fault, .bool d.down] 24)) 24 #[.int .i64 0, .slice none 0 0, .int .i64 0, .int .i64 0, .bool false]
  simp only [World.size_alloc] at k1
  have K := hide k0
  have Z := hide k1
  have R0 := hide (h.below hb2)
  have B := hide hb2
  clear k0 k1 hb2 hN h hnt hfit
  simp only [fsV] at HPW HAS HAK HCP ⊢
  by_cases hrdy : ready d = 0
  · obtain ⟨hr, hdn⟩ := ready_zero hrdy
    rw [hrdy] at HPW
    have HRI := hide (right_parts hr).2.2.2
    have hres : deleteR d n = onR n (fun i d => changeR d fun d => { d with files := d.files.eraseIdx i }) d := work_good2 _ hr hdn
    rw [hres]
    clear hres hrdy hdn
    cases hh : has d.files n with
    | false =>
      have hon : onR n (fun i d => changeR d fun d => { d with files := d.files.eraseIdx i }) d = (d, 3) := by unfold onR; rw [if_neg (by simp [hh])]
      rw [hon]
      have HF2 := hide (unhide HFD n)
      simp only [hh, Bool.false_eq_true, if_false] at HF2
      clear HFD hon hh
      have HFD := hide (fun (_ : ByteArray) => unhide HF2)
      clear HF2
      go_enter Try.func11, Try.ntmps11
      go_wp2_with fail
      refine (unhide HPW _ (unhide R0)).mono ?_
      rintro e w1 ⟨rfl, b1⟩
      have KN := hide ((unhide K).below b1)
      have ZN := hide ((unhide Z).below b1)
      have RN := hide ((unhide R0).below b1)
      have BN := hide (belows (unhide B) b1)
      clear K Z R0 B
      have K := KN
      have Z := ZN
      have R0 := RN
      have B := BN
      clear KN ZN RN BN
      clear b1 HPW
      have c0 := (unhide K).cell 0
      have c1 := (unhide K).cell 1
      have c2 := (unhide K).cell 2
      have c3 := (unhide K).cell 3
      have c4 := (unhide K).cell 4
      simp only [List.getElem?_toArray, List.getElem?_cons_succ, List.getElem?_cons_zero] at c0 c1 c2 c3 c4
      go_wp2_with fail
      clear c0 c1 c2 c3 c4
      refine (unhide HFD n _ (unhide HRI) (unhide R0)).mono ?_
      rintro e w2 ⟨rfl, b2⟩
      have KN := hide ((unhide K).below b2)
      have ZN := hide ((unhide Z).below b2)
      have RN := hide ((unhide R0).below b2)
      have BN := hide (belows (unhide B) b2)
      clear K Z R0 B
      have K := KN
      have Z := ZN
      have R0 := RN
      have B := BN
      clear KN ZN RN BN
      clear b2
      have c0 := (unhide K).cell 0
      have c1 := (unhide K).cell 1
      have c2 := (unhide K).cell 2
      have c3 := (unhide K).cell 3
      have c4 := (unhide K).cell 4
      simp only [List.getElem?_toArray, List.getElem?_cons_succ, List.getElem?_cons_zero] at c0 c1 c2 c3 c4
      go_wp2_with fail
      clear c0 c1 c2 c3 c4
      refine (unhide HAS 3 _ (unhide R0)).mono ?_
      rintro e w9 ⟨v9, rfl, r9, _, b9⟩
      have KN := hide ((unhide K).below b9)
      have ZN := hide ((unhide Z).below b9)
      have RN := hide ((unhide R0).below b9)
      have BN := hide (belows (unhide B) b9)
      clear K Z R0 B
      have K := KN
      have Z := ZN
      have R0 := RN
      have B := BN
      clear KN ZN RN BN
      simp only [show ¬ (3 : Nat) = 2 by omega, if_false] at r9 ⊢
      obtain ⟨a9, cap9, hv9, _⟩ := id r9
      subst hv9
      rw [unhide HN] at r9 ⊢
      have R9 := hide r9
      clear r9 b9
      have e0 := (unhide Z).cell 0
      have e1 := (unhide Z).cell 1
      have e2 := (unhide Z).cell 2
      have e3 := (unhide Z).cell 3
      have e4 := (unhide Z).cell 4
      simp only [List.getElem?_toArray, List.getElem?_cons_succ, List.getElem?_cons_zero] at e0 e1 e2 e3 e4
      have f0 := (unhide Z).frozen 0
      have f1 := (unhide Z).frozen 1
      have f2 := (unhide Z).frozen 2
      have f3 := (unhide Z).frozen 3
      have f4 := (unhide Z).frozen 4
      have RB := hide (below5 (s := w.heap.size + 1) (unhide B) (by omega))
      have RR := hide (rowF5 (unhide R9) (unhide Z) (by intro i x; match i with | 0 | 1 | 2 | 3 | 4 => simp | i + 5 => simp))
      go_wp2
      (try simp only [Exit.inBlock, Exit.then])
      refine bodyPost_ret (v := .tuple #[.agg #[.int .i64 d.room, .slice a9 N cap9, .int .i64 d.fuse, .int .i64 d.fault, .bool d.down], .int .i64 3]) ?_ rfl ⟨_, rfl, unhide RR _ _ _ _ _, unhide RB _ _ _ _ _⟩
      rw [results_cell_tmp rfl]
      go_simp
    | true =>
      obtain ⟨hi, hnm⟩ := has_lb (unhide HRI) hh
      have hon : onR n (fun i d => changeR d fun d => { d with files := d.files.eraseIdx i }) d = (fun i d => changeR d fun d => { d with files := d.files.eraseIdx i }) (lb d.files n) d := by unfold onR; rw [if_pos hh]
      rw [hon]
      have HF2 := hide (unhide HFD n)
      simp only [hh, if_true] at HF2
      clear HFD hon hh
      have HFD := hide (fun (_ : ByteArray) => unhide HF2)
      clear HF2
      have HI := hide hi
      have HNM := hide hnm
      obtain ⟨ix, hix⟩ : ∃ ix, lb d.files n = ix := ⟨_, rfl⟩
      have HIX := hide hix
      rw [hix] at HFD ⊢
      have hx0 : ¬ (ix : Int) < 0 := by omega
      have hxb : decide ((ix : Int) < 0) = false := decide_eq_false hx0
      clear hnm hix
      by_cases hz : (changeR d id).2 = 0
      · obtain ⟨e1, e2⟩ := changeR_yes (d := d) (fun d => { d with files := d.files.eraseIdx ix }) hz
        rw [show (fun (i : Nat) (d : Fs) => changeR d fun d => { d with files := d.files.eraseIdx i }) ix d = changeR d (fun d => { d with files := d.files.eraseIdx ix }) from rfl, e2]
        rw [e1] at HAK
        have HWO := hide (fun (v : Value) (X : World) (hX : RowF X v d.files) => refWithout_any d.files v n X (by have := unhide HN; omega) hX)
        have hwo : woL d.files n = d.files.eraseIdx ix := by have hn := unhide HNM; have hx := unhide HIX; subst hx; rw [erase_filter (unhide HRI) (unhide HI), hn]; rfl
        rw [hwo] at HWO
        clear e1 e2 hz hwo
        obtain ⟨M, hM⟩ : ∃ M, (d.files.eraseIdx ix).length = M := ⟨_, rfl⟩
        have HMM := hide hM
        rw [hM] at HWO
        have HFE : Hid (∀ f ∈ d.files.eraseIdx ix, Fits f) := hide (fun f hf => unhide HFF f (List.mem_of_mem_eraseIdx hf))
        have hMl : M ≤ N := by have := unhide HN; have := List.length_eraseIdx_le d.files ix; omega
        clear hM
        go_enter Try.func11, Try.ntmps11
        go_wp2_with fail
        refine (unhide HPW _ (unhide R0)).mono ?_
        rintro e w1 ⟨rfl, b1⟩
        have KN := hide ((unhide K).below b1)
        have ZN := hide ((unhide Z).below b1)
        have RN := hide ((unhide R0).below b1)
        have BN := hide (belows (unhide B) b1)
        clear K Z R0 B
        have K := KN
        have Z := ZN
        have R0 := RN
        have B := BN
        clear KN ZN RN BN
        clear b1 HPW
        have c0 := (unhide K).cell 0
        have c1 := (unhide K).cell 1
        have c2 := (unhide K).cell 2
        have c3 := (unhide K).cell 3
        have c4 := (unhide K).cell 4
        simp only [List.getElem?_toArray, List.getElem?_cons_succ, List.getElem?_cons_zero] at c0 c1 c2 c3 c4
        go_wp2_with fail
        clear c0 c1 c2 c3 c4
        refine (unhide HFD n _ (unhide HRI) (unhide R0)).mono ?_
        rintro e w2 ⟨rfl, b2⟩
        have KN := hide ((unhide K).below b2)
        have ZN := hide ((unhide Z).below b2)
        have RN := hide ((unhide R0).below b2)
        have BN := hide (belows (unhide B) b2)
        clear K Z R0 B
        have K := KN
        have Z := ZN
        have R0 := RN
        have B := BN
        clear KN ZN RN BN
        clear b2
        have c0 := (unhide K).cell 0
        have c1 := (unhide K).cell 1
        have c2 := (unhide K).cell 2
        have c3 := (unhide K).cell 3
        have c4 := (unhide K).cell 4
        simp only [List.getElem?_toArray, List.getElem?_cons_succ, List.getElem?_cons_zero] at c0 c1 c2 c3 c4
        go_wp2_with fail
        clear c0 c1 c2 c3 c4
        refine (unhide HAK _ (unhide R0)).mono ?_
        rintro e w3 ⟨v3, rfl, own3, b3⟩
        have hs3 := b3.size
        have hsb := (unhide B).size
        have hz3 : w.heap.size + 1 < w3.heap.size := Nat.lt_of_lt_of_le (unhide Z).lt b3.size
        obtain ⟨a3, cap3, rfl⟩ := own_form own3
        have bal : Below w3.heap.size w3 (w3.alloc (Obj.cells #[.int .i64 (spent d).room, .slice a3 N cap3, .int .i64 (spent d).fuse, .int .i64 (spent d).fault, .bool (spent d).down] 24)) := (Below.refl _ _).alloc (Nat.le_refl _) _
        have r3 := rowF_of_own (l := d.files) (by rw [unhide HN]; exact own3) (by have := unhide HN; omega) (unhide HFF)
        have R3 := hide (r3.below bal)
        have KX := hide (Blk.new w3 24 #[.int .i64 (spent d).room, .slice a3 N cap3, .int .i64 (spent d).fuse, .int .i64 (spent d).fault, .bool (spent d).down])
        have KN := hide ((unhide K).below b3)
        have ZN := hide ((unhide Z).below b3)
        have RN := hide ((unhide R0).below b3)
        have BN := hide (belows (unhide B) b3)
        clear K Z R0 B
        have K := KN
        have Z := ZN
        have R0 := RN
        have B := BN
        clear KN ZN RN BN
        have KN := hide ((unhide K).below bal)
        have ZN := hide ((unhide Z).below bal)
        have RN := hide ((unhide R0).below bal)
        have BN := hide (belows (unhide B) bal)
        clear K Z R0 B
        have K := KN
        have Z := ZN
        have R0 := RN
        have B := BN
        clear KN ZN RN BN
        clear bal b3 own3 r3 HAK
        go_wp2_with fail
        refine (unhide HWO _ _ (unhide R3)).mono ?_
        rintro e w4 ⟨v4, rfl, own4, b4⟩
        obtain ⟨a4, cap4, rfl⟩ := own_form own4
        have KN := hide ((unhide K).below b4)
        have ZN := hide ((unhide Z).below b4)
        have RN := hide ((unhide R0).below b4)
        have BN := hide (belows (unhide B) b4)
        clear K Z R0 B
        have K := KN
        have Z := ZN
        have R0 := RN
        have B := BN
        clear KN ZN RN BN
        have KX4 := hide ((unhide KX).below b4)
        clear KX b4 R3
        have x0 := (unhide KX4).cell 0
        have x1 := (unhide KX4).cell 1
        have x2 := (unhide KX4).cell 2
        have x3 := (unhide KX4).cell 3
        have x4 := (unhide KX4).cell 4
        simp only [List.getElem?_toArray, List.getElem?_cons_succ, List.getElem?_cons_zero] at x0 x1 x2 x3 x4
        have y1 := (unhide KX4).frozen 1
        have KY : Hid (Blk (w4.setCell ⟨w3.heap.size, 1, none⟩ (.slice a4 M cap4)) w3.heap.size 24 #[.int .i64 (spent d).room, .slice a4 M cap4, .int .i64 (spent d).fuse, .int .i64 (spent d).fault, .bool (spent d).down]) := hide ((unhide KX4).set 1 _)
        have ZY := hide (blk_far (b := w3.heap.size) (i := 1) (unhide Z) (by omega) (.slice a4 M cap4))
        have BY := hide ((unhide B).setCell (p := ⟨w3.heap.size, 1, none⟩) (show w.heap.size ≤ w3.heap.size by omega) (.slice a4 M cap4))
        have RY : Hid (RowF (w4.setCell ⟨w3.heap.size, 1, none⟩ (.slice a4 M cap4)) (.slice a4 M cap4) (d.files.eraseIdx ix)) := hide (rowF_of_own (l := d.files.eraseIdx ix) (by rw [unhide HMM]; exact own_set own4 (own_ne own4 (unhide KX4) (by decide))) (by have := unhide HMM; omega) (unhide HFE))
        go_upto_region 9 with (fail)
        generalize (w4.setCell ⟨w3.heap.size, 1, none⟩ (.slice a4 M cap4)) = Y at *
        clear Z B K R0 x0 x1 x2 x3 x4 y1 own4 KX4
        have Z := ZY
        have B := BY
        clear ZY BY
        have x0 := (unhide KY).cell 0
        have x1 := (unhide KY).cell 1
        have x2 := (unhide KY).cell 2
        have x3 := (unhide KY).cell 3
        have x4 := (unhide KY).cell 4
        simp only [List.getElem?_toArray, List.getElem?_cons_succ, List.getElem?_cons_zero] at x0 x1 x2 x3 x4
        skip
        have e0 := (unhide Z).cell 0
        have e1 := (unhide Z).cell 1
        have e2 := (unhide Z).cell 2
        have e3 := (unhide Z).cell 3
        have e4 := (unhide Z).cell 4
        simp only [List.getElem?_toArray, List.getElem?_cons_succ, List.getElem?_cons_zero] at e0 e1 e2 e3 e4
        have f0 := (unhide Z).frozen 0
        have f1 := (unhide Z).frozen 1
        have f2 := (unhide Z).frozen 2
        have f3 := (unhide Z).frozen 3
        have f4 := (unhide Z).frozen 4
        have RB := hide (below5 (s := w.heap.size + 1) (unhide B) (by omega))
        have RR := hide (rowF5 (unhide RY) (unhide Z) (by intro i x; match i with | 0 | 1 | 2 | 3 | 4 => simp | i + 5 => simp))
        go_wp2
        (try simp only [Exit.inBlock, Exit.then])
        refine bodyPost_ret (v := .tuple #[.agg #[.int .i64 (spent d).room, .slice a4 M cap4, .int .i64 (spent d).fuse, .int .i64 (spent d).fault, .bool (spent d).down], .int .i64 0]) ?_ rfl ⟨_, rfl, unhide RR _ _ _ _ _, unhide RB _ _ _ _ _⟩
        rw [results_cell_tmp rfl]
        go_simp
      · rw [show (fun (i : Nat) (d : Fs) => changeR d fun d => { d with files := d.files.eraseIdx i }) ix d = changeR d (fun d => { d with files := d.files.eraseIdx ix }) from rfl, changeR_no (fun d => { d with files := d.files.eraseIdx ix }) hz]
        have hfl := changeR_files d
        generalize changeR d id = res at HAK hz hfl ⊢
        obtain ⟨xx, n3⟩ := res
        simp only at HAK hz hfl ⊢
        have hn0 : ((n3 : Int) == 0) = false := by simp; omega
        have hn1 : ¬ (n3 : Int) = 0 := by omega
        have HFL := hide hfl
        clear hz hfl
        go_enter Try.func11, Try.ntmps11
        go_wp2_with fail
        refine (unhide HPW _ (unhide R0)).mono ?_
        rintro e w1 ⟨rfl, b1⟩
        have KN := hide ((unhide K).below b1)
        have ZN := hide ((unhide Z).below b1)
        have RN := hide ((unhide R0).below b1)
        have BN := hide (belows (unhide B) b1)
        clear K Z R0 B
        have K := KN
        have Z := ZN
        have R0 := RN
        have B := BN
        clear KN ZN RN BN
        clear b1 HPW
        have c0 := (unhide K).cell 0
        have c1 := (unhide K).cell 1
        have c2 := (unhide K).cell 2
        have c3 := (unhide K).cell 3
        have c4 := (unhide K).cell 4
        simp only [List.getElem?_toArray, List.getElem?_cons_succ, List.getElem?_cons_zero] at c0 c1 c2 c3 c4
        go_wp2_with fail
        clear c0 c1 c2 c3 c4
        refine (unhide HFD n _ (unhide HRI) (unhide R0)).mono ?_
        rintro e w2 ⟨rfl, b2⟩
        have KN := hide ((unhide K).below b2)
        have ZN := hide ((unhide Z).below b2)
        have RN := hide ((unhide R0).below b2)
        have BN := hide (belows (unhide B) b2)
        clear K Z R0 B
        have K := KN
        have Z := ZN
        have R0 := RN
        have B := BN
        clear KN ZN RN BN
        clear b2
        have c0 := (unhide K).cell 0
        have c1 := (unhide K).cell 1
        have c2 := (unhide K).cell 2
        have c3 := (unhide K).cell 3
        have c4 := (unhide K).cell 4
        simp only [List.getElem?_toArray, List.getElem?_cons_succ, List.getElem?_cons_zero] at c0 c1 c2 c3 c4
        go_wp2_with fail
        clear c0 c1 c2 c3 c4
        refine (unhide HAK _ (unhide R0)).mono ?_
        rintro e w3 ⟨v3, rfl, own3, b3⟩
        have hs3 := b3.size
        have hsb := (unhide B).size
        have hz3 : w.heap.size + 1 < w3.heap.size := Nat.lt_of_lt_of_le (unhide Z).lt b3.size
        obtain ⟨a3, cap3, rfl⟩ := own_form own3
        have bal : Below w3.heap.size w3 (w3.alloc (Obj.cells #[.int .i64 xx.room, .slice a3 N cap3, .int .i64 xx.fuse, .int .i64 xx.fault, .bool xx.down] 24)) := (Below.refl _ _).alloc (Nat.le_refl _) _
        have r3 := rowF_of_own (l := d.files) (by rw [unhide HN]; exact own3) (by have := unhide HN; omega) (unhide HFF)
        have R3 := hide (r3.below bal)
        have KX := hide (Blk.new w3 24 #[.int .i64 xx.room, .slice a3 N cap3, .int .i64 xx.fuse, .int .i64 xx.fault, .bool xx.down])
        have KN := hide ((unhide K).below b3)
        have ZN := hide ((unhide Z).below b3)
        have RN := hide ((unhide R0).below b3)
        have BN := hide (belows (unhide B) b3)
        clear K Z R0 B
        have K := KN
        have Z := ZN
        have R0 := RN
        have B := BN
        clear KN ZN RN BN
        have KN := hide ((unhide K).below bal)
        have ZN := hide ((unhide Z).below bal)
        have RN := hide ((unhide R0).below bal)
        have BN := hide (belows (unhide B) bal)
        clear K Z R0 B
        have K := KN
        have Z := ZN
        have R0 := RN
        have B := BN
        clear KN ZN RN BN
        clear bal b3 own3 r3 HAK
        go_upto_region 9 with (fail)
        generalize (w3.alloc (Obj.cells #[.int .i64 xx.room, .slice a3 N cap3, .int .i64 xx.fuse, .int .i64 xx.fault, .bool xx.down] 24)) = Y at *
        have x0 := (unhide KX).cell 0
        have x1 := (unhide KX).cell 1
        have x2 := (unhide KX).cell 2
        have x3 := (unhide KX).cell 3
        have x4 := (unhide KX).cell 4
        simp only [List.getElem?_toArray, List.getElem?_cons_succ, List.getElem?_cons_zero] at x0 x1 x2 x3 x4
        have e0 := (unhide Z).cell 0
        have e1 := (unhide Z).cell 1
        have e2 := (unhide Z).cell 2
        have e3 := (unhide Z).cell 3
        have e4 := (unhide Z).cell 4
        simp only [List.getElem?_toArray, List.getElem?_cons_succ, List.getElem?_cons_zero] at e0 e1 e2 e3 e4
        have f0 := (unhide Z).frozen 0
        have f1 := (unhide Z).frozen 1
        have f2 := (unhide Z).frozen 2
        have f3 := (unhide Z).frozen 3
        have f4 := (unhide Z).frozen 4
        have RB := hide (below5 (s := w.heap.size + 1) (unhide B) (by omega))
        have RR := hide (rowF5 (show RowF Y (.slice a3 N cap3) xx.files by rw [unhide HFL]; exact unhide R3) (unhide Z) (by intro i x; match i with | 0 | 1 | 2 | 3 | 4 => simp | i + 5 => simp))
        go_wp2
        (try simp only [Exit.inBlock, Exit.then])
        refine bodyPost_ret (v := .tuple #[.agg #[.int .i64 xx.room, .slice a3 N cap3, .int .i64 xx.fuse, .int .i64 xx.fault, .bool xx.down], .int .i64 n3]) ?_ rfl ⟨_, rfl, unhide RR _ _ _ _ _, unhide RB _ _ _ _ _⟩
        rw [results_cell_tmp rfl]
        go_simp
  · have hne : ready d ≠ 0 := hrdy
    have hres : deleteR d n = (if ready d = 2 then zeroFs else d, ready d) := work_bad _ hrdy
    rw [hres]
    have hc1 : (((ready d : Nat) : Int) == 0) = false := by simp; omega
    have hc2 : ¬ ((ready d : Nat) : Int) = 0 := by omega
    generalize ready d = rc at *
    have HA1 := hide (fun (X : World) hX => unhide HAS rc X hX)
    generalize (if rc = 2 then zeroFs else d) = x9 at HA1 ⊢
    clear hres hrdy hne HAS
    have HAS := hide (fun (_ : Nat) => unhide HA1)
    clear HA1
    go_enter Try.func11, Try.ntmps11
    go_wp2_with fail
    refine (unhide HPW _ (unhide R0)).mono ?_
    rintro e w1 ⟨rfl, b1⟩
    have KN := hide ((unhide K).below b1)
    have ZN := hide ((unhide Z).below b1)
    have RN := hide ((unhide R0).below b1)
    have BN := hide (belows (unhide B) b1)
    clear K Z R0 B
    have K := KN
    have Z := ZN
    have R0 := RN
    have B := BN
    clear KN ZN RN BN
    clear b1 HPW
    have c0 := (unhide K).cell 0
    have c1 := (unhide K).cell 1
    have c2 := (unhide K).cell 2
    have c3 := (unhide K).cell 3
    have c4 := (unhide K).cell 4
    simp only [List.getElem?_toArray, List.getElem?_cons_succ, List.getElem?_cons_zero] at c0 c1 c2 c3 c4
    go_wp2_with fail
    clear c0 c1 c2 c3 c4
    refine (unhide HAS rc _ (unhide R0)).mono ?_
    rintro e w9 ⟨v9, rfl, r9, _, b9⟩
    have KN := hide ((unhide K).below b9)
    have ZN := hide ((unhide Z).below b9)
    have RN := hide ((unhide R0).below b9)
    have BN := hide (belows (unhide B) b9)
    clear K Z R0 B
    have K := KN
    have Z := ZN
    have R0 := RN
    have B := BN
    clear KN ZN RN BN
    obtain ⟨a9, cap9, hv9, _⟩ := id r9
    subst hv9
    have R9 := hide r9
    clear r9 b9
    have e0 := (unhide Z).cell 0
    have e1 := (unhide Z).cell 1
    have e2 := (unhide Z).cell 2
    have e3 := (unhide Z).cell 3
    have e4 := (unhide Z).cell 4
    simp only [List.getElem?_toArray, List.getElem?_cons_succ, List.getElem?_cons_zero] at e0 e1 e2 e3 e4
    have f0 := (unhide Z).frozen 0
    have f1 := (unhide Z).frozen 1
    have f2 := (unhide Z).frozen 2
    have f3 := (unhide Z).frozen 3
    have f4 := (unhide Z).frozen 4
    have RB := hide (below5 (s := w.heap.size + 1) (unhide B) (by omega))
    have RR := hide (rowF5 (unhide R9) (unhide Z) (by intro i x; match i with | 0 | 1 | 2 | 3 | 4 => simp | i + 5 => simp))
    go_wp2
    (try simp only [Exit.inBlock, Exit.then])
    refine bodyPost_ret (v := .tuple #[.agg #[.int .i64 x9.room, .slice a9 x9.files.length cap9, .int .i64 x9.fuse, .int .i64 x9.fault, .bool x9.down], .int .i64 rc]) ?_ rfl ⟨_, rfl, unhide RR _ _ _ _ _, unhide RB _ _ _ _ _⟩
    rw [results_cell_tmp rfl]
    go_simp
end Go.Proofs.Ytmfkhbofmaonkaa
