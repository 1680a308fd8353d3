/-
  What the document's Rename does (missiveref04), over this seat's program.
-/
import Derived.Test.YtmfkhbofmaonkaaDqo
import Derived.Test.YtmfkhbofmaonkaaDrn
set_option linter.unusedVariables false
set_option linter.unusedSimpArgs false
namespace Go.Proofs.Ytmfkhbofmaonkaa
open Go.RowKit Go.Proofs.Dsk

theorem woL_rise {l : List File} (h : Rise l) (n : ByteArray) : Rise (woL l n) := rise_filter h _
theorem woL_fits {l : List File} (h : ∀ f ∈ l, Fits f) (n : ByteArray) : ∀ f ∈ woL l n, Fits f := fun f hf => h f (List.mem_filter.1 hf).1
theorem lb_erase {l : List File} (h : Rise l) {n : ByteArray} (hn : has l n = true) : lb (l.eraseIdx (lb l n)) n = lb l n := by
  obtain ⟨hi, he⟩ := has_lb h hn
  have h1 := rise_erase h (lb l n)
  refine lb_is h1 (by rw [List.length_eraseIdx_of_lt hi]; omega) (fun j hj hjl => ?_) (fun hj => ?_)
  · rw [List.getElem_eraseIdx_of_lt hj hjl]
    exact lb_before h _ hjl
  · rw [List.getElem_eraseIdx_of_ge hj (Nat.le_refl _)]
    have hj2 : lb l n + 1 < l.length := by rw [List.length_eraseIdx_of_lt hi] at hj; omega
    exact lb_behind h hj2 (by omega)
theorem set_insert : ∀ {l : List File} {i : Nat} (hi : i < l.length) (f : File), l.set i f = (l.eraseIdx i).insertIdx i f
  | [], i, h, f => by simp at h
  | x :: l, 0, h, f => by simp
  | x :: l, i + 1, h, f => by
    rw [List.set_cons_succ, List.eraseIdx_cons_succ, List.insertIdx_succ_cons, set_insert (l := l) (i := i) (by simpa using h) f]
theorem woL_self {l : List File} {n : ByteArray} (h : has l n = false) : woL l n = l := by
  unfold woL
  rw [List.filter_eq_self]
  intro f hf
  simpa using has_not h f hf
/-- Taken out twice, and put in: what a file is called otherwise by. -/
theorem ren_with {l : List File} (h : Rise l) {i : Nat} (hi : i < l.length) (fr to : ByteArray) (hfr : l[i].name = fr) :
    renL l i to = (woL (woL l fr) to).insertIdx (lb (woL (woL l fr) to) to) ⟨to, l[i].data, l[i].synced⟩ := by
  have hg : l[i]! = l[i] := getElem!_pos l i hi
  have e1 : woL l fr = l.eraseIdx i := by rw [erase_filter h hi, hfr]; rfl
  rw [e1]
  have h1 := rise_erase h i
  unfold renL
  simp only [hg]
  by_cases hh : has (l.eraseIdx i) to = true
  · rw [if_pos hh]
    obtain ⟨hp, hn⟩ := has_lb h1 hh
    have e2 : woL (l.eraseIdx i) to = (l.eraseIdx i).eraseIdx (lb (l.eraseIdx i) to) := by rw [erase_filter h1 hp, hn]; rfl
    rw [e2, lb_erase h1 hh]
    exact set_insert hp _
  · rw [if_neg hh, woL_self (by simpa using hh)]

set_option maxHeartbeats 8000000 in
set_option maxRecDepth 100000 in
theorem refRename_any (d : Fs) (v : Value) (fr to : ByteArray) (w : World) (hfit : FitAll d) (h : RowF w v d.files) (hnt : NeatF v) (hl : d.files.length ≤ 1048576) (hto : to.size ≤ 281474976710656) :
    Calls Try.prog 9 #[fsV d v, .string fr, .string to] w fun e w' => ∃ v', e = .returned (.tuple #[fsV (renameR d fr to).1 v', .int .i64 (renameR d fr to).2]) ∧ RowF w' v' (renameR d fr to).1.files ∧ Below w.heap.size w w' := by
  have HPW := hide (fun (X : World) (hX : RowF X v d.files) => refPower_any d v X hfit.1 hX)
  have HAS := hide (fun (c : Nat) (X : World) (hX : RowF X v d.files) => refAs_any d v c X hfit hX hnt hl)
  have HCP := hide (fun (X : World) (hX : RowF X v d.files) => refCopy_any d v X hX hnt hl)
  have HAK := hide (fun (X : World) (hX : RowF X v d.files) => refAsks_any d v X hfit hX hnt hl)
  have HFD := hide (fun (n : ByteArray) (X : World) (hr : Rise d.files) (hX : RowF X v d.files) => refFind_any d.files v n X hr hX)
  have HFF := hide hfit.2.1
  obtain ⟨a, cap, hv, h63, _, hc⟩ := id h
  subst hv
  have HC := hide hc
  clear hc
  obtain ⟨N, hN⟩ : ∃ N, d.files.length = N := ⟨_, rfl⟩
  have HN := hide hN
  rw [hN] at h hnt h63 HPW HAS HAK HCP HFD hl ⊢
  have hb2 : Below w.heap.size w ((w.alloc (Obj.cells #[.int .i64 d.room, .slice a N cap, .int .i64 d.fuse, .int .i64 d.fault, .bool d.down] 24)).alloc (Obj.cells #[.int .i64 0, .slice none 0 0, .int .i64 0, .int .i64 0, .bool false] 24)) := ((Below.refl _ w).alloc (Nat.le_refl _) _).alloc (by simp) _
  have k0 : Blk ((w.alloc (Obj.cells #[.int .i64 d.room, .slice a N cap, .int .i64 d.fuse, .int .i64 d.fault, .bool d.down] 24)).alloc (Obj.cells #[.int .i64 0, .slice none 0 0, .int .i64 0, .int .i64 0, .bool false] 24)) w.heap.size 24 #[.int .i64 d.room, .slice a N cap, .int .i64 d.fuse, .int .i64 d.fault, .bool d.down] := (Blk.new w _ _).below ((Below.refl _ _).alloc (Nat.le_refl _) _)
  have k1 := Blk.new (w.alloc (Obj.cells #[.int .i64 d.room, .slice a N cap, .int .i64 d.fuse, .int .i64 d.fault, .bool d.down] 24)) 24 #[.int .i64 0, .slice none 0 0, .int .i64 0, .int .i64 0, .bool false]
  simp only [World.size_alloc] at k1
  have K := hide k0
  have Z := hide k1
  have R0 := hide (h.below hb2)
  have B := hide hb2
  clear k0 k1 hb2 hN h hnt hfit
  simp only [fsV] at HPW HAS HAK HCP ⊢
  have HNA := hide (fun (X : World) => refNamed_any to X (by omega))
  by_cases hrdy : ready d = 0
  · obtain ⟨hr, hdn⟩ := ready_zero hrdy
    rw [hrdy] at HPW
    have HRI := hide (right_parts hr).2.2.2
    have hN4 : N ≤ 1024 := by have := (right_parts hr).1.2.2.1; have := unhide HN; omega
    have hres : renameR d fr to = onR fr (renameC to) d := work_good2 _ hr hdn
    rw [hres]
    clear hres hrdy hdn
    cases hh : has d.files fr with
    | false =>
      have hon : onR fr (renameC to) d = (d, 3) := by unfold onR; rw [if_neg (by simp [hh])]
      rw [hon]
      have HF2 := hide (unhide HFD fr)
      simp only [hh, Bool.false_eq_true, if_false] at HF2
      clear HFD hon hh HNA
      have HFD := hide (fun (_ : ByteArray) => unhide HF2)
      clear HF2
      go_enter Try.func9, Try.ntmps9
      go_wp2_with fail
      refine (unhide HPW _ (unhide R0)).mono ?_
      rintro e w1 ⟨rfl, b1⟩
      have KN := hide ((unhide K).below b1)
      have ZN := hide ((unhide Z).below b1)
      have RN := hide ((unhide R0).below b1)
      have BN := hide (belows (unhide B) b1)
      clear K Z R0 B
      have K := KN
      have Z := ZN
      have R0 := RN
      have B := BN
      clear KN ZN RN BN
      clear b1 HPW
      have c0 := (unhide K).cell 0
      have c1 := (unhide K).cell 1
      have c2 := (unhide K).cell 2
      have c3 := (unhide K).cell 3
      have c4 := (unhide K).cell 4
      simp only [List.getElem?_toArray, List.getElem?_cons_succ, List.getElem?_cons_zero] at c0 c1 c2 c3 c4
      go_wp2_with fail
      clear c0 c1 c2 c3 c4
      refine (unhide HFD fr _ (unhide HRI) (unhide R0)).mono ?_
      rintro e w2 ⟨rfl, b2⟩
      have KN := hide ((unhide K).below b2)
      have ZN := hide ((unhide Z).below b2)
      have RN := hide ((unhide R0).below b2)
      have BN := hide (belows (unhide B) b2)
      clear K Z R0 B
      have K := KN
      have Z := ZN
      have R0 := RN
      have B := BN
      clear KN ZN RN BN
      clear b2
      have c0 := (unhide K).cell 0
      have c1 := (unhide K).cell 1
      have c2 := (unhide K).cell 2
      have c3 := (unhide K).cell 3
      have c4 := (unhide K).cell 4
      simp only [List.getElem?_toArray, List.getElem?_cons_succ, List.getElem?_cons_zero] at c0 c1 c2 c3 c4
      go_wp2_with fail
      clear c0 c1 c2 c3 c4
      refine (unhide HAS 3 _ (unhide R0)).mono ?_
      rintro e w9 ⟨v9, rfl, r9, _, b9⟩
      have KN := hide ((unhide K).below b9)
      have ZN := hide ((unhide Z).below b9)
      have RN := hide ((unhide R0).below b9)
      have BN := hide (belows (unhide B) b9)
      clear K Z R0 B
      have K := KN
      have Z := ZN
      have R0 := RN
      have B := BN
      clear KN ZN RN BN
      simp only [show ¬ (3 : Nat) = 2 by omega, if_false] at r9 ⊢
      obtain ⟨a9, cap9, hv9, _⟩ := id r9
      subst hv9
      rw [unhide HN] at r9 ⊢
      have R9 := hide r9
      clear r9 b9
      have e0 := (unhide Z).cell 0
      have e1 := (unhide Z).cell 1
      have e2 := (unhide Z).cell 2
      have e3 := (unhide Z).cell 3
      have e4 := (unhide Z).cell 4
      simp only [List.getElem?_toArray, List.getElem?_cons_succ, List.getElem?_cons_zero] at e0 e1 e2 e3 e4
      have f0 := (unhide Z).frozen 0
      have f1 := (unhide Z).frozen 1
      have f2 := (unhide Z).frozen 2
      have f3 := (unhide Z).frozen 3
      have f4 := (unhide Z).frozen 4
      have RB := hide (below5 (s := w.heap.size + 1) (unhide B) (by omega))
      have RR := hide (rowF5 (unhide R9) (unhide Z) (by intro i x; match i with | 0 | 1 | 2 | 3 | 4 => simp | i + 5 => simp))
      go_wp2
      (try simp only [Exit.inBlock, Exit.then])
      refine bodyPost_ret (v := .tuple #[.agg #[.int .i64 d.room, .slice a9 N cap9, .int .i64 d.fuse, .int .i64 d.fault, .bool d.down], .int .i64 3]) ?_ rfl ⟨_, rfl, unhide RR _ _ _ _ _, unhide RB _ _ _ _ _⟩
      rw [results_cell_tmp rfl]
      go_simp
    | true =>
      obtain ⟨hi, hnm⟩ := has_lb (unhide HRI) hh
      have hon : onR fr (renameC to) d = (renameC to) (lb d.files fr) d := by unfold onR; rw [if_pos hh]
      rw [hon]
      have HF2 := hide (unhide HFD fr)
      simp only [hh, if_true] at HF2
      clear HFD hon hh
      have HFD := hide (fun (_ : ByteArray) => unhide HF2)
      clear HF2
      obtain ⟨ix, hix⟩ : ∃ ix, lb d.files fr = ix := ⟨_, rfl⟩
      have hixl : ix < d.files.length := by rw [← hix]; exact hi
      have hfrn : d.files[ix].name = fr := by subst hix; exact hnm
      rw [hix] at HFD ⊢
      have hx0 : ¬ (ix : Int) < 0 := by omega
      have hxb : decide ((ix : Int) < 0) = false := decide_eq_false hx0
      have hixN : ix < N := by have := unhide HN; omega
      have hixi : (ix : Int) < (N : Int) := by omega
      clear hix hi hnm
      unfold renameC
      cases hnm : named to with
      | false =>
        rw [hnm] at HNA
        rw [if_pos rfl]
        clear hnm
        go_enter Try.func9, Try.ntmps9
        go_wp2_with fail
        refine (unhide HPW _ (unhide R0)).mono ?_
        rintro e w1 ⟨rfl, b1⟩
        have KN := hide ((unhide K).below b1)
        have ZN := hide ((unhide Z).below b1)
        have RN := hide ((unhide R0).below b1)
        have BN := hide (belows (unhide B) b1)
        clear K Z R0 B
        have K := KN
        have Z := ZN
        have R0 := RN
        have B := BN
        clear KN ZN RN BN
        clear b1 HPW
        have c0 := (unhide K).cell 0
        have c1 := (unhide K).cell 1
        have c2 := (unhide K).cell 2
        have c3 := (unhide K).cell 3
        have c4 := (unhide K).cell 4
        simp only [List.getElem?_toArray, List.getElem?_cons_succ, List.getElem?_cons_zero] at c0 c1 c2 c3 c4
        go_wp2_with fail
        clear c0 c1 c2 c3 c4
        refine (unhide HFD fr _ (unhide HRI) (unhide R0)).mono ?_
        rintro e w2 ⟨rfl, b2⟩
        have KN := hide ((unhide K).below b2)
        have ZN := hide ((unhide Z).below b2)
        have RN := hide ((unhide R0).below b2)
        have BN := hide (belows (unhide B) b2)
        clear K Z R0 B
        have K := KN
        have Z := ZN
        have R0 := RN
        have B := BN
        clear KN ZN RN BN
        clear b2
        go_wp2_with fail
        refine (unhide HNA _).mono ?_
        rintro e w4 ⟨rfl, h4⟩
        subst h4
        clear HNA
        have c0 := (unhide K).cell 0
        have c1 := (unhide K).cell 1
        have c2 := (unhide K).cell 2
        have c3 := (unhide K).cell 3
        have c4 := (unhide K).cell 4
        simp only [List.getElem?_toArray, List.getElem?_cons_succ, List.getElem?_cons_zero] at c0 c1 c2 c3 c4
        go_wp2_with fail
        clear c0 c1 c2 c3 c4
        refine (unhide HAS 1 _ (unhide R0)).mono ?_
        rintro e w9 ⟨v9, rfl, r9, _, b9⟩
        have KN := hide ((unhide K).below b9)
        have ZN := hide ((unhide Z).below b9)
        have RN := hide ((unhide R0).below b9)
        have BN := hide (belows (unhide B) b9)
        clear K Z R0 B
        have K := KN
        have Z := ZN
        have R0 := RN
        have B := BN
        clear KN ZN RN BN
        simp only [show ¬ (1 : Nat) = 2 by omega, if_false] at r9 ⊢
        obtain ⟨a9, cap9, hv9, _⟩ := id r9
        subst hv9
        rw [unhide HN] at r9 ⊢
        have R9 := hide r9
        clear r9 b9
        have e0 := (unhide Z).cell 0
        have e1 := (unhide Z).cell 1
        have e2 := (unhide Z).cell 2
        have e3 := (unhide Z).cell 3
        have e4 := (unhide Z).cell 4
        simp only [List.getElem?_toArray, List.getElem?_cons_succ, List.getElem?_cons_zero] at e0 e1 e2 e3 e4
        have f0 := (unhide Z).frozen 0
        have f1 := (unhide Z).frozen 1
        have f2 := (unhide Z).frozen 2
        have f3 := (unhide Z).frozen 3
        have f4 := (unhide Z).frozen 4
        have RB := hide (below5 (s := w.heap.size + 1) (unhide B) (by omega))
        have RR := hide (rowF5 (unhide R9) (unhide Z) (by intro i x; match i with | 0 | 1 | 2 | 3 | 4 => simp | i + 5 => simp))
        go_wp2
        (try simp only [Exit.inBlock, Exit.then])
        refine bodyPost_ret (v := .tuple #[.agg #[.int .i64 d.room, .slice a9 N cap9, .int .i64 d.fuse, .int .i64 d.fault, .bool d.down], .int .i64 1]) ?_ rfl ⟨_, rfl, unhide RR _ _ _ _ _, unhide RB _ _ _ _ _⟩
        rw [results_cell_tmp rfl]
        go_simp
      | true =>
        rw [hnm] at HNA
        rw [if_neg (by simp)]
        clear hnm
        by_cases hz : (changeR d id).2 = 0
        · obtain ⟨e1, e2⟩ := changeR_yes (d := d) (fun d => { d with files := renL d.files ix to }) hz
          rw [e2]
          rw [e1] at HAK
          have hfx := unhide HFF _ (List.getElem_mem hixl)
          have hft : Fits ⟨to, d.files[ix].data, d.files[ix].synced⟩ := ⟨Nat.le_trans hto (by decide), hfx.2⟩
          have hw1 := woL_len d.files fr
          have hw2 := woL_len (woL d.files fr) to
          rw [unhide HN] at hw1
          have HW1 := hide (fun (v : Value) (X : World) (hX : RowF X v d.files) => refWithout_any d.files v fr X (by have := unhide HN; omega) hX)
          have HW2 := hide (fun (v : Value) (X : World) (hX : RowF X v (woL d.files fr)) => refWithout_any (woL d.files fr) v to X (by omega) hX)
          have HW3 := hide (fun (v : Value) (X : World) (hX : RowF X v (woL (woL d.files fr) to)) (hnt : NeatF v) (hcp : ∀ a n c, v = .slice a n c → n ≤ c) => refWith_any (woL (woL d.files fr) to) v to d.files[ix].data d.files[ix].synced X (woL_rise (woL_rise (unhide HRI) _) _) (by omega) hX hnt hcp hft)
          rw [← ren_with (unhide HRI) hixl fr to hfrn] at HW3
          have HF1 := hide (woL_fits (unhide HFF) fr)
          have HF2 := hide (woL_fits (unhide HF1) to)
          have HFE : Hid (∀ f ∈ (renL d.files ix to), Fits f) := hide (fun f hf => ((List.mem_insertIdx (lb_le _ _)).1 (ren_with (unhide HRI) hixl fr to hfrn ▸ hf)).elim (fun h => by rw [h]; exact hft) (fun h => unhide HF2 f h))
          obtain ⟨M, hM⟩ : ∃ M, (renL d.files ix to).length = M := ⟨_, rfl⟩
          have HMM := hide hM
          rw [hM] at HW3
          have hMl : M ≤ N + 1 := by rw [← hM, ren_with (unhide HRI) hixl fr to hfrn, insert_len _ _ _ (lb_le _ _)]; omega
          have HG : Hid ((fun d : Fs => { d with files := renL d.files ix to }) (spent d) = ⟨(spent d).room, (renL d.files ix to), (spent d).fuse, (spent d).fault, (spent d).down⟩) := hide rfl
          clear hM e1 e2 hz hfx
          obtain ⟨nl, hnl⟩ : ∃ nl, (renL d.files ix to) = nl := ⟨_, rfl⟩
          have HNLE := hide hnl
          rw [hnl] at HW3 HFE HMM
          clear hnl
          generalize (woL (woL d.files fr) to) = l2 at *
          generalize (woL d.files fr) = l1 at *
          obtain ⟨n1, hn1⟩ : ∃ n1, l1.length = n1 := ⟨_, rfl⟩
          obtain ⟨n2, hn2⟩ : ∃ n2, l2.length = n2 := ⟨_, rfl⟩
          have HN1 := hide hn1
          have HN2 := hide hn2
          rw [hn1] at HW1 hw1 hw2
          rw [hn2] at HW2 hw2
          clear hn1 hn2
          go_enter Try.func9, Try.ntmps9
          go_wp2_with fail
          refine (unhide HPW _ (unhide R0)).mono ?_
          rintro e w1 ⟨rfl, b1⟩
          have KN := hide ((unhide K).below b1)
          have ZN := hide ((unhide Z).below b1)
          have RN := hide ((unhide R0).below b1)
          have BN := hide (belows (unhide B) b1)
          clear K Z R0 B
          have K := KN
          have Z := ZN
          have R0 := RN
          have B := BN
          clear KN ZN RN BN
          clear b1 HPW
          have c0 := (unhide K).cell 0
          have c1 := (unhide K).cell 1
          have c2 := (unhide K).cell 2
          have c3 := (unhide K).cell 3
          have c4 := (unhide K).cell 4
          simp only [List.getElem?_toArray, List.getElem?_cons_succ, List.getElem?_cons_zero] at c0 c1 c2 c3 c4
          go_wp2_with fail
          clear c0 c1 c2 c3 c4
          refine (unhide HFD fr _ (unhide HRI) (unhide R0)).mono ?_
          rintro e w2 ⟨rfl, b2⟩
          have KN := hide ((unhide K).below b2)
          have ZN := hide ((unhide Z).below b2)
          have RN := hide ((unhide R0).below b2)
          have BN := hide (belows (unhide B) b2)
          clear K Z R0 B
          have K := KN
          have Z := ZN
          have R0 := RN
          have B := BN
          clear KN ZN RN BN
          clear b2
          go_wp2_with fail
          refine (unhide HNA _).mono ?_
          rintro e w4 ⟨rfl, h4⟩
          subst h4
          clear HNA
          have c0 := (unhide K).cell 0
          have c1 := (unhide K).cell 1
          have c2 := (unhide K).cell 2
          have c3 := (unhide K).cell 3
          have c4 := (unhide K).cell 4
          simp only [List.getElem?_toArray, List.getElem?_cons_succ, List.getElem?_cons_zero] at c0 c1 c2 c3 c4
          go_wp2_with fail
          clear c0 c1 c2 c3 c4
          refine (unhide HAK _ (unhide R0)).mono ?_
          rintro e w3 ⟨v3, rfl, own3, b3⟩
          have hs3 := b3.size
          have hsb := (unhide B).size
          have hz3 : w.heap.size + 1 < w3.heap.size := Nat.lt_of_lt_of_le (unhide Z).lt b3.size
          obtain ⟨g, cap3, hv3, hgb, hgl, hcel, hfrz⟩ := own_at3 own3 (by have := unhide HN; omega) hixl
          subst hv3
          have bal : Below w3.heap.size w3 (w3.alloc (Obj.cells #[.int .i64 (spent d).room, .slice (some ⟨g, 0, none⟩) N cap3, .int .i64 (spent d).fuse, .int .i64 (spent d).fault, .bool (spent d).down] 24)) := (Below.refl _ _).alloc (Nat.le_refl _) _
          have KX := hide (Blk.new w3 24 #[.int .i64 (spent d).room, .slice (some ⟨g, 0, none⟩) N cap3, .int .i64 (spent d).fuse, .int .i64 (spent d).fault, .bool (spent d).down])
          have r3 := rowF_of_own (l := d.files) (by rw [unhide HN]; exact own3) (by have := unhide HN; omega) (unhide HFF)
          have R3 := hide (r3.below bal)
          have KN := hide ((unhide K).below b3)
          have ZN := hide ((unhide Z).below b3)
          have RN := hide ((unhide R0).below b3)
          have BN := hide (belows (unhide B) b3)
          clear K Z R0 B
          have K := KN
          have Z := ZN
          have R0 := RN
          have B := BN
          clear KN ZN RN BN
          have KN := hide ((unhide K).below bal)
          have ZN := hide ((unhide Z).below bal)
          have RN := hide ((unhide R0).below bal)
          have BN := hide (belows (unhide B) bal)
          clear K Z R0 B
          have K := KN
          have Z := ZN
          have R0 := RN
          have B := BN
          clear KN ZN RN BN
          have g0 : (w3.alloc (Obj.cells #[.int .i64 (spent d).room, .slice (some ⟨g, 0, none⟩) N cap3, .int .i64 (spent d).fuse, .int .i64 (spent d).fault, .bool (spent d).down] 24)).cell? ⟨g, ix * 3, none⟩ = some (.string d.files[ix].name) := (bal.cell (p := ⟨g, ix * 3, none⟩) hgl).trans hcel.1
          have g1 : (w3.alloc (Obj.cells #[.int .i64 (spent d).room, .slice (some ⟨g, 0, none⟩) N cap3, .int .i64 (spent d).fuse, .int .i64 (spent d).fault, .bool (spent d).down] 24)).cell? ⟨g, ix * 3 + 1, none⟩ = some (.string d.files[ix].data) := (bal.cell (p := ⟨g, ix * 3 + 1, none⟩) hgl).trans hcel.2.1
          have g2 : (w3.alloc (Obj.cells #[.int .i64 (spent d).room, .slice (some ⟨g, 0, none⟩) N cap3, .int .i64 (spent d).fuse, .int .i64 (spent d).fault, .bool (spent d).down] 24)).cell? ⟨g, ix * 3 + 2, none⟩ = some (.int .i64 d.files[ix].synced) := (bal.cell (p := ⟨g, ix * 3 + 2, none⟩) hgl).trans hcel.2.2
          have hxs : w3.heap.size < (w3.alloc (Obj.cells #[.int .i64 (spent d).room, .slice (some ⟨g, 0, none⟩) N cap3, .int .i64 (spent d).fuse, .int .i64 (spent d).fault, .bool (spent d).down] 24)).heap.size := by simp
          clear bal b3 own3 r3 HAK hcel hfrz
          go_upto_region 12 with (fail)
          generalize (w3.alloc (Obj.cells #[.int .i64 (spent d).room, .slice (some ⟨g, 0, none⟩) N cap3, .int .i64 (spent d).fuse, .int .i64 (spent d).fault, .bool (spent d).down] 24)) = X at *
          have x1 := (unhide KX).cell 1
          simp only [List.getElem?_toArray, List.getElem?_cons_succ, List.getElem?_cons_zero] at x1
          generalize hnn : d.files[ix].name = n0 at g0
          generalize d.files[ix].data = dt at *
          generalize d.files[ix].synced = sy at *
          clear hnn hfrn
          have bU : Below X.heap.size X (X.alloc (Obj.cells #[.string to, .string dt, .int .i64 sy] 56)) := (Below.refl _ _).alloc (Nat.le_refl _) _
          have KF : Hid (Blk (X.alloc (Obj.cells #[.string to, .string dt, .int .i64 sy] 56)) X.heap.size 56 #[.string to, .string dt, .int .i64 sy]) := hide (Blk.new X 56 #[.string to, .string dt, .int .i64 sy])
          have KU := hide ((unhide KX).below bU)
          have R3U := hide ((unhide R3).below bU)
          have KN := hide ((unhide K).below bU)
          have ZN := hide ((unhide Z).below bU)
          have RN := hide ((unhide R0).below bU)
          have BN := hide (belows (unhide B) bU)
          clear K Z R0 B
          have K := KN
          have Z := ZN
          have R0 := RN
          have B := BN
          clear KN ZN RN BN
          clear KX R3
          go_upto_region 14 with (fail)
          generalize (X.alloc (Obj.cells #[.string to, .string dt, .int .i64 sy] 56)) = U at *
          clear x1 g0 g1 g2
          generalize X.heap.size = q at *
          clear bU
          have HS : Hid (∀ Y, Below U.heap.size U Y → (fun w' => w'.cell? ⟨q, 0, none⟩ = some (.string to) ∧ w'.cell? ⟨q, 1, none⟩ = some (.string dt) ∧ w'.cell? ⟨q, 2, none⟩ = some (.int .i64 sy)) Y) := hide (fun Y hY => by
              have k := (unhide KF).below hY
              have c0 := k.cell 0
              have c1 := k.cell 1
              have c2 := k.cell 2
              simp only [List.getElem?_toArray, List.getElem?_cons_succ, List.getElem?_cons_zero] at c0 c1 c2
              exact ⟨c0, c1, c2⟩)
          have bD : Below U.heap.size U U.drew := below_dr1 (Below.refl _ _)
          have x1 := ((unhide KU).below bD).cell 1
          simp only [List.getElem?_toArray, List.getElem?_cons_succ, List.getElem?_cons_zero] at x1
          have hqw : q ≠ w3.heap.size := by omega
          refine wp_region_held_drew (S := fun w' => w'.cell? ⟨q, 0, none⟩ = some (.string to) ∧ w'.cell? ⟨q, 1, none⟩ = some (.string dt) ∧ w'.cell? ⟨q, 2, none⟩ = some (.int .i64 sy)) (by kernel_rfl) ?_ (fun hHeld => ?_)
          · exact unhide HS _ bD
          refine wpAnyH_take (i := 0) (v := .pointer (some ⟨w3.heap.size, 1, none⟩)) rfl (by kernel_rfl) (by kernel_rfl) (by kernel_rfl) (fun _ _ _ h => h) (Or.inl ⟨by rfl, fun wS hSw => ?_⟩) (by assumption) ?_
          · (try dsimp only at hSw); go_simp
          (try simp only [Act.put, List.setIfInBounds_toArray, List.set_cons_zero, List.set_cons_succ])
          refine wpAnyH_take (i := 2) (v := .string fr) rfl (by kernel_rfl) (by kernel_rfl) (by kernel_rfl) (fun _ _ _ h => h) (Or.inl ⟨by rfl, fun wS hSw => ?_⟩) (by assumption) ?_
          · (try dsimp only at hSw); go_simp
          (try simp only [Act.put, List.setIfInBounds_toArray, List.set_cons_zero, List.set_cons_succ])
          refine wpAnyH_take (i := 4) (v := .string to) rfl (by kernel_rfl) (by kernel_rfl) (by kernel_rfl) (fun _ _ _ h => h) (Or.inl ⟨by rfl, fun wS hSw => ?_⟩) (by assumption) ?_
          · (try dsimp only at hSw); go_simp
          (try simp only [Act.put, List.setIfInBounds_toArray, List.set_cons_zero, List.set_cons_succ])
          refine wpAnyH_take (i := 6) (v := .agg #[.string to, .string dt, .int .i64 sy]) rfl (by kernel_rfl) (by kernel_rfl) (by kernel_rfl) (fun _ _ _ h => h) (Or.inl ⟨by rfl, fun wS hSw => ?_⟩) (by assumption) ?_
          · (try dsimp only at hSw); go_simp
          (try simp only [Act.put, List.setIfInBounds_toArray, List.set_cons_zero, List.set_cons_succ])
          refine wpAnyH_ready (rs := [1]) (by kernel_rfl) (by simp) ?_
          refine AllReadyH.cons rfl (fun K hK => ?_) AllReadyH.nil
          go_simp
          refine hK.out _ _ ?_ (fun hHeld => ?_)
          · exact hHeld
          clear hK K
          (try simp only [Act.put, List.setIfInBounds_toArray, List.set_cons_zero, List.set_cons_succ])
          refine wpAnyH_ready (rs := [3]) (by kernel_rfl) (by simp) ?_
          refine AllReadyH.cons rfl (fun K hK => ?_) AllReadyH.nil
          go_simp
          refine (unhide HW1 _ _ ((unhide R3U).below bD)).mono ?_
          rintro e y1 ⟨v1, rfl, own1, bb1⟩
          have b1 : Below U.heap.size U y1 := belows bD bb1
          have r1 := rowF_of_own (l := l1) (by rw [unhide HN1]; exact own1) (by rw [unhide HN1]; omega) (unhide HF1)
          go_wp2_with fail
          refine hK.out _ _ ?_ (fun hHeld => ?_)
          · exact unhide HS _ b1
          clear hK K
          (try simp only [Act.put, List.setIfInBounds_toArray, List.set_cons_zero, List.set_cons_succ])
          refine wpAnyH_ready (rs := [5]) (by kernel_rfl) (by simp) ?_
          refine AllReadyH.cons rfl (fun K hK => ?_) AllReadyH.nil
          go_simp
          refine (unhide HW2 _ _ r1).mono ?_
          rintro e y2 ⟨v2, rfl, own2, bb2⟩
          have b2 : Below U.heap.size U y2 := belows b1 bb2
          have r2 := rowF_of_own (l := l2) (by rw [unhide HN2]; exact own2) (by rw [unhide HN2]; omega) (unhide HF2)
          have nt2 := neat_own own2
          have cp2 := own_cap own2
          go_wp2_with fail
          refine hK.out _ _ ?_ (fun hHeld => ?_)
          · exact unhide HS _ b2
          clear hK K
          (try simp only [Act.put, List.setIfInBounds_toArray, List.set_cons_zero, List.set_cons_succ])
          refine wpAnyH_ready (rs := [7]) (by kernel_rfl) (by simp) ?_
          refine AllReadyH.cons rfl (fun K hK => ?_) AllReadyH.nil
          go_simp
          refine (unhide HW3 _ _ r2 nt2 cp2).mono ?_
          rintro e w4 ⟨v4, rfl, own4, bb3⟩
          have b4 : Below U.heap.size U w4 := belows b2 bb3
          obtain ⟨a4, cap4, rfl⟩ := own_form own4
          go_wp2_with fail
          refine hK.out _ _ ?_ (fun hHeld => ?_)
          · exact unhide HS _ b4
          clear hK K
          (try simp only [Act.put, List.setIfInBounds_toArray, List.set_cons_zero, List.set_cons_succ])
          refine wpAnyH_take (i := 8) (v := .pointer (some ⟨w3.heap.size, 1, none⟩)) rfl (by kernel_rfl) (by kernel_rfl) (by kernel_rfl) (fun _ _ _ h => h) (Or.inl ⟨by rfl, fun wS hSw => ?_⟩) (by assumption) ?_
          · (try dsimp only at hSw); go_simp
          (try simp only [Act.put, List.setIfInBounds_toArray, List.set_cons_zero, List.set_cons_succ])
          refine wpAnyH_ready (rs := [9]) (by kernel_rfl) (by simp) ?_
          refine AllReadyH.cons rfl (fun K hK => ?_) AllReadyH.nil
          have KX4 := hide ((unhide KU).below b4)
          have z1 := (unhide KX4).cell 1
          simp only [List.getElem?_toArray, List.getElem?_cons_succ, List.getElem?_cons_zero] at z1
          have y1f := (unhide KX4).frozen 1
          go_simp
          refine hK.out _ _ ?_ (fun hHeld => ?_)
          · obtain ⟨s0, s1, s2⟩ := unhide HS _ b4; exact ⟨(World.cell?_setCell_far _ _ _ _ (fun e => hqw e.symm)).trans s0, (World.cell?_setCell_far _ _ _ _ (fun e => hqw e.symm)).trans s1, (World.cell?_setCell_far _ _ _ _ (fun e => hqw e.symm)).trans s2⟩
          clear hK K
          (try simp only [Act.put, List.setIfInBounds_toArray, List.set_cons_zero, List.set_cons_succ])
          refine wpAnyH_done (by kernel_rfl) ?_ _
          have KN := hide ((unhide K).below b4)
          have ZN := hide ((unhide Z).below b4)
          have RN := hide ((unhide R0).below b4)
          have BN := hide (belows (unhide B) b4)
          clear K Z R0 B
          have K := KN
          have Z := ZN
          have R0 := RN
          have B := BN
          clear KN ZN RN BN
          have KY : Hid (Blk (w4.setCell ⟨w3.heap.size, 1, none⟩ (.slice a4 M cap4)) w3.heap.size 24 #[.int .i64 (spent d).room, .slice a4 M cap4, .int .i64 (spent d).fuse, .int .i64 (spent d).fault, .bool (spent d).down]) := hide ((unhide KX4).set 1 _)
          have ZY := hide (blk_far (b := w3.heap.size) (i := 1) (unhide Z) (by omega) (.slice a4 M cap4))
          have BY := hide ((unhide B).setCell (p := ⟨w3.heap.size, 1, none⟩) (show w.heap.size ≤ w3.heap.size by omega) (.slice a4 M cap4))
          have RY : Hid (RowF (w4.setCell ⟨w3.heap.size, 1, none⟩ (.slice a4 M cap4)) (.slice a4 M cap4) nl) := hide (rowF_of_own (l := nl) (by rw [unhide HMM]; exact own_set own4 (own_ne own4 (unhide KX4) (by decide))) (by have := unhide HMM; omega) (unhide HFE))
          have hdr := below_dr1 (Below.refl (w4.setCell ⟨w3.heap.size, 1, none⟩ (.slice a4 M cap4)).heap.size (w4.setCell ⟨w3.heap.size, 1, none⟩ (.slice a4 M cap4)))
          clear own1 own2 own4 r1 r2 bb1 bb2 bb3 z1 y1f x1 hHeld
          go_upto_region 15 with (fail)
          generalize (w4.setCell ⟨w3.heap.size, 1, none⟩ (.slice a4 M cap4)) = Y at *
          clear Z B K R0 KX4
          have Z := ZY
          have B := BY
          clear ZY BY
          have x0 := (unhide KY).cell 0
          have x1 := (unhide KY).cell 1
          have x2 := (unhide KY).cell 2
          have x3 := (unhide KY).cell 3
          have x4 := (unhide KY).cell 4
          simp only [List.getElem?_toArray, List.getElem?_cons_succ, List.getElem?_cons_zero] at x0 x1 x2 x3 x4
          have e0 := (unhide Z).cell 0
          have e1 := (unhide Z).cell 1
          have e2 := (unhide Z).cell 2
          have e3 := (unhide Z).cell 3
          have e4 := (unhide Z).cell 4
          simp only [List.getElem?_toArray, List.getElem?_cons_succ, List.getElem?_cons_zero] at e0 e1 e2 e3 e4
          have f0 := (unhide Z).frozen 0
          have f1 := (unhide Z).frozen 1
          have f2 := (unhide Z).frozen 2
          have f3 := (unhide Z).frozen 3
          have f4 := (unhide Z).frozen 4
          have RB := hide (below5 (s := w.heap.size + 1) (unhide B) (by omega))
          have RR := hide (rowF5 (show RowF Y (.slice a4 M cap4) (renL (spent d).files ix to) from (show renL (spent d).files ix to = nl from unhide HNLE) ▸ unhide RY) (unhide Z) (by intro i x; match i with | 0 | 1 | 2 | 3 | 4 => simp | i + 5 => simp))
          go_wp2
          (try simp only [Exit.inBlock, Exit.then])
          refine bodyPost_ret (v := .tuple #[.agg #[.int .i64 (spent d).room, .slice a4 M cap4, .int .i64 (spent d).fuse, .int .i64 (spent d).fault, .bool (spent d).down], .int .i64 0]) ?_ rfl ⟨_, rfl, unhide RR _ _ _ _ _, unhide RB _ _ _ _ _⟩
          rw [results_cell_tmp rfl]
          go_simp
        · rw [changeR_no (fun d => { d with files := renL d.files ix to }) hz]
          have hfl := changeR_files d
          generalize changeR d id = res at HAK hz hfl ⊢
          obtain ⟨xx, n3⟩ := res
          simp only at HAK hz hfl ⊢
          have hn0 : ((n3 : Int) == 0) = false := by simp; omega
          have hn1 : ¬ (n3 : Int) = 0 := by omega
          have HFL := hide hfl
          clear hz hfl
          go_enter Try.func9, Try.ntmps9
          go_wp2_with fail
          refine (unhide HPW _ (unhide R0)).mono ?_
          rintro e w1 ⟨rfl, b1⟩
          have KN := hide ((unhide K).below b1)
          have ZN := hide ((unhide Z).below b1)
          have RN := hide ((unhide R0).below b1)
          have BN := hide (belows (unhide B) b1)
          clear K Z R0 B
          have K := KN
          have Z := ZN
          have R0 := RN
          have B := BN
          clear KN ZN RN BN
          clear b1 HPW
          have c0 := (unhide K).cell 0
          have c1 := (unhide K).cell 1
          have c2 := (unhide K).cell 2
          have c3 := (unhide K).cell 3
          have c4 := (unhide K).cell 4
          simp only [List.getElem?_toArray, List.getElem?_cons_succ, List.getElem?_cons_zero] at c0 c1 c2 c3 c4
          go_wp2_with fail
          clear c0 c1 c2 c3 c4
          refine (unhide HFD fr _ (unhide HRI) (unhide R0)).mono ?_
          rintro e w2 ⟨rfl, b2⟩
          have KN := hide ((unhide K).below b2)
          have ZN := hide ((unhide Z).below b2)
          have RN := hide ((unhide R0).below b2)
          have BN := hide (belows (unhide B) b2)
          clear K Z R0 B
          have K := KN
          have Z := ZN
          have R0 := RN
          have B := BN
          clear KN ZN RN BN
          clear b2
          go_wp2_with fail
          refine (unhide HNA _).mono ?_
          rintro e w4 ⟨rfl, h4⟩
          subst h4
          clear HNA
          have c0 := (unhide K).cell 0
          have c1 := (unhide K).cell 1
          have c2 := (unhide K).cell 2
          have c3 := (unhide K).cell 3
          have c4 := (unhide K).cell 4
          simp only [List.getElem?_toArray, List.getElem?_cons_succ, List.getElem?_cons_zero] at c0 c1 c2 c3 c4
          go_wp2_with fail
          clear c0 c1 c2 c3 c4
          refine (unhide HAK _ (unhide R0)).mono ?_
          rintro e w3 ⟨v3, rfl, own3, b3⟩
          have hs3 := b3.size
          have hsb := (unhide B).size
          have hz3 : w.heap.size + 1 < w3.heap.size := Nat.lt_of_lt_of_le (unhide Z).lt b3.size
          obtain ⟨a3, cap3, rfl⟩ := own_form own3
          have bal : Below w3.heap.size w3 (w3.alloc (Obj.cells #[.int .i64 xx.room, .slice a3 N cap3, .int .i64 xx.fuse, .int .i64 xx.fault, .bool xx.down] 24)) := (Below.refl _ _).alloc (Nat.le_refl _) _
          have r3 := rowF_of_own (l := d.files) (by rw [unhide HN]; exact own3) (by have := unhide HN; omega) (unhide HFF)
          have R3 := hide (r3.below bal)
          have KX := hide (Blk.new w3 24 #[.int .i64 xx.room, .slice a3 N cap3, .int .i64 xx.fuse, .int .i64 xx.fault, .bool xx.down])
          have KN := hide ((unhide K).below b3)
          have ZN := hide ((unhide Z).below b3)
          have RN := hide ((unhide R0).below b3)
          have BN := hide (belows (unhide B) b3)
          clear K Z R0 B
          have K := KN
          have Z := ZN
          have R0 := RN
          have B := BN
          clear KN ZN RN BN
          have KN := hide ((unhide K).below bal)
          have ZN := hide ((unhide Z).below bal)
          have RN := hide ((unhide R0).below bal)
          have BN := hide (belows (unhide B) bal)
          clear K Z R0 B
          have K := KN
          have Z := ZN
          have R0 := RN
          have B := BN
          clear KN ZN RN BN
          clear bal b3 own3 r3 HAK
          go_upto_region 11 with (fail)
          generalize (w3.alloc (Obj.cells #[.int .i64 xx.room, .slice a3 N cap3, .int .i64 xx.fuse, .int .i64 xx.fault, .bool xx.down] 24)) = Y at *
          have x0 := (unhide KX).cell 0
          have x1 := (unhide KX).cell 1
          have x2 := (unhide KX).cell 2
          have x3 := (unhide KX).cell 3
          have x4 := (unhide KX).cell 4
          simp only [List.getElem?_toArray, List.getElem?_cons_succ, List.getElem?_cons_zero] at x0 x1 x2 x3 x4
          have e0 := (unhide Z).cell 0
          have e1 := (unhide Z).cell 1
          have e2 := (unhide Z).cell 2
          have e3 := (unhide Z).cell 3
          have e4 := (unhide Z).cell 4
          simp only [List.getElem?_toArray, List.getElem?_cons_succ, List.getElem?_cons_zero] at e0 e1 e2 e3 e4
          have f0 := (unhide Z).frozen 0
          have f1 := (unhide Z).frozen 1
          have f2 := (unhide Z).frozen 2
          have f3 := (unhide Z).frozen 3
          have f4 := (unhide Z).frozen 4
          have RB := hide (below5 (s := w.heap.size + 1) (unhide B) (by omega))
          have RR := hide (rowF5 (show RowF Y (.slice a3 N cap3) xx.files by rw [unhide HFL]; exact unhide R3) (unhide Z) (by intro i x; match i with | 0 | 1 | 2 | 3 | 4 => simp | i + 5 => simp))
          go_wp2
          (try simp only [Exit.inBlock, Exit.then])
          refine bodyPost_ret (v := .tuple #[.agg #[.int .i64 xx.room, .slice a3 N cap3, .int .i64 xx.fuse, .int .i64 xx.fault, .bool xx.down], .int .i64 n3]) ?_ rfl ⟨_, rfl, unhide RR _ _ _ _ _, unhide RB _ _ _ _ _⟩
          rw [results_cell_tmp rfl]
          go_simp
  · have hne : ready d ≠ 0 := hrdy
    have hres : renameR d fr to = (if ready d = 2 then zeroFs else d, ready d) := work_bad _ hrdy
    rw [hres]
    have hc1 : (((ready d : Nat) : Int) == 0) = false := by simp; omega
    have hc2 : ¬ ((ready d : Nat) : Int) = 0 := by omega
    generalize ready d = rc at *
    have HA1 := hide (fun (X : World) hX => unhide HAS rc X hX)
    generalize (if rc = 2 then zeroFs else d) = x9 at HA1 ⊢
    clear hres hrdy hne HAS HNA
    have HAS := hide (fun (_ : Nat) => unhide HA1)
    clear HA1
    go_enter Try.func9, Try.ntmps9
    go_wp2_with fail
    refine (unhide HPW _ (unhide R0)).mono ?_
    rintro e w1 ⟨rfl, b1⟩
    have KN := hide ((unhide K).below b1)
    have ZN := hide ((unhide Z).below b1)
    have RN := hide ((unhide R0).below b1)
    have BN := hide (belows (unhide B) b1)
    clear K Z R0 B
    have K := KN
    have Z := ZN
    have R0 := RN
    have B := BN
    clear KN ZN RN BN
    clear b1 HPW
    have c0 := (unhide K).cell 0
    have c1 := (unhide K).cell 1
    have c2 := (unhide K).cell 2
    have c3 := (unhide K).cell 3
    have c4 := (unhide K).cell 4
    simp only [List.getElem?_toArray, List.getElem?_cons_succ, List.getElem?_cons_zero] at c0 c1 c2 c3 c4
    go_wp2_with fail
    clear c0 c1 c2 c3 c4
    refine (unhide HAS rc _ (unhide R0)).mono ?_
    rintro e w9 ⟨v9, rfl, r9, _, b9⟩
    have KN := hide ((unhide K).below b9)
    have ZN := hide ((unhide Z).below b9)
    have RN := hide ((unhide R0).below b9)
    have BN := hide (belows (unhide B) b9)
    clear K Z R0 B
    have K := KN
    have Z := ZN
    have R0 := RN
    have B := BN
    clear KN ZN RN BN
    obtain ⟨a9, cap9, hv9, _⟩ := id r9
    subst hv9
    have R9 := hide r9
    clear r9 b9
    have e0 := (unhide Z).cell 0
    have e1 := (unhide Z).cell 1
    have e2 := (unhide Z).cell 2
    have e3 := (unhide Z).cell 3
    have e4 := (unhide Z).cell 4
    simp only [List.getElem?_toArray, List.getElem?_cons_succ, List.getElem?_cons_zero] at e0 e1 e2 e3 e4
    have f0 := (unhide Z).frozen 0
    have f1 := (unhide Z).frozen 1
    have f2 := (unhide Z).frozen 2
    have f3 := (unhide Z).frozen 3
    have f4 := (unhide Z).frozen 4
    have RB := hide (below5 (s := w.heap.size + 1) (unhide B) (by omega))
    have RR := hide (rowF5 (unhide R9) (unhide Z) (by intro i x; match i with | 0 | 1 | 2 | 3 | 4 => simp | i + 5 => simp))
    go_wp2
    (try simp only [Exit.inBlock, Exit.then])
    refine bodyPost_ret (v := .tuple #[.agg #[.int .i64 x9.room, .slice a9 x9.files.length cap9, .int .i64 x9.fuse, .int .i64 x9.fault, .bool x9.down], .int .i64 rc]) ?_ rfl ⟨_, rfl, unhide RR _ _ _ _ _, unhide RB _ _ _ _ _⟩
    rw [results_cell_tmp rfl]
    go_simp
end Go.Proofs.Ytmfkhbofmaonkaa
