/-
  What the document's Sync does (missiveref04), over this seat's program.
-/
import Derived.Test.YtmfkhbofmaonkaaDqh
import Derived.Deep.RegionHeld3
set_option linter.unusedVariables false
set_option linter.unusedSimpArgs false
namespace Go.Proofs.Ytmfkhbofmaonkaa
open Go.RowKit Go.Proofs.Dsk

/-- The cells of a file of an own row. -/
theorem own_at3 {w : World} {C N : Nat} {v : Value} {l : List File} (h : w.ownsRow C 56 3 v N (flatF l)) (hN : l.length = N) {i : Nat} (hi : i < l.length) :
    ∃ g cap, v = .slice (some ⟨g, 0, none⟩) N cap ∧ C ≤ g ∧ g < w.heap.size ∧ (w.cell? ⟨g, i * 3, none⟩ = some (.string l[i].name) ∧ w.cell? ⟨g, i * 3 + 1, none⟩ = some (.string l[i].data) ∧ w.cell? ⟨g, i * 3 + 2, none⟩ = some (.int .i64 l[i].synced)) ∧ ∀ j, w.frozen? ⟨g, j, none⟩ = false := by
  subst hN
  rcases h.2 with ⟨_, hz⟩ | ⟨g, cap, cur, hv, hb, hg, _⟩
  · omega
  · subst hv
    obtain ⟨t0, t1, t2⟩ := flatF_get l i hi
    exact ⟨g, cap, rfl, hb, (Array.getElem?_eq_some_iff.1 hg).1, ⟨(h.cellAt (i * 3) (by omega)).trans t0, (h.cellAt (i * 3 + 1) (by omega)).trans t1, (h.cellAt (i * 3 + 2) (by omega)).trans t2⟩, fun j => h.frozenAt _⟩
theorem own_heap {w : World} {C N g cap : Nat} {xs : List Value} (h : w.ownsRow C 56 3 (.slice (some ⟨g, 0, none⟩) N cap) N xs) : ∃ cur fr, w.heap[g]? = some (.cells cur 56 fr) := by
  rcases h.2 with ⟨h0, _⟩ | ⟨g', cap', cur, hv, hb, hg, _⟩
  · simp at h0
  · simp only [Value.slice.injEq, Option.some.injEq, Addr.mk.injEq, and_true, true_and] at hv
    obtain ⟨rfl, rfl⟩ := hv
    exact ⟨cur, _, hg⟩
theorem blkz_ne {w : World} {p g : Nat} {t e : TypeId} {cs : Array Value} (h : Blk w p t cs) (hg : ∃ cur fr, w.heap[g]? = some (.cells cur e fr)) (hte : t ≠ e) : p ≠ g := by
  obtain ⟨cur, fr, hg⟩ := hg
  exact blk_ne h hg hte

set_option maxHeartbeats 8000000 in
set_option maxRecDepth 100000 in
theorem refSync_any (d : Fs) (v : Value) (n : ByteArray) (w : World) (hfit : FitAll d) (h : RowF w v d.files) (hnt : NeatF v) (hl : d.files.length ≤ 1048576) :
    Calls Try.prog 24 #[fsV d v, .string n] w fun e w' => ∃ v', e = .returned (.tuple #[fsV (syncR d n).1 v', .int .i64 (syncR d n).2]) ∧ RowF w' v' (syncR d n).1.files ∧ Below w.heap.size w w' := by
  have HPW := hide (fun (X : World) (hX : RowF X v d.files) => refPower_any d v X hfit.1 hX)
  have HAS := hide (fun (c : Nat) (X : World) (hX : RowF X v d.files) => refAs_any d v c X hfit hX hnt hl)
  have HCP := hide (fun (X : World) (hX : RowF X v d.files) => refCopy_any d v X hX hnt hl)
  have HAK := hide (fun (X : World) (hX : RowF X v d.files) => refAsks_any d v X hfit hX hnt hl)
  have HFD := hide (fun (n : ByteArray) (X : World) (hr : Rise d.files) (hX : RowF X v d.files) => refFind_any d.files v n X hr hX)
  have HFF := hide hfit.2.1
  obtain ⟨a, cap, hv, h63, _, hc⟩ := id h
  subst hv
  have HC := hide hc
  clear hc
  obtain ⟨N, hN⟩ : ∃ N, d.files.length = N := ⟨_, rfl⟩
  have HN := hide hN
  rw [hN] at h hnt h63 HPW HAS HAK HCP HFD hl ⊢
  have hb2 : Below w.heap.size w ((w.alloc (Obj.cells #[.int .i64 d.room, .slice a N cap, .int .i64 d.fuse, .int .i64 d.fault, .bool d.down] 24)).alloc (Obj.cells #[.int .i64 0, .slice none 0 0, .int .i64 0, .int .i64 0, .bool false] 24)) := ((Below.refl _ w).alloc (Nat.le_refl _) _).alloc (by simp) _
  have k0 : Blk ((w.alloc (Obj.cells #[.int .i64 d.room, .slice a N cap, .int .i64 d.fuse, .int .i64 d.fault, .bool d.down] 24)).alloc (Obj.cells #[.int .i64 0, .slice none 0 0, .int .i64 0, .int .i64 0, .bool false] 24)) w.heap.size 24 #[.int .i64 d.room, .slice a N cap, .int .i64 d.fuse, .int .i64 d.fault, .bool d.down] := (Blk.new w _ _).below ((Below.refl _ _).alloc (Nat.le_refl _) _)
  have k1 := Blk.new (w.alloc (Obj.cells #[.int .i64 d.room, .slice a N cap, .int .i64 d.fuse, .int .i64 d.fault, .bool d.down] 24)) 24 #[.int .i64 0, .slice none 0 0, .int .i64 0, .int .i64 0, .bool false]
  simp only [World.size_alloc] at k1
  have K := hide k0
  have Z := hide k1
  have R0 := hide (h.below hb2)
  have B := hide hb2
  clear k0 k1 hb2 hN h hnt hfit
  simp only [fsV] at HPW HAS HAK HCP ⊢
  by_cases hrdy : ready d = 0
  · obtain ⟨hr, hdn⟩ := ready_zero hrdy
    rw [hrdy] at HPW
    have HRI := hide (right_parts hr).2.2.2
    have hres : syncR d n = onR n (fun i d => changeR d fun d => { d with files := d.files.modify i syncF }) d := work_good2 _ hr hdn
    rw [hres]
    clear hres hrdy hdn
    cases hh : has d.files n with
    | false =>
      have hon : onR n (fun i d => changeR d fun d => { d with files := d.files.modify i syncF }) d = (d, 3) := by unfold onR; rw [if_neg (by simp [hh])]
      rw [hon]
      have HF2 := hide (unhide HFD n)
      simp only [hh, Bool.false_eq_true, if_false] at HF2
      clear HFD hon hh
      have HFD := hide (fun (_ : ByteArray) => unhide HF2)
      clear HF2
      go_enter Try.func24, Try.ntmps24
      go_wp2_with fail
      refine (unhide HPW _ (unhide R0)).mono ?_
      rintro e w1 ⟨rfl, b1⟩
      have KN := hide ((unhide K).below b1)
      have ZN := hide ((unhide Z).below b1)
      have RN := hide ((unhide R0).below b1)
      have BN := hide (belows (unhide B) b1)
      clear K Z R0 B
      have K := KN
      have Z := ZN
      have R0 := RN
      have B := BN
      clear KN ZN RN BN
      clear b1 HPW
      have c0 := (unhide K).cell 0
      have c1 := (unhide K).cell 1
      have c2 := (unhide K).cell 2
      have c3 := (unhide K).cell 3
      have c4 := (unhide K).cell 4
      simp only [List.getElem?_toArray, List.getElem?_cons_succ, List.getElem?_cons_zero] at c0 c1 c2 c3 c4
      go_wp2_with fail
      clear c0 c1 c2 c3 c4
      refine (unhide HFD n _ (unhide HRI) (unhide R0)).mono ?_
      rintro e w2 ⟨rfl, b2⟩
      have KN := hide ((unhide K).below b2)
      have ZN := hide ((unhide Z).below b2)
      have RN := hide ((unhide R0).below b2)
      have BN := hide (belows (unhide B) b2)
      clear K Z R0 B
      have K := KN
      have Z := ZN
      have R0 := RN
      have B := BN
      clear KN ZN RN BN
      clear b2
      have c0 := (unhide K).cell 0
      have c1 := (unhide K).cell 1
      have c2 := (unhide K).cell 2
      have c3 := (unhide K).cell 3
      have c4 := (unhide K).cell 4
      simp only [List.getElem?_toArray, List.getElem?_cons_succ, List.getElem?_cons_zero] at c0 c1 c2 c3 c4
      go_wp2_with fail
      clear c0 c1 c2 c3 c4
      refine (unhide HAS 3 _ (unhide R0)).mono ?_
      rintro e w9 ⟨v9, rfl, r9, _, b9⟩
      have KN := hide ((unhide K).below b9)
      have ZN := hide ((unhide Z).below b9)
      have RN := hide ((unhide R0).below b9)
      have BN := hide (belows (unhide B) b9)
      clear K Z R0 B
      have K := KN
      have Z := ZN
      have R0 := RN
      have B := BN
      clear KN ZN RN BN
      simp only [show ¬ (3 : Nat) = 2 by omega, if_false] at r9 ⊢
      obtain ⟨a9, cap9, hv9, _⟩ := id r9
      subst hv9
      rw [unhide HN] at r9 ⊢
      have R9 := hide r9
      clear r9 b9
      have e0 := (unhide Z).cell 0
      have e1 := (unhide Z).cell 1
      have e2 := (unhide Z).cell 2
      have e3 := (unhide Z).cell 3
      have e4 := (unhide Z).cell 4
      simp only [List.getElem?_toArray, List.getElem?_cons_succ, List.getElem?_cons_zero] at e0 e1 e2 e3 e4
      have f0 := (unhide Z).frozen 0
      have f1 := (unhide Z).frozen 1
      have f2 := (unhide Z).frozen 2
      have f3 := (unhide Z).frozen 3
      have f4 := (unhide Z).frozen 4
      have RB := hide (below5 (s := w.heap.size + 1) (unhide B) (by omega))
      have RR := hide (rowF5 (unhide R9) (unhide Z) (by intro i x; match i with | 0 | 1 | 2 | 3 | 4 => simp | i + 5 => simp))
      go_wp2
      (try simp only [Exit.inBlock, Exit.then])
      refine bodyPost_ret (v := .tuple #[.agg #[.int .i64 d.room, .slice a9 N cap9, .int .i64 d.fuse, .int .i64 d.fault, .bool d.down], .int .i64 3]) ?_ rfl ⟨_, rfl, unhide RR _ _ _ _ _, unhide RB _ _ _ _ _⟩
      rw [results_cell_tmp rfl]
      go_simp
    | true =>
      obtain ⟨hi, hnm⟩ := has_lb (unhide HRI) hh
      have hon : onR n (fun i d => changeR d fun d => { d with files := d.files.modify i syncF }) d = (fun i d => changeR d fun d => { d with files := d.files.modify i syncF }) (lb d.files n) d := by unfold onR; rw [if_pos hh]
      rw [hon]
      have HF2 := hide (unhide HFD n)
      simp only [hh, if_true] at HF2
      clear HFD hon hh
      have HFD := hide (fun (_ : ByteArray) => unhide HF2)
      clear HF2
      have HI := hide hi
      have HNM := hide hnm
      obtain ⟨ix, hix⟩ : ∃ ix, lb d.files n = ix := ⟨_, rfl⟩
      have HIX := hide hix
      rw [hix] at HFD ⊢
      have hx0 : ¬ (ix : Int) < 0 := by omega
      have hxb : decide ((ix : Int) < 0) = false := decide_eq_false hx0
      clear hnm hix
      by_cases hz : (changeR d id).2 = 0
      · obtain ⟨e1, e2⟩ := changeR_yes (d := d) (fun d => { d with files := d.files.modify ix syncF }) hz
        rw [e1] at HAK
        have hixl : ix < d.files.length := by rw [← unhide HIX]; exact hi
        have hmod : d.files.modify ix syncF = d.files.set ix (syncF d.files[ix]) := modify_set hixl syncF
        have e3 : changeR d (fun d => { d with files := d.files.modify ix syncF }) = (⟨(spent d).room, d.files.set ix (syncF d.files[ix]), (spent d).fuse, (spent d).fault, (spent d).down⟩, 0) := by rw [e2, ← hmod]; rfl
        rw [show (fun (i : Nat) (d : Fs) => changeR d fun d => { d with files := d.files.modify i syncF }) ix d = changeR d (fun d => { d with files := d.files.modify ix syncF }) from rfl, e3]
        have HFE : Hid (∀ f ∈ d.files.set ix (syncF d.files[ix]), Fits f) := hide (fun f hf => by rcases List.mem_or_eq_of_mem_set hf with h1 | h1; exact unhide HFF f h1; rw [h1]; exact fits_sync (unhide HFF _ (List.getElem_mem hixl)))
        have hixN : ix < N := by have := unhide HN; omega
        have hixi : (ix : Int) < (N : Int) := by omega
        clear e1 e2 e3 hz hmod
        go_enter Try.func24, Try.ntmps24
        go_wp2_with fail
        refine (unhide HPW _ (unhide R0)).mono ?_
        rintro e w1 ⟨rfl, b1⟩
        have KN := hide ((unhide K).below b1)
        have ZN := hide ((unhide Z).below b1)
        have RN := hide ((unhide R0).below b1)
        have BN := hide (belows (unhide B) b1)
        clear K Z R0 B
        have K := KN
        have Z := ZN
        have R0 := RN
        have B := BN
        clear KN ZN RN BN
        clear b1 HPW
        have c0 := (unhide K).cell 0
        have c1 := (unhide K).cell 1
        have c2 := (unhide K).cell 2
        have c3 := (unhide K).cell 3
        have c4 := (unhide K).cell 4
        simp only [List.getElem?_toArray, List.getElem?_cons_succ, List.getElem?_cons_zero] at c0 c1 c2 c3 c4
        go_wp2_with fail
        clear c0 c1 c2 c3 c4
        refine (unhide HFD n _ (unhide HRI) (unhide R0)).mono ?_
        rintro e w2 ⟨rfl, b2⟩
        have KN := hide ((unhide K).below b2)
        have ZN := hide ((unhide Z).below b2)
        have RN := hide ((unhide R0).below b2)
        have BN := hide (belows (unhide B) b2)
        clear K Z R0 B
        have K := KN
        have Z := ZN
        have R0 := RN
        have B := BN
        clear KN ZN RN BN
        clear b2
        have c0 := (unhide K).cell 0
        have c1 := (unhide K).cell 1
        have c2 := (unhide K).cell 2
        have c3 := (unhide K).cell 3
        have c4 := (unhide K).cell 4
        simp only [List.getElem?_toArray, List.getElem?_cons_succ, List.getElem?_cons_zero] at c0 c1 c2 c3 c4
        go_wp2_with fail
        clear c0 c1 c2 c3 c4
        refine (unhide HAK _ (unhide R0)).mono ?_
        rintro e w3 ⟨v3, rfl, own3, b3⟩
        have hs3 := b3.size
        have hsb := (unhide B).size
        have hz3 : w.heap.size + 1 < w3.heap.size := Nat.lt_of_lt_of_le (unhide Z).lt b3.size
        obtain ⟨g, cap3, hv3, hgb, hgl, hcel, hfrz⟩ := own_at3 own3 (by have := unhide HN; omega) hixl
        subst hv3
        have bal : Below w3.heap.size w3 (w3.alloc (Obj.cells #[.int .i64 (spent d).room, .slice (some ⟨g, 0, none⟩) N cap3, .int .i64 (spent d).fuse, .int .i64 (spent d).fault, .bool (spent d).down] 24)) := (Below.refl _ _).alloc (Nat.le_refl _) _
        have KX := hide (Blk.new w3 24 #[.int .i64 (spent d).room, .slice (some ⟨g, 0, none⟩) N cap3, .int .i64 (spent d).fuse, .int .i64 (spent d).fault, .bool (spent d).down])
        have KN := hide ((unhide K).below b3)
        have ZN := hide ((unhide Z).below b3)
        have RN := hide ((unhide R0).below b3)
        have BN := hide (belows (unhide B) b3)
        clear K Z R0 B
        have K := KN
        have Z := ZN
        have R0 := RN
        have B := BN
        clear KN ZN RN BN
        have KN := hide ((unhide K).below bal)
        have ZN := hide ((unhide Z).below bal)
        have RN := hide ((unhide R0).below bal)
        have BN := hide (belows (unhide B) bal)
        clear K Z R0 B
        have K := KN
        have Z := ZN
        have R0 := RN
        have B := BN
        clear KN ZN RN BN
        have ownX := own_below own3 bal
        have c1g : (w3.alloc (Obj.cells #[.int .i64 (spent d).room, .slice (some ⟨g, 0, none⟩) N cap3, .int .i64 (spent d).fuse, .int .i64 (spent d).fault, .bool (spent d).down] 24)).cell? ⟨g, ix * 3 + 1, none⟩ = some (.string d.files[ix].data) := (bal.cell (p := ⟨g, ix * 3 + 1, none⟩) hgl).trans hcel.2.1
        have c2g : (w3.alloc (Obj.cells #[.int .i64 (spent d).room, .slice (some ⟨g, 0, none⟩) N cap3, .int .i64 (spent d).fuse, .int .i64 (spent d).fault, .bool (spent d).down] 24)).cell? ⟨g, ix * 3 + 2, none⟩ = some (.int .i64 d.files[ix].synced) := (bal.cell (p := ⟨g, ix * 3 + 2, none⟩) hgl).trans hcel.2.2
        have fzg : (w3.alloc (Obj.cells #[.int .i64 (spent d).room, .slice (some ⟨g, 0, none⟩) N cap3, .int .i64 (spent d).fuse, .int .i64 (spent d).fault, .bool (spent d).down] 24)).frozen? ⟨g, ix * 3 + 2, none⟩ = false := (bal.frozen (p := ⟨g, ix * 3 + 2, none⟩) hgl).trans (hfrz _)
        have hng : g ≠ w3.heap.size := by omega
        have hnz : w.heap.size + 1 ≠ g := blkz_ne (unhide Z) (own_heap ownX) (by decide)
        have KY : Hid (Blk ((w3.alloc (Obj.cells #[.int .i64 (spent d).room, .slice (some ⟨g, 0, none⟩) N cap3, .int .i64 (spent d).fuse, .int .i64 (spent d).fault, .bool (spent d).down] 24)).setCell ⟨g, ix * 3 + 2, none⟩ (.int .i64 (d.files[ix].data.size : Int))) w3.heap.size 24 #[.int .i64 (spent d).room, .slice (some ⟨g, 0, none⟩) N cap3, .int .i64 (spent d).fuse, .int .i64 (spent d).fault, .bool (spent d).down]) := hide (blk_far (b := g) (i := ix * 3 + 2) (unhide KX) (fun e => hng e.symm) _)
        have ZY := hide (blk_far (b := g) (i := ix * 3 + 2) (unhide Z) hnz (.int .i64 (d.files[ix].data.size : Int)))
        have BY := hide ((unhide B).setCell (p := ⟨g, ix * 3 + 2, none⟩) (show w.heap.size ≤ g by omega) (.int .i64 (d.files[ix].data.size : Int)))
        have RY : Hid (RowF ((w3.alloc (Obj.cells #[.int .i64 (spent d).room, .slice (some ⟨g, 0, none⟩) N cap3, .int .i64 (spent d).fuse, .int .i64 (spent d).fault, .bool (spent d).down] 24)).setCell ⟨g, ix * 3 + 2, none⟩ (.int .i64 (d.files[ix].data.size : Int))) (.slice (some ⟨g, 0, none⟩) N cap3) (d.files.set ix (syncF d.files[ix]))) := hide (by
          have hs := (ownX.stored (ix * 3 + 2) (.int .i64 (d.files[ix].data.size : Int))).1
          rw [flatF_set1 d.files ix hixl (syncF d.files[ix]) 2 (.int .i64 (d.files[ix].data.size : Int)) (by omega) rfl] at hs
          exact rowF_of_own (l := d.files.set ix (syncF d.files[ix])) (by rw [List.length_set, unhide HN]; exact hs) (by rw [List.length_set]; have := unhide HN; omega) (unhide HFE))
        have x1 := (unhide KX).cell 1
        simp only [List.getElem?_toArray, List.getElem?_cons_succ, List.getElem?_cons_zero] at x1
        generalize hdz : d.files[ix].data = dt at c1g KY ZY BY RY
        generalize d.files[ix].synced = sy at c2g
        clear hdz bal b3 own3 ownX HAK hcel hfrz
        go_upto_region 9 with (fail)
        generalize (w3.alloc (Obj.cells #[.int .i64 (spent d).room, .slice (some ⟨g, 0, none⟩) N cap3, .int .i64 (spent d).fuse, .int .i64 (spent d).fault, .bool (spent d).down] 24)) = X at *
        clear R0 K Z B
        refine wp_region_held_drew (S := fun w' => w'.cell? ⟨w3.heap.size, 1, none⟩ = some (.slice (some ⟨g, 0, none⟩) N cap3) ∧ w'.cell? ⟨g, ix * 3 + 1, none⟩ = some (.string dt)) (by kernel_rfl) ?_ (fun hHeld => ?_)
        · exact ⟨x1, c1g⟩
        refine wpAnyH_take (i := 0) (v := .pointer (some ⟨w3.heap.size, 1, none⟩)) rfl (by kernel_rfl) (by kernel_rfl) (by kernel_rfl) (fun _ _ _ h => h) (Or.inl ⟨by rfl, fun wS hSw => ?_⟩) (by assumption) ?_
        · (try dsimp only at hSw); go_simp
        (try simp only [Act.put, List.setIfInBounds_toArray, List.set_cons_zero, List.set_cons_succ])
        refine wpAnyH_take (i := 1) (v := .slice (some ⟨g, 0, none⟩) N cap3) rfl (by kernel_rfl) (by kernel_rfl) (by kernel_rfl) (fun _ _ _ h => h) (Or.inl ⟨by rfl, fun wS hSw => ?_⟩) (by assumption) ?_
        · (try dsimp only at hSw); go_simp
        (try simp only [Act.put, List.setIfInBounds_toArray, List.set_cons_zero, List.set_cons_succ])
        refine wpAnyH_take (i := 2) (v := .int .i64 (ix : Int)) rfl (by kernel_rfl) (by kernel_rfl) (by kernel_rfl) (fun _ _ _ h => h) (Or.inl ⟨by rfl, fun wS hSw => ?_⟩) (by assumption) ?_
        · (try dsimp only at hSw); go_simp
        (try simp only [Act.put, List.setIfInBounds_toArray, List.set_cons_zero, List.set_cons_succ])
        refine wpAnyH_take (i := 3) (v := .pointer (some ⟨w3.heap.size, 1, none⟩)) rfl (by kernel_rfl) (by kernel_rfl) (by kernel_rfl) (fun _ _ _ h => h) (Or.inl ⟨by rfl, fun wS hSw => ?_⟩) (by assumption) ?_
        · (try dsimp only at hSw); go_simp
        (try simp only [Act.put, List.setIfInBounds_toArray, List.set_cons_zero, List.set_cons_succ])
        refine wpAnyH_take (i := 4) (v := .slice (some ⟨g, 0, none⟩) N cap3) rfl (by kernel_rfl) (by kernel_rfl) (by kernel_rfl) (fun _ _ _ h => h) (Or.inl ⟨by rfl, fun wS hSw => ?_⟩) (by assumption) ?_
        · (try dsimp only at hSw); go_simp
        (try simp only [Act.put, List.setIfInBounds_toArray, List.set_cons_zero, List.set_cons_succ])
        refine wpAnyH_take (i := 5) (v := .int .i64 (ix : Int)) rfl (by kernel_rfl) (by kernel_rfl) (by kernel_rfl) (fun _ _ _ h => h) (Or.inl ⟨by rfl, fun wS hSw => ?_⟩) (by assumption) ?_
        · (try dsimp only at hSw); go_simp
        (try simp only [Act.put, List.setIfInBounds_toArray, List.set_cons_zero, List.set_cons_succ])
        refine wpAnyH_take (i := 6) (v := .pointer (some ⟨g, ix * 3, none⟩)) rfl (by kernel_rfl) (by kernel_rfl) (by kernel_rfl) (fun _ _ _ h => h) (Or.inl ⟨by rfl, fun wS hSw => ?_⟩) (by assumption) ?_
        · (try dsimp only at hSw); go_simp
        (try simp only [Act.put, List.setIfInBounds_toArray, List.set_cons_zero, List.set_cons_succ])
        refine wpAnyH_take (i := 7) (v := .pointer (some ⟨g, ix * 3 + 1, none⟩)) rfl (by kernel_rfl) (by kernel_rfl) (by kernel_rfl) (fun _ _ _ h => h) (Or.inl ⟨by rfl, fun wS hSw => ?_⟩) (by assumption) ?_
        · (try dsimp only at hSw); go_simp
        (try simp only [Act.put, List.setIfInBounds_toArray, List.set_cons_zero, List.set_cons_succ])
        refine wpAnyH_take (i := 8) (v := .string dt) rfl (by kernel_rfl) (by kernel_rfl) (by kernel_rfl) (fun _ _ _ h => h) (Or.inl ⟨by rfl, fun wS hSw => ?_⟩) (by assumption) ?_
        · (try dsimp only at hSw); go_simp
        (try simp only [Act.put, List.setIfInBounds_toArray, List.set_cons_zero, List.set_cons_succ])
        refine wpAnyH_take (i := 9) (v := .int .i64 (dt.size : Int)) rfl (by kernel_rfl) (by kernel_rfl) (by kernel_rfl) (fun _ _ _ h => h) (Or.inl ⟨by rfl, fun wS hSw => ?_⟩) (by assumption) ?_
        · (try dsimp only at hSw); go_simp
        (try simp only [Act.put, List.setIfInBounds_toArray, List.set_cons_zero, List.set_cons_succ])
        refine wpAnyH_take (i := 10) (v := .pointer (some ⟨g, ix * 3, none⟩)) rfl (by kernel_rfl) (by kernel_rfl) (by kernel_rfl) (fun _ _ _ h => h) (Or.inl ⟨by rfl, fun wS hSw => ?_⟩) (by assumption) ?_
        · (try dsimp only at hSw); go_simp
        (try simp only [Act.put, List.setIfInBounds_toArray, List.set_cons_zero, List.set_cons_succ])
        refine wpAnyH_take (i := 11) (v := .pointer (some ⟨g, ix * 3 + 2, none⟩)) rfl (by kernel_rfl) (by kernel_rfl) (by kernel_rfl) (fun _ _ _ h => h) (Or.inl ⟨by rfl, fun wS hSw => ?_⟩) (by assumption) ?_
        · (try dsimp only at hSw); go_simp
        (try simp only [Act.put, List.setIfInBounds_toArray, List.set_cons_zero, List.set_cons_succ])
        refine wpAnyH_ready (rs := [12]) (by kernel_rfl) (by simp) ?_
        refine AllReadyH.cons rfl (fun K hK => ?_) AllReadyH.nil
        go_simp
        refine hK.out _ _ ?_ (fun hHeld => ?_)
        · exact ⟨(World.cell?_setCell_far _ _ _ _ (fun e => hng e)).trans x1, (World.cell?_setCell_other _ _ _ _ (by simp)).trans c1g⟩
        clear hK K
        (try simp only [Act.put, List.setIfInBounds_toArray, List.set_cons_zero, List.set_cons_succ])
        refine wpAnyH_done (by kernel_rfl) ?_ _
        clear hHeld x1 c1g c2g fzg
        have hdr := below_dr1 (Below.refl (X.setCell ⟨g, ix * 3 + 2, none⟩ (.int .i64 (dt.size : Int))).heap.size (X.setCell ⟨g, ix * 3 + 2, none⟩ (.int .i64 (dt.size : Int))))
        have KY2 := hide ((unhide KY).below hdr)
        have Z := hide ((unhide ZY).below hdr)
        have B := hide (below_dr1 (unhide BY))
        have RY2 := hide ((unhide RY).below hdr)
        clear KY ZY BY RY hdr
        go_upto_region 10 with (fail)
        generalize (X.setCell ⟨g, ix * 3 + 2, none⟩ (.int .i64 (dt.size : Int))).drew = Y at *
        have x0 := (unhide KY2).cell 0
        have x1 := (unhide KY2).cell 1
        have x2 := (unhide KY2).cell 2
        have x3 := (unhide KY2).cell 3
        have x4 := (unhide KY2).cell 4
        simp only [List.getElem?_toArray, List.getElem?_cons_succ, List.getElem?_cons_zero] at x0 x1 x2 x3 x4
        have e0 := (unhide Z).cell 0
        have e1 := (unhide Z).cell 1
        have e2 := (unhide Z).cell 2
        have e3 := (unhide Z).cell 3
        have e4 := (unhide Z).cell 4
        simp only [List.getElem?_toArray, List.getElem?_cons_succ, List.getElem?_cons_zero] at e0 e1 e2 e3 e4
        have f0 := (unhide Z).frozen 0
        have f1 := (unhide Z).frozen 1
        have f2 := (unhide Z).frozen 2
        have f3 := (unhide Z).frozen 3
        have f4 := (unhide Z).frozen 4
        have RB := hide (below5 (s := w.heap.size + 1) (unhide B) (by omega))
        have RR := hide (rowF5 (unhide RY2) (unhide Z) (by intro i x; match i with | 0 | 1 | 2 | 3 | 4 => simp | i + 5 => simp))
        go_wp2
        (try simp only [Exit.inBlock, Exit.then])
        refine bodyPost_ret (v := .tuple #[.agg #[.int .i64 (spent d).room, .slice (some ⟨g, 0, none⟩) N cap3, .int .i64 (spent d).fuse, .int .i64 (spent d).fault, .bool (spent d).down], .int .i64 0]) ?_ rfl ⟨_, rfl, unhide RR _ _ _ _ _, unhide RB _ _ _ _ _⟩
        rw [results_cell_tmp rfl]
        go_simp
      · rw [show (fun (i : Nat) (d : Fs) => changeR d fun d => { d with files := d.files.modify i syncF }) ix d = changeR d (fun d => { d with files := d.files.modify ix syncF }) from rfl, changeR_no (fun d => { d with files := d.files.modify ix syncF }) hz]
        have hfl := changeR_files d
        generalize changeR d id = res at HAK hz hfl ⊢
        obtain ⟨xx, n3⟩ := res
        simp only at HAK hz hfl ⊢
        have hn0 : ((n3 : Int) == 0) = false := by simp; omega
        have hn1 : ¬ (n3 : Int) = 0 := by omega
        have HFL := hide hfl
        clear hz hfl
        go_enter Try.func24, Try.ntmps24
        go_wp2_with fail
        refine (unhide HPW _ (unhide R0)).mono ?_
        rintro e w1 ⟨rfl, b1⟩
        have KN := hide ((unhide K).below b1)
        have ZN := hide ((unhide Z).below b1)
        have RN := hide ((unhide R0).below b1)
        have BN := hide (belows (unhide B) b1)
        clear K Z R0 B
        have K := KN
        have Z := ZN
        have R0 := RN
        have B := BN
        clear KN ZN RN BN
        clear b1 HPW
        have c0 := (unhide K).cell 0
        have c1 := (unhide K).cell 1
        have c2 := (unhide K).cell 2
        have c3 := (unhide K).cell 3
        have c4 := (unhide K).cell 4
        simp only [List.getElem?_toArray, List.getElem?_cons_succ, List.getElem?_cons_zero] at c0 c1 c2 c3 c4
        go_wp2_with fail
        clear c0 c1 c2 c3 c4
        refine (unhide HFD n _ (unhide HRI) (unhide R0)).mono ?_
        rintro e w2 ⟨rfl, b2⟩
        have KN := hide ((unhide K).below b2)
        have ZN := hide ((unhide Z).below b2)
        have RN := hide ((unhide R0).below b2)
        have BN := hide (belows (unhide B) b2)
        clear K Z R0 B
        have K := KN
        have Z := ZN
        have R0 := RN
        have B := BN
        clear KN ZN RN BN
        clear b2
        have c0 := (unhide K).cell 0
        have c1 := (unhide K).cell 1
        have c2 := (unhide K).cell 2
        have c3 := (unhide K).cell 3
        have c4 := (unhide K).cell 4
        simp only [List.getElem?_toArray, List.getElem?_cons_succ, List.getElem?_cons_zero] at c0 c1 c2 c3 c4
        go_wp2_with fail
        clear c0 c1 c2 c3 c4
        refine (unhide HAK _ (unhide R0)).mono ?_
        rintro e w3 ⟨v3, rfl, own3, b3⟩
        have hs3 := b3.size
        have hsb := (unhide B).size
        have hz3 : w.heap.size + 1 < w3.heap.size := Nat.lt_of_lt_of_le (unhide Z).lt b3.size
        obtain ⟨a3, cap3, rfl⟩ := own_form own3
        have bal : Below w3.heap.size w3 (w3.alloc (Obj.cells #[.int .i64 xx.room, .slice a3 N cap3, .int .i64 xx.fuse, .int .i64 xx.fault, .bool xx.down] 24)) := (Below.refl _ _).alloc (Nat.le_refl _) _
        have r3 := rowF_of_own (l := d.files) (by rw [unhide HN]; exact own3) (by have := unhide HN; omega) (unhide HFF)
        have R3 := hide (r3.below bal)
        have KX := hide (Blk.new w3 24 #[.int .i64 xx.room, .slice a3 N cap3, .int .i64 xx.fuse, .int .i64 xx.fault, .bool xx.down])
        have KN := hide ((unhide K).below b3)
        have ZN := hide ((unhide Z).below b3)
        have RN := hide ((unhide R0).below b3)
        have BN := hide (belows (unhide B) b3)
        clear K Z R0 B
        have K := KN
        have Z := ZN
        have R0 := RN
        have B := BN
        clear KN ZN RN BN
        have KN := hide ((unhide K).below bal)
        have ZN := hide ((unhide Z).below bal)
        have RN := hide ((unhide R0).below bal)
        have BN := hide (belows (unhide B) bal)
        clear K Z R0 B
        have K := KN
        have Z := ZN
        have R0 := RN
        have B := BN
        clear KN ZN RN BN
        clear bal b3 own3 r3 HAK
        go_upto_region 10 with (fail)
        generalize (w3.alloc (Obj.cells #[.int .i64 xx.room, .slice a3 N cap3, .int .i64 xx.fuse, .int .i64 xx.fault, .bool xx.down] 24)) = Y at *
        have x0 := (unhide KX).cell 0
        have x1 := (unhide KX).cell 1
        have x2 := (unhide KX).cell 2
        have x3 := (unhide KX).cell 3
        have x4 := (unhide KX).cell 4
        simp only [List.getElem?_toArray, List.getElem?_cons_succ, List.getElem?_cons_zero] at x0 x1 x2 x3 x4
        have e0 := (unhide Z).cell 0
        have e1 := (unhide Z).cell 1
        have e2 := (unhide Z).cell 2
        have e3 := (unhide Z).cell 3
        have e4 := (unhide Z).cell 4
        simp only [List.getElem?_toArray, List.getElem?_cons_succ, List.getElem?_cons_zero] at e0 e1 e2 e3 e4
        have f0 := (unhide Z).frozen 0
        have f1 := (unhide Z).frozen 1
        have f2 := (unhide Z).frozen 2
        have f3 := (unhide Z).frozen 3
        have f4 := (unhide Z).frozen 4
        have RB := hide (below5 (s := w.heap.size + 1) (unhide B) (by omega))
        have RR := hide (rowF5 (show RowF Y (.slice a3 N cap3) xx.files by rw [unhide HFL]; exact unhide R3) (unhide Z) (by intro i x; match i with | 0 | 1 | 2 | 3 | 4 => simp | i + 5 => simp))
        go_wp2
        (try simp only [Exit.inBlock, Exit.then])
        refine bodyPost_ret (v := .tuple #[.agg #[.int .i64 xx.room, .slice a3 N cap3, .int .i64 xx.fuse, .int .i64 xx.fault, .bool xx.down], .int .i64 n3]) ?_ rfl ⟨_, rfl, unhide RR _ _ _ _ _, unhide RB _ _ _ _ _⟩
        rw [results_cell_tmp rfl]
        go_simp
  · have hne : ready d ≠ 0 := hrdy
    have hres : syncR d n = (if ready d = 2 then zeroFs else d, ready d) := work_bad _ hrdy
    rw [hres]
    have hc1 : (((ready d : Nat) : Int) == 0) = false := by simp; omega
    have hc2 : ¬ ((ready d : Nat) : Int) = 0 := by omega
    generalize ready d = rc at *
    have HA1 := hide (fun (X : World) hX => unhide HAS rc X hX)
    generalize (if rc = 2 then zeroFs else d) = x9 at HA1 ⊢
    clear hres hrdy hne HAS
    have HAS := hide (fun (_ : Nat) => unhide HA1)
    clear HA1
    go_enter Try.func24, Try.ntmps24
    go_wp2_with fail
    refine (unhide HPW _ (unhide R0)).mono ?_
    rintro e w1 ⟨rfl, b1⟩
    have KN := hide ((unhide K).below b1)
    have ZN := hide ((unhide Z).below b1)
    have RN := hide ((unhide R0).below b1)
    have BN := hide (belows (unhide B) b1)
    clear K Z R0 B
    have K := KN
    have Z := ZN
    have R0 := RN
    have B := BN
    clear KN ZN RN BN
    clear b1 HPW
    have c0 := (unhide K).cell 0
    have c1 := (unhide K).cell 1
    have c2 := (unhide K).cell 2
    have c3 := (unhide K).cell 3
    have c4 := (unhide K).cell 4
    simp only [List.getElem?_toArray, List.getElem?_cons_succ, List.getElem?_cons_zero] at c0 c1 c2 c3 c4
    go_wp2_with fail
    clear c0 c1 c2 c3 c4
    refine (unhide HAS rc _ (unhide R0)).mono ?_
    rintro e w9 ⟨v9, rfl, r9, _, b9⟩
    have KN := hide ((unhide K).below b9)
    have ZN := hide ((unhide Z).below b9)
    have RN := hide ((unhide R0).below b9)
    have BN := hide (belows (unhide B) b9)
    clear K Z R0 B
    have K := KN
    have Z := ZN
    have R0 := RN
    have B := BN
    clear KN ZN RN BN
    obtain ⟨a9, cap9, hv9, _⟩ := id r9
    subst hv9
    have R9 := hide r9
    clear r9 b9
    have e0 := (unhide Z).cell 0
    have e1 := (unhide Z).cell 1
    have e2 := (unhide Z).cell 2
    have e3 := (unhide Z).cell 3
    have e4 := (unhide Z).cell 4
    simp only [List.getElem?_toArray, List.getElem?_cons_succ, List.getElem?_cons_zero] at e0 e1 e2 e3 e4
    have f0 := (unhide Z).frozen 0
    have f1 := (unhide Z).frozen 1
    have f2 := (unhide Z).frozen 2
    have f3 := (unhide Z).frozen 3
    have f4 := (unhide Z).frozen 4
    have RB := hide (below5 (s := w.heap.size + 1) (unhide B) (by omega))
    have RR := hide (rowF5 (unhide R9) (unhide Z) (by intro i x; match i with | 0 | 1 | 2 | 3 | 4 => simp | i + 5 => simp))
    go_wp2
    (try simp only [Exit.inBlock, Exit.then])
    refine bodyPost_ret (v := .tuple #[.agg #[.int .i64 x9.room, .slice a9 x9.files.length cap9, .int .i64 x9.fuse, .int .i64 x9.fault, .bool x9.down], .int .i64 rc]) ?_ rfl ⟨_, rfl, unhide RR _ _ _ _ _, unhide RB _ _ _ _ _⟩
    rw [results_cell_tmp rfl]
    go_simp
end Go.Proofs.Ytmfkhbofmaonkaa
