/-
  What the document's as and asks do (missiveref04), over this seat's program.
-/
import Derived.Test.YtmfkhbofmaonkaaDqe
set_option linter.unusedVariables false
set_option linter.unusedSimpArgs false
namespace Go.Proofs.Ytmfkhbofmaonkaa
open Go.RowKit Go.Proofs.Dsk

set_option maxHeartbeats 2000000 in
set_option maxRecDepth 100000 in
theorem refAs_any (d : Fs) (v : Value) (c : Nat) (w : World) (hfit : FitAll d) (h : RowF w v d.files) (hnt : NeatF v) (hl : d.files.length ≤ 1048576) :
    Calls Try.prog 42 #[fsV d v, .int .i64 c] w fun e w' => ∃ v', e = .returned (.tuple #[fsV (if c = 2 then zeroFs else d) v', .int .i64 c]) ∧ RowF w' v' (if c = 2 then zeroFs else d).files ∧ FitAll (if c = 2 then zeroFs else d) ∧ Below w.heap.size w w' := by
  obtain ⟨a, cap, hv, h63, hff, _⟩ := id h
  subst hv
  obtain ⟨N, hN⟩ : ∃ N, d.files.length = N := ⟨_, rfl⟩
  have HN := hide hN
  have HFF := hide hff
  have hb2 : Below w.heap.size w ((w.alloc (Obj.cells #[.int .i64 d.room, .slice a N cap, .int .i64 d.fuse, .int .i64 d.fault, .bool d.down] 24)).alloc (Obj.cells #[.int .i64 0, .slice none 0 0, .int .i64 0, .int .i64 0, .bool false] 24)) := ((Below.refl _ w).alloc (Nat.le_refl _) _).alloc (by simp) _
  have z1 := Blk.new (w.alloc (Obj.cells #[.int .i64 d.room, .slice a N cap, .int .i64 d.fuse, .int .i64 d.fault, .bool d.down] 24)) 24 #[.int .i64 0, .slice none 0 0, .int .i64 0, .int .i64 0, .bool false]
  simp only [World.size_alloc] at z1
  rw [hN] at h hnt h63
  have HCP := hide (refCopy_any d (.slice a N cap) ((w.alloc (Obj.cells #[.int .i64 d.room, .slice a N cap, .int .i64 d.fuse, .int .i64 d.fault, .bool d.down] 24)).alloc (Obj.cells #[.int .i64 0, .slice none 0 0, .int .i64 0, .int .i64 0, .bool false] 24)) (by exact h.below hb2) hnt (by omega))
  rw [hN] at HCP ⊢
  have hs2 : ((w.alloc (Obj.cells #[.int .i64 d.room, .slice a N cap, .int .i64 d.fuse, .int .i64 d.fault, .bool d.down] 24)).alloc (Obj.cells #[.int .i64 0, .slice none 0 0, .int .i64 0, .int .i64 0, .bool false] 24)).heap.size = w.heap.size + 1 + 1 := by simp
  rw [hs2] at HCP
  have HZ := hide z1
  have HB := hide hb2
  clear hN h hnt hff z1 hb2
  simp only [fsV] at HCP ⊢
  have HFIT := hide hfit
  clear hfit
  by_cases hc : c = 2
  · subst hc
    simp only [if_true]
    have k1 := unhide HZ
    have e0 := k1.cell 0
    have e1 := k1.cell 1
    have e2 := k1.cell 2
    have e3 := k1.cell 3
    have e4 := k1.cell 4
    have f0 := k1.frozen 0
    have f1 := k1.frozen 1
    have f2 := k1.frozen 2
    have f3 := k1.frozen 3
    have f4 := k1.frozen 4
    simp only [List.getElem?_toArray, List.getElem?_cons_succ, List.getElem?_cons_zero] at e0 e1 e2 e3 e4
    have BF := hide (unhide HB)
    clear k1 HCP hs2
    go_enter Try.func42, Try.ntmps42
    go_wp2
    (try simp only [Exit.inBlock, Exit.then])
    refine bodyPost_ret (v := .tuple #[.agg #[.int .i64 0, .slice none 0 0, .int .i64 0, .int .i64 0, .bool false], .int .i64 2]) ?_ rfl ⟨_, rfl, rowF_nil _ _ _, fit_empty (by omega) (by omega) (by omega) (by omega) (by omega) (by omega), ?_⟩
    · rw [results_cell_tmp rfl]
      go_simp
    · first | exact unhide BF | exact below_any5 (unhide BF) _ (by omega)
  · rw [if_neg hc]
    have hcb : ((c : Int) == 2) = false := by simp; omega
    have hci : ¬ (c : Int) = 2 := by omega
    clear hs2
    go_enter Try.func42, Try.ntmps42
    go_wp2_with fail
    refine (unhide HCP).mono ?_
    rintro e w3 ⟨v3, rfl, own3, b3⟩
    obtain ⟨a3, cap3, rfl⟩ := own_form own3
    have b3' := (unhide HB).trans (b3.mono (by omega))
    have k1 := (unhide HZ).belowC b3 (by omega)
    have e0 := k1.cell 0
    have e1 := k1.cell 1
    have e2 := k1.cell 2
    have e3 := k1.cell 3
    have e4 := k1.cell 4
    have f0 := k1.frozen 0
    have f1 := k1.frozen 1
    have f2 := k1.frozen 2
    have f3 := k1.frozen 3
    have f4 := k1.frozen 4
    simp only [List.getElem?_toArray, List.getElem?_cons_succ, List.getElem?_cons_zero] at e0 e1 e2 e3 e4
    have RB := hide (below5 (s := w.heap.size + 1) b3' (by omega))
    have RO := hide (own5 (s := w.heap.size + 1) own3 (by omega))
    clear k1 own3 b3 b3' HCP
    go_wp2
    (try simp only [Exit.inBlock, Exit.then])
    refine bodyPost_ret (v := .tuple #[.agg #[.int .i64 d.room, .slice a3 N cap3, .int .i64 d.fuse, .int .i64 d.fault, .bool d.down], .int .i64 c]) ?_ rfl ⟨_, rfl, rowF_of_own (l := d.files) (by rw [unhide HN]; exact unhide RO _ _ _ _ _) (by have := unhide HN; omega) (unhide HFF), unhide HFIT, unhide RB _ _ _ _ _⟩
    rw [results_cell_tmp rfl]
    go_simp


theorem below_five {B s : Nat} {w W : World} (h : Below B w W) (hs : B ≤ s) : ∀ u0 u1 u2 u3 u4, Below B w (((((W.setCell ⟨s, 0, none⟩ u0).setCell ⟨s, 1, none⟩ u1).setCell ⟨s, 2, none⟩ u2).setCell ⟨s, 3, none⟩ u3).setCell ⟨s, 4, none⟩ u4) := below5 h hs

set_option maxHeartbeats 2000000 in
set_option maxRecDepth 100000 in
theorem refAsks_a (d : Fs) (v : Value) (w : World) (hfit : FitAll d) (h : RowF w v d.files) (hnt : NeatF v) (hl : d.files.length ≤ 1048576) (c0 : d.fuse = 0) :
    Calls Try.prog 43 #[fsV d v] w fun e w' => ∃ v', e = .returned (.tuple #[fsV ⟨d.room, d.files, d.fuse, d.fault, true⟩ v', .int .i64 9]) ∧ w'.ownsRow w.heap.size 56 3 v' d.files.length (flatF d.files) ∧ Below w.heap.size w w' := by
  obtain ⟨a, cap, hv, h63, hff, _⟩ := id h
  subst hv
  obtain ⟨N, hN⟩ : ∃ N, d.files.length = N := ⟨_, rfl⟩
  have HN := hide hN
  have HFF := hide hff
  have hb2 : Below w.heap.size w ((w.alloc (Obj.cells #[.int .i64 d.room, .slice a N cap, .int .i64 d.fuse, .int .i64 d.fault, .bool d.down] 24)).alloc (Obj.cells #[.int .i64 0, .slice none 0 0, .int .i64 0, .int .i64 0, .bool false] 24)) := ((Below.refl _ w).alloc (Nat.le_refl _) _).alloc (by simp) _
  have z1 := Blk.new (w.alloc (Obj.cells #[.int .i64 d.room, .slice a N cap, .int .i64 d.fuse, .int .i64 d.fault, .bool d.down] 24)) 24 #[.int .i64 0, .slice none 0 0, .int .i64 0, .int .i64 0, .bool false]
  simp only [World.size_alloc] at z1
  rw [hN] at h hnt h63
  have HCP := hide (refCopy_any d (.slice a N cap) ((w.alloc (Obj.cells #[.int .i64 d.room, .slice a N cap, .int .i64 d.fuse, .int .i64 d.fault, .bool d.down] 24)).alloc (Obj.cells #[.int .i64 0, .slice none 0 0, .int .i64 0, .int .i64 0, .bool false] 24)) (by exact h.below hb2) hnt (by omega))
  rw [hN] at HCP ⊢
  have hs2 : ((w.alloc (Obj.cells #[.int .i64 d.room, .slice a N cap, .int .i64 d.fuse, .int .i64 d.fault, .bool d.down] 24)).alloc (Obj.cells #[.int .i64 0, .slice none 0 0, .int .i64 0, .int .i64 0, .bool false] 24)).heap.size = w.heap.size + 1 + 1 := by simp
  rw [hs2] at HCP
  have HZ := hide z1
  have HB := hide hb2
  clear hN h hnt hff z1 hb2
  simp only [fsV] at HCP ⊢
  obtain ⟨⟨_, ⟨q1, q2⟩, q3, q4⟩, _⟩ := hfit
  have x0 : (d.fuse == 0) = true := by simpa using c0
  clear c0
  clear hs2
  go_enter Try.func43, Try.ntmps43
  go_wp2_with fail
  refine (unhide HCP).mono ?_
  rintro e w3 ⟨v3, rfl, own3, b3⟩
  obtain ⟨a3, cap3, rfl⟩ := own_form own3
  have hs3 := b3.size
  have b3' := (unhide HB).trans (b3.mono (by omega))
  have hz3 : w.heap.size + 1 < w3.heap.size := (unhide HZ).belowC b3 (by omega) |>.lt
  have bal : Below w3.heap.size w3 (w3.alloc (Obj.cells #[.int .i64 d.room, .slice a3 N cap3, .int .i64 d.fuse, .int .i64 d.fault, .bool true] 24)) := (Below.refl _ _).alloc (Nat.le_refl _) _
  have K1 := hide (((unhide HZ).belowC b3 (by omega)).below bal)
  have KB := hide (Blk.new w3 24 #[.int .i64 d.room, .slice a3 N cap3, .int .i64 d.fuse, .int .i64 d.fault, .bool true])
  have RB := hide (below5 (s := w.heap.size + 1) (b3'.trans (bal.mono b3'.size)) (by omega))
  have RO := hide (own5 (s := w.heap.size + 1) (own_below own3 bal) (by omega))
  clear own3 b3 b3' HCP bal hs3
  go_upto_region 4 with (fail)
  generalize w3.alloc (Obj.cells #[.int .i64 d.room, .slice a3 N cap3, .int .i64 d.fuse, .int .i64 d.fault, .bool true] 24) = Y at *
  have e0 := (unhide K1).cell 0
  have e1 := (unhide K1).cell 1
  have e2 := (unhide K1).cell 2
  have e3 := (unhide K1).cell 3
  have e4 := (unhide K1).cell 4
  have f0 := (unhide K1).frozen 0
  have f1 := (unhide K1).frozen 1
  have f2 := (unhide K1).frozen 2
  have f3 := (unhide K1).frozen 3
  have f4 := (unhide K1).frozen 4
  have g0 := (unhide KB).cell 0
  have g1 := (unhide KB).cell 1
  have g2 := (unhide KB).cell 2
  have g3 := (unhide KB).cell 3
  have g4 := (unhide KB).cell 4
  simp only [List.getElem?_toArray, List.getElem?_cons_succ, List.getElem?_cons_zero] at e0 e1 e2 e3 e4 g0 g1 g2 g3 g4
  go_wp2
  (try simp only [Exit.inBlock, Exit.then])
  refine bodyPost_ret (v := .tuple #[.agg #[.int .i64 d.room, .slice a3 N cap3, .int .i64 d.fuse, .int .i64 d.fault, .bool true], .int .i64 9]) ?_ rfl ⟨_, rfl, own_mono (unhide RO _ _ _ _ _) (by omega), unhide RB _ _ _ _ _⟩
  rw [results_cell_tmp rfl]
  go_simp

set_option maxHeartbeats 2000000 in
set_option maxRecDepth 100000 in
theorem refAsks_b (d : Fs) (v : Value) (w : World) (hfit : FitAll d) (h : RowF w v d.files) (hnt : NeatF v) (hl : d.files.length ≤ 1048576) (c0 : ¬ d.fuse = 0) (c1 : 0 < d.fuse) (c2 : d.fault = 0) :
    Calls Try.prog 43 #[fsV d v] w fun e w' => ∃ v', e = .returned (.tuple #[fsV ⟨d.room, d.files, (d.fuse - 1), (-1), d.down⟩ v', .int .i64 10]) ∧ w'.ownsRow w.heap.size 56 3 v' d.files.length (flatF d.files) ∧ Below w.heap.size w w' := by
  obtain ⟨a, cap, hv, h63, hff, _⟩ := id h
  subst hv
  obtain ⟨N, hN⟩ : ∃ N, d.files.length = N := ⟨_, rfl⟩
  have HN := hide hN
  have HFF := hide hff
  have hb2 : Below w.heap.size w ((w.alloc (Obj.cells #[.int .i64 d.room, .slice a N cap, .int .i64 d.fuse, .int .i64 d.fault, .bool d.down] 24)).alloc (Obj.cells #[.int .i64 0, .slice none 0 0, .int .i64 0, .int .i64 0, .bool false] 24)) := ((Below.refl _ w).alloc (Nat.le_refl _) _).alloc (by simp) _
  have z1 := Blk.new (w.alloc (Obj.cells #[.int .i64 d.room, .slice a N cap, .int .i64 d.fuse, .int .i64 d.fault, .bool d.down] 24)) 24 #[.int .i64 0, .slice none 0 0, .int .i64 0, .int .i64 0, .bool false]
  simp only [World.size_alloc] at z1
  rw [hN] at h hnt h63
  have HCP := hide (refCopy_any d (.slice a N cap) ((w.alloc (Obj.cells #[.int .i64 d.room, .slice a N cap, .int .i64 d.fuse, .int .i64 d.fault, .bool d.down] 24)).alloc (Obj.cells #[.int .i64 0, .slice none 0 0, .int .i64 0, .int .i64 0, .bool false] 24)) (by exact h.below hb2) hnt (by omega))
  rw [hN] at HCP ⊢
  have hs2 : ((w.alloc (Obj.cells #[.int .i64 d.room, .slice a N cap, .int .i64 d.fuse, .int .i64 d.fault, .bool d.down] 24)).alloc (Obj.cells #[.int .i64 0, .slice none 0 0, .int .i64 0, .int .i64 0, .bool false] 24)).heap.size = w.heap.size + 1 + 1 := by simp
  rw [hs2] at HCP
  have HZ := hide z1
  have HB := hide hb2
  clear hN h hnt hff z1 hb2
  simp only [fsV] at HCP ⊢
  obtain ⟨⟨_, ⟨q1, q2⟩, q3, q4⟩, _⟩ := hfit
  have x0 : (d.fuse == 0) = false := by simpa using c0
  have x1 : decide (d.fuse > 0) = true := decide_eq_true c1
  have x1b : 0 < d.fuse := c1
  have x2 : (d.fault == 0) = true := by simpa using c2
  clear c2
  clear hs2
  go_enter Try.func43, Try.ntmps43
  go_wp2_with fail
  refine (unhide HCP).mono ?_
  rintro e w3 ⟨v3, rfl, own3, b3⟩
  obtain ⟨a3, cap3, rfl⟩ := own_form own3
  have hs3 := b3.size
  have b3' := (unhide HB).trans (b3.mono (by omega))
  have hz3 : w.heap.size + 1 < w3.heap.size := (unhide HZ).belowC b3 (by omega) |>.lt
  have bal : Below w3.heap.size w3 (w3.alloc (Obj.cells #[.int .i64 d.room, .slice a3 N cap3, .int .i64 (d.fuse - 1), .int .i64 (-1), .bool d.down] 24)) := (Below.refl _ _).alloc (Nat.le_refl _) _
  have K1 := hide (((unhide HZ).belowC b3 (by omega)).below bal)
  have KB := hide (Blk.new w3 24 #[.int .i64 d.room, .slice a3 N cap3, .int .i64 (d.fuse - 1), .int .i64 (-1), .bool d.down])
  have RB := hide (below5 (s := w.heap.size + 1) (b3'.trans (bal.mono b3'.size)) (by omega))
  have RO := hide (own5 (s := w.heap.size + 1) (own_below own3 bal) (by omega))
  clear own3 b3 b3' HCP bal hs3
  go_upto_region 9 with (fail)
  generalize w3.alloc (Obj.cells #[.int .i64 d.room, .slice a3 N cap3, .int .i64 (d.fuse - 1), .int .i64 (-1), .bool d.down] 24) = Y at *
  have e0 := (unhide K1).cell 0
  have e1 := (unhide K1).cell 1
  have e2 := (unhide K1).cell 2
  have e3 := (unhide K1).cell 3
  have e4 := (unhide K1).cell 4
  have f0 := (unhide K1).frozen 0
  have f1 := (unhide K1).frozen 1
  have f2 := (unhide K1).frozen 2
  have f3 := (unhide K1).frozen 3
  have f4 := (unhide K1).frozen 4
  have g0 := (unhide KB).cell 0
  have g1 := (unhide KB).cell 1
  have g2 := (unhide KB).cell 2
  have g3 := (unhide KB).cell 3
  have g4 := (unhide KB).cell 4
  simp only [List.getElem?_toArray, List.getElem?_cons_succ, List.getElem?_cons_zero] at e0 e1 e2 e3 e4 g0 g1 g2 g3 g4
  go_wp2
  (try simp only [Exit.inBlock, Exit.then])
  refine bodyPost_ret (v := .tuple #[.agg #[.int .i64 d.room, .slice a3 N cap3, .int .i64 (d.fuse - 1), .int .i64 (-1), .bool d.down], .int .i64 10]) ?_ rfl ⟨_, rfl, own_mono (unhide RO _ _ _ _ _) (by omega), unhide RB _ _ _ _ _⟩
  rw [results_cell_tmp rfl]
  go_simp

set_option maxHeartbeats 2000000 in
set_option maxRecDepth 100000 in
theorem refAsks_c (d : Fs) (v : Value) (w : World) (hfit : FitAll d) (h : RowF w v d.files) (hnt : NeatF v) (hl : d.files.length ≤ 1048576) (c0 : ¬ d.fuse = 0) (c1 : ¬ 0 < d.fuse) (c2 : d.fault = 0) :
    Calls Try.prog 43 #[fsV d v] w fun e w' => ∃ v', e = .returned (.tuple #[fsV ⟨d.room, d.files, d.fuse, (-1), d.down⟩ v', .int .i64 10]) ∧ w'.ownsRow w.heap.size 56 3 v' d.files.length (flatF d.files) ∧ Below w.heap.size w w' := by
  obtain ⟨a, cap, hv, h63, hff, _⟩ := id h
  subst hv
  obtain ⟨N, hN⟩ : ∃ N, d.files.length = N := ⟨_, rfl⟩
  have HN := hide hN
  have HFF := hide hff
  have hb2 : Below w.heap.size w ((w.alloc (Obj.cells #[.int .i64 d.room, .slice a N cap, .int .i64 d.fuse, .int .i64 d.fault, .bool d.down] 24)).alloc (Obj.cells #[.int .i64 0, .slice none 0 0, .int .i64 0, .int .i64 0, .bool false] 24)) := ((Below.refl _ w).alloc (Nat.le_refl _) _).alloc (by simp) _
  have z1 := Blk.new (w.alloc (Obj.cells #[.int .i64 d.room, .slice a N cap, .int .i64 d.fuse, .int .i64 d.fault, .bool d.down] 24)) 24 #[.int .i64 0, .slice none 0 0, .int .i64 0, .int .i64 0, .bool false]
  simp only [World.size_alloc] at z1
  rw [hN] at h hnt h63
  have HCP := hide (refCopy_any d (.slice a N cap) ((w.alloc (Obj.cells #[.int .i64 d.room, .slice a N cap, .int .i64 d.fuse, .int .i64 d.fault, .bool d.down] 24)).alloc (Obj.cells #[.int .i64 0, .slice none 0 0, .int .i64 0, .int .i64 0, .bool false] 24)) (by exact h.below hb2) hnt (by omega))
  rw [hN] at HCP ⊢
  have hs2 : ((w.alloc (Obj.cells #[.int .i64 d.room, .slice a N cap, .int .i64 d.fuse, .int .i64 d.fault, .bool d.down] 24)).alloc (Obj.cells #[.int .i64 0, .slice none 0 0, .int .i64 0, .int .i64 0, .bool false] 24)).heap.size = w.heap.size + 1 + 1 := by simp
  rw [hs2] at HCP
  have HZ := hide z1
  have HB := hide hb2
  clear hN h hnt hff z1 hb2
  simp only [fsV] at HCP ⊢
  obtain ⟨⟨_, ⟨q1, q2⟩, q3, q4⟩, _⟩ := hfit
  have x0 : (d.fuse == 0) = false := by simpa using c0
  have x1 : decide (d.fuse > 0) = false := decide_eq_false c1
  have x1b : ¬ 0 < d.fuse := c1
  have x2 : (d.fault == 0) = true := by simpa using c2
  clear c2
  clear hs2
  go_enter Try.func43, Try.ntmps43
  go_wp2_with fail
  refine (unhide HCP).mono ?_
  rintro e w3 ⟨v3, rfl, own3, b3⟩
  obtain ⟨a3, cap3, rfl⟩ := own_form own3
  have hs3 := b3.size
  have b3' := (unhide HB).trans (b3.mono (by omega))
  have hz3 : w.heap.size + 1 < w3.heap.size := (unhide HZ).belowC b3 (by omega) |>.lt
  have bal : Below w3.heap.size w3 (w3.alloc (Obj.cells #[.int .i64 d.room, .slice a3 N cap3, .int .i64 d.fuse, .int .i64 (-1), .bool d.down] 24)) := (Below.refl _ _).alloc (Nat.le_refl _) _
  have K1 := hide (((unhide HZ).belowC b3 (by omega)).below bal)
  have KB := hide (Blk.new w3 24 #[.int .i64 d.room, .slice a3 N cap3, .int .i64 d.fuse, .int .i64 (-1), .bool d.down])
  have RB := hide (below5 (s := w.heap.size + 1) (b3'.trans (bal.mono b3'.size)) (by omega))
  have RO := hide (own5 (s := w.heap.size + 1) (own_below own3 bal) (by omega))
  clear own3 b3 b3' HCP bal hs3
  go_upto_region 9 with (fail)
  generalize w3.alloc (Obj.cells #[.int .i64 d.room, .slice a3 N cap3, .int .i64 d.fuse, .int .i64 (-1), .bool d.down] 24) = Y at *
  have e0 := (unhide K1).cell 0
  have e1 := (unhide K1).cell 1
  have e2 := (unhide K1).cell 2
  have e3 := (unhide K1).cell 3
  have e4 := (unhide K1).cell 4
  have f0 := (unhide K1).frozen 0
  have f1 := (unhide K1).frozen 1
  have f2 := (unhide K1).frozen 2
  have f3 := (unhide K1).frozen 3
  have f4 := (unhide K1).frozen 4
  have g0 := (unhide KB).cell 0
  have g1 := (unhide KB).cell 1
  have g2 := (unhide KB).cell 2
  have g3 := (unhide KB).cell 3
  have g4 := (unhide KB).cell 4
  simp only [List.getElem?_toArray, List.getElem?_cons_succ, List.getElem?_cons_zero] at e0 e1 e2 e3 e4 g0 g1 g2 g3 g4
  go_wp2
  (try simp only [Exit.inBlock, Exit.then])
  refine bodyPost_ret (v := .tuple #[.agg #[.int .i64 d.room, .slice a3 N cap3, .int .i64 d.fuse, .int .i64 (-1), .bool d.down], .int .i64 10]) ?_ rfl ⟨_, rfl, own_mono (unhide RO _ _ _ _ _) (by omega), unhide RB _ _ _ _ _⟩
  rw [results_cell_tmp rfl]
  go_simp

set_option maxHeartbeats 2000000 in
set_option maxRecDepth 100000 in
theorem refAsks_d (d : Fs) (v : Value) (w : World) (hfit : FitAll d) (h : RowF w v d.files) (hnt : NeatF v) (hl : d.files.length ≤ 1048576) (c0 : ¬ d.fuse = 0) (c1 : 0 < d.fuse) (c2 : ¬ d.fault = 0) (c3 : 0 < d.fault) :
    Calls Try.prog 43 #[fsV d v] w fun e w' => ∃ v', e = .returned (.tuple #[fsV ⟨d.room, d.files, (d.fuse - 1), (d.fault - 1), d.down⟩ v', .int .i64 0]) ∧ w'.ownsRow w.heap.size 56 3 v' d.files.length (flatF d.files) ∧ Below w.heap.size w w' := by
  obtain ⟨a, cap, hv, h63, hff, _⟩ := id h
  subst hv
  obtain ⟨N, hN⟩ : ∃ N, d.files.length = N := ⟨_, rfl⟩
  have HN := hide hN
  have HFF := hide hff
  have hb2 : Below w.heap.size w ((w.alloc (Obj.cells #[.int .i64 d.room, .slice a N cap, .int .i64 d.fuse, .int .i64 d.fault, .bool d.down] 24)).alloc (Obj.cells #[.int .i64 0, .slice none 0 0, .int .i64 0, .int .i64 0, .bool false] 24)) := ((Below.refl _ w).alloc (Nat.le_refl _) _).alloc (by simp) _
  have z1 := Blk.new (w.alloc (Obj.cells #[.int .i64 d.room, .slice a N cap, .int .i64 d.fuse, .int .i64 d.fault, .bool d.down] 24)) 24 #[.int .i64 0, .slice none 0 0, .int .i64 0, .int .i64 0, .bool false]
  simp only [World.size_alloc] at z1
  rw [hN] at h hnt h63
  have HCP := hide (refCopy_any d (.slice a N cap) ((w.alloc (Obj.cells #[.int .i64 d.room, .slice a N cap, .int .i64 d.fuse, .int .i64 d.fault, .bool d.down] 24)).alloc (Obj.cells #[.int .i64 0, .slice none 0 0, .int .i64 0, .int .i64 0, .bool false] 24)) (by exact h.below hb2) hnt (by omega))
  rw [hN] at HCP ⊢
  have hs2 : ((w.alloc (Obj.cells #[.int .i64 d.room, .slice a N cap, .int .i64 d.fuse, .int .i64 d.fault, .bool d.down] 24)).alloc (Obj.cells #[.int .i64 0, .slice none 0 0, .int .i64 0, .int .i64 0, .bool false] 24)).heap.size = w.heap.size + 1 + 1 := by simp
  rw [hs2] at HCP
  have HZ := hide z1
  have HB := hide hb2
  clear hN h hnt hff z1 hb2
  simp only [fsV] at HCP ⊢
  obtain ⟨⟨_, ⟨q1, q2⟩, q3, q4⟩, _⟩ := hfit
  have x0 : (d.fuse == 0) = false := by simpa using c0
  have x1 : decide (d.fuse > 0) = true := decide_eq_true c1
  have x1b : 0 < d.fuse := c1
  have x2 : (d.fault == 0) = false := by simpa using c2
  have x3 : decide (d.fault > 0) = true := decide_eq_true c3
  have x3b : 0 < d.fault := c3
  clear hs2
  go_enter Try.func43, Try.ntmps43
  go_wp2_with fail
  refine (unhide HCP).mono ?_
  rintro e w3 ⟨v3, rfl, own3, b3⟩
  obtain ⟨a3, cap3, rfl⟩ := own_form own3
  have hs3 := b3.size
  have b3' := (unhide HB).trans (b3.mono (by omega))
  have hz3 : w.heap.size + 1 < w3.heap.size := (unhide HZ).belowC b3 (by omega) |>.lt
  have bal : Below w3.heap.size w3 (w3.alloc (Obj.cells #[.int .i64 d.room, .slice a3 N cap3, .int .i64 (d.fuse - 1), .int .i64 (d.fault - 1), .bool d.down] 24)) := (Below.refl _ _).alloc (Nat.le_refl _) _
  have K1 := hide (((unhide HZ).belowC b3 (by omega)).below bal)
  have KB := hide (Blk.new w3 24 #[.int .i64 d.room, .slice a3 N cap3, .int .i64 (d.fuse - 1), .int .i64 (d.fault - 1), .bool d.down])
  have RB := hide (below5 (s := w.heap.size + 1) (b3'.trans (bal.mono b3'.size)) (by omega))
  have RO := hide (own5 (s := w.heap.size + 1) (own_below own3 bal) (by omega))
  clear own3 b3 b3' HCP bal hs3
  go_upto_region 12 with (fail)
  generalize w3.alloc (Obj.cells #[.int .i64 d.room, .slice a3 N cap3, .int .i64 (d.fuse - 1), .int .i64 (d.fault - 1), .bool d.down] 24) = Y at *
  have e0 := (unhide K1).cell 0
  have e1 := (unhide K1).cell 1
  have e2 := (unhide K1).cell 2
  have e3 := (unhide K1).cell 3
  have e4 := (unhide K1).cell 4
  have f0 := (unhide K1).frozen 0
  have f1 := (unhide K1).frozen 1
  have f2 := (unhide K1).frozen 2
  have f3 := (unhide K1).frozen 3
  have f4 := (unhide K1).frozen 4
  have g0 := (unhide KB).cell 0
  have g1 := (unhide KB).cell 1
  have g2 := (unhide KB).cell 2
  have g3 := (unhide KB).cell 3
  have g4 := (unhide KB).cell 4
  simp only [List.getElem?_toArray, List.getElem?_cons_succ, List.getElem?_cons_zero] at e0 e1 e2 e3 e4 g0 g1 g2 g3 g4
  go_wp2
  (try simp only [Exit.inBlock, Exit.then])
  refine bodyPost_ret (v := .tuple #[.agg #[.int .i64 d.room, .slice a3 N cap3, .int .i64 (d.fuse - 1), .int .i64 (d.fault - 1), .bool d.down], .int .i64 0]) ?_ rfl ⟨_, rfl, own_mono (unhide RO _ _ _ _ _) (by omega), unhide RB _ _ _ _ _⟩
  rw [results_cell_tmp rfl]
  go_simp

set_option maxHeartbeats 2000000 in
set_option maxRecDepth 100000 in
theorem refAsks_e (d : Fs) (v : Value) (w : World) (hfit : FitAll d) (h : RowF w v d.files) (hnt : NeatF v) (hl : d.files.length ≤ 1048576) (c0 : ¬ d.fuse = 0) (c1 : 0 < d.fuse) (c2 : ¬ d.fault = 0) (c3 : ¬ 0 < d.fault) :
    Calls Try.prog 43 #[fsV d v] w fun e w' => ∃ v', e = .returned (.tuple #[fsV ⟨d.room, d.files, (d.fuse - 1), d.fault, d.down⟩ v', .int .i64 0]) ∧ w'.ownsRow w.heap.size 56 3 v' d.files.length (flatF d.files) ∧ Below w.heap.size w w' := by
  obtain ⟨a, cap, hv, h63, hff, _⟩ := id h
  subst hv
  obtain ⟨N, hN⟩ : ∃ N, d.files.length = N := ⟨_, rfl⟩
  have HN := hide hN
  have HFF := hide hff
  have hb2 : Below w.heap.size w ((w.alloc (Obj.cells #[.int .i64 d.room, .slice a N cap, .int .i64 d.fuse, .int .i64 d.fault, .bool d.down] 24)).alloc (Obj.cells #[.int .i64 0, .slice none 0 0, .int .i64 0, .int .i64 0, .bool false] 24)) := ((Below.refl _ w).alloc (Nat.le_refl _) _).alloc (by simp) _
  have z1 := Blk.new (w.alloc (Obj.cells #[.int .i64 d.room, .slice a N cap, .int .i64 d.fuse, .int .i64 d.fault, .bool d.down] 24)) 24 #[.int .i64 0, .slice none 0 0, .int .i64 0, .int .i64 0, .bool false]
  simp only [World.size_alloc] at z1
  rw [hN] at h hnt h63
  have HCP := hide (refCopy_any d (.slice a N cap) ((w.alloc (Obj.cells #[.int .i64 d.room, .slice a N cap, .int .i64 d.fuse, .int .i64 d.fault, .bool d.down] 24)).alloc (Obj.cells #[.int .i64 0, .slice none 0 0, .int .i64 0, .int .i64 0, .bool false] 24)) (by exact h.below hb2) hnt (by omega))
  rw [hN] at HCP ⊢
  have hs2 : ((w.alloc (Obj.cells #[.int .i64 d.room, .slice a N cap, .int .i64 d.fuse, .int .i64 d.fault, .bool d.down] 24)).alloc (Obj.cells #[.int .i64 0, .slice none 0 0, .int .i64 0, .int .i64 0, .bool false] 24)).heap.size = w.heap.size + 1 + 1 := by simp
  rw [hs2] at HCP
  have HZ := hide z1
  have HB := hide hb2
  clear hN h hnt hff z1 hb2
  simp only [fsV] at HCP ⊢
  obtain ⟨⟨_, ⟨q1, q2⟩, q3, q4⟩, _⟩ := hfit
  have x0 : (d.fuse == 0) = false := by simpa using c0
  have x1 : decide (d.fuse > 0) = true := decide_eq_true c1
  have x1b : 0 < d.fuse := c1
  have x2 : (d.fault == 0) = false := by simpa using c2
  have x3 : decide (d.fault > 0) = false := decide_eq_false c3
  have x3b : ¬ 0 < d.fault := c3
  clear hs2
  go_enter Try.func43, Try.ntmps43
  go_wp2_with fail
  refine (unhide HCP).mono ?_
  rintro e w3 ⟨v3, rfl, own3, b3⟩
  obtain ⟨a3, cap3, rfl⟩ := own_form own3
  have hs3 := b3.size
  have b3' := (unhide HB).trans (b3.mono (by omega))
  have hz3 : w.heap.size + 1 < w3.heap.size := (unhide HZ).belowC b3 (by omega) |>.lt
  have bal : Below w3.heap.size w3 (w3.alloc (Obj.cells #[.int .i64 d.room, .slice a3 N cap3, .int .i64 (d.fuse - 1), .int .i64 d.fault, .bool d.down] 24)) := (Below.refl _ _).alloc (Nat.le_refl _) _
  have K1 := hide (((unhide HZ).belowC b3 (by omega)).below bal)
  have KB := hide (Blk.new w3 24 #[.int .i64 d.room, .slice a3 N cap3, .int .i64 (d.fuse - 1), .int .i64 d.fault, .bool d.down])
  have RB := hide (below5 (s := w.heap.size + 1) (b3'.trans (bal.mono b3'.size)) (by omega))
  have RO := hide (own5 (s := w.heap.size + 1) (own_below own3 bal) (by omega))
  clear own3 b3 b3' HCP bal hs3
  go_upto_region 12 with (fail)
  generalize w3.alloc (Obj.cells #[.int .i64 d.room, .slice a3 N cap3, .int .i64 (d.fuse - 1), .int .i64 d.fault, .bool d.down] 24) = Y at *
  have e0 := (unhide K1).cell 0
  have e1 := (unhide K1).cell 1
  have e2 := (unhide K1).cell 2
  have e3 := (unhide K1).cell 3
  have e4 := (unhide K1).cell 4
  have f0 := (unhide K1).frozen 0
  have f1 := (unhide K1).frozen 1
  have f2 := (unhide K1).frozen 2
  have f3 := (unhide K1).frozen 3
  have f4 := (unhide K1).frozen 4
  have g0 := (unhide KB).cell 0
  have g1 := (unhide KB).cell 1
  have g2 := (unhide KB).cell 2
  have g3 := (unhide KB).cell 3
  have g4 := (unhide KB).cell 4
  simp only [List.getElem?_toArray, List.getElem?_cons_succ, List.getElem?_cons_zero] at e0 e1 e2 e3 e4 g0 g1 g2 g3 g4
  go_wp2
  (try simp only [Exit.inBlock, Exit.then])
  refine bodyPost_ret (v := .tuple #[.agg #[.int .i64 d.room, .slice a3 N cap3, .int .i64 (d.fuse - 1), .int .i64 d.fault, .bool d.down], .int .i64 0]) ?_ rfl ⟨_, rfl, own_mono (unhide RO _ _ _ _ _) (by omega), unhide RB _ _ _ _ _⟩
  rw [results_cell_tmp rfl]
  go_simp

set_option maxHeartbeats 2000000 in
set_option maxRecDepth 100000 in
theorem refAsks_f (d : Fs) (v : Value) (w : World) (hfit : FitAll d) (h : RowF w v d.files) (hnt : NeatF v) (hl : d.files.length ≤ 1048576) (c0 : ¬ d.fuse = 0) (c1 : ¬ 0 < d.fuse) (c2 : ¬ d.fault = 0) (c3 : 0 < d.fault) :
    Calls Try.prog 43 #[fsV d v] w fun e w' => ∃ v', e = .returned (.tuple #[fsV ⟨d.room, d.files, d.fuse, (d.fault - 1), d.down⟩ v', .int .i64 0]) ∧ w'.ownsRow w.heap.size 56 3 v' d.files.length (flatF d.files) ∧ Below w.heap.size w w' := by
  obtain ⟨a, cap, hv, h63, hff, _⟩ := id h
  subst hv
  obtain ⟨N, hN⟩ : ∃ N, d.files.length = N := ⟨_, rfl⟩
  have HN := hide hN
  have HFF := hide hff
  have hb2 : Below w.heap.size w ((w.alloc (Obj.cells #[.int .i64 d.room, .slice a N cap, .int .i64 d.fuse, .int .i64 d.fault, .bool d.down] 24)).alloc (Obj.cells #[.int .i64 0, .slice none 0 0, .int .i64 0, .int .i64 0, .bool false] 24)) := ((Below.refl _ w).alloc (Nat.le_refl _) _).alloc (by simp) _
  have z1 := Blk.new (w.alloc (Obj.cells #[.int .i64 d.room, .slice a N cap, .int .i64 d.fuse, .int .i64 d.fault, .bool d.down] 24)) 24 #[.int .i64 0, .slice none 0 0, .int .i64 0, .int .i64 0, .bool false]
  simp only [World.size_alloc] at z1
  rw [hN] at h hnt h63
  have HCP := hide (refCopy_any d (.slice a N cap) ((w.alloc (Obj.cells #[.int .i64 d.room, .slice a N cap, .int .i64 d.fuse, .int .i64 d.fault, .bool d.down] 24)).alloc (Obj.cells #[.int .i64 0, .slice none 0 0, .int .i64 0, .int .i64 0, .bool false] 24)) (by exact h.below hb2) hnt (by omega))
  rw [hN] at HCP ⊢
  have hs2 : ((w.alloc (Obj.cells #[.int .i64 d.room, .slice a N cap, .int .i64 d.fuse, .int .i64 d.fault, .bool d.down] 24)).alloc (Obj.cells #[.int .i64 0, .slice none 0 0, .int .i64 0, .int .i64 0, .bool false] 24)).heap.size = w.heap.size + 1 + 1 := by simp
  rw [hs2] at HCP
  have HZ := hide z1
  have HB := hide hb2
  clear hN h hnt hff z1 hb2
  simp only [fsV] at HCP ⊢
  obtain ⟨⟨_, ⟨q1, q2⟩, q3, q4⟩, _⟩ := hfit
  have x0 : (d.fuse == 0) = false := by simpa using c0
  have x1 : decide (d.fuse > 0) = false := decide_eq_false c1
  have x1b : ¬ 0 < d.fuse := c1
  have x2 : (d.fault == 0) = false := by simpa using c2
  have x3 : decide (d.fault > 0) = true := decide_eq_true c3
  have x3b : 0 < d.fault := c3
  clear hs2
  go_enter Try.func43, Try.ntmps43
  go_wp2_with fail
  refine (unhide HCP).mono ?_
  rintro e w3 ⟨v3, rfl, own3, b3⟩
  obtain ⟨a3, cap3, rfl⟩ := own_form own3
  have hs3 := b3.size
  have b3' := (unhide HB).trans (b3.mono (by omega))
  have hz3 : w.heap.size + 1 < w3.heap.size := (unhide HZ).belowC b3 (by omega) |>.lt
  have bal : Below w3.heap.size w3 (w3.alloc (Obj.cells #[.int .i64 d.room, .slice a3 N cap3, .int .i64 d.fuse, .int .i64 (d.fault - 1), .bool d.down] 24)) := (Below.refl _ _).alloc (Nat.le_refl _) _
  have K1 := hide (((unhide HZ).belowC b3 (by omega)).below bal)
  have KB := hide (Blk.new w3 24 #[.int .i64 d.room, .slice a3 N cap3, .int .i64 d.fuse, .int .i64 (d.fault - 1), .bool d.down])
  have RB := hide (below5 (s := w.heap.size + 1) (b3'.trans (bal.mono b3'.size)) (by omega))
  have RO := hide (own5 (s := w.heap.size + 1) (own_below own3 bal) (by omega))
  clear own3 b3 b3' HCP bal hs3
  go_upto_region 12 with (fail)
  generalize w3.alloc (Obj.cells #[.int .i64 d.room, .slice a3 N cap3, .int .i64 d.fuse, .int .i64 (d.fault - 1), .bool d.down] 24) = Y at *
  have e0 := (unhide K1).cell 0
  have e1 := (unhide K1).cell 1
  have e2 := (unhide K1).cell 2
  have e3 := (unhide K1).cell 3
  have e4 := (unhide K1).cell 4
  have f0 := (unhide K1).frozen 0
  have f1 := (unhide K1).frozen 1
  have f2 := (unhide K1).frozen 2
  have f3 := (unhide K1).frozen 3
  have f4 := (unhide K1).frozen 4
  have g0 := (unhide KB).cell 0
  have g1 := (unhide KB).cell 1
  have g2 := (unhide KB).cell 2
  have g3 := (unhide KB).cell 3
  have g4 := (unhide KB).cell 4
  simp only [List.getElem?_toArray, List.getElem?_cons_succ, List.getElem?_cons_zero] at e0 e1 e2 e3 e4 g0 g1 g2 g3 g4
  go_wp2
  (try simp only [Exit.inBlock, Exit.then])
  refine bodyPost_ret (v := .tuple #[.agg #[.int .i64 d.room, .slice a3 N cap3, .int .i64 d.fuse, .int .i64 (d.fault - 1), .bool d.down], .int .i64 0]) ?_ rfl ⟨_, rfl, own_mono (unhide RO _ _ _ _ _) (by omega), unhide RB _ _ _ _ _⟩
  rw [results_cell_tmp rfl]
  go_simp

set_option maxHeartbeats 2000000 in
set_option maxRecDepth 100000 in
theorem refAsks_g (d : Fs) (v : Value) (w : World) (hfit : FitAll d) (h : RowF w v d.files) (hnt : NeatF v) (hl : d.files.length ≤ 1048576) (c0 : ¬ d.fuse = 0) (c1 : ¬ 0 < d.fuse) (c2 : ¬ d.fault = 0) (c3 : ¬ 0 < d.fault) :
    Calls Try.prog 43 #[fsV d v] w fun e w' => ∃ v', e = .returned (.tuple #[fsV ⟨d.room, d.files, d.fuse, d.fault, d.down⟩ v', .int .i64 0]) ∧ w'.ownsRow w.heap.size 56 3 v' d.files.length (flatF d.files) ∧ Below w.heap.size w w' := by
  obtain ⟨a, cap, hv, h63, hff, _⟩ := id h
  subst hv
  obtain ⟨N, hN⟩ : ∃ N, d.files.length = N := ⟨_, rfl⟩
  have HN := hide hN
  have HFF := hide hff
  have hb2 : Below w.heap.size w ((w.alloc (Obj.cells #[.int .i64 d.room, .slice a N cap, .int .i64 d.fuse, .int .i64 d.fault, .bool d.down] 24)).alloc (Obj.cells #[.int .i64 0, .slice none 0 0, .int .i64 0, .int .i64 0, .bool false] 24)) := ((Below.refl _ w).alloc (Nat.le_refl _) _).alloc (by simp) _
  have z1 := Blk.new (w.alloc (Obj.cells #[.int .i64 d.room, .slice a N cap, .int .i64 d.fuse, .int .i64 d.fault, .bool d.down] 24)) 24 #[.int .i64 0, .slice none 0 0, .int .i64 0, .int .i64 0, .bool false]
  simp only [World.size_alloc] at z1
  rw [hN] at h hnt h63
  have HCP := hide (refCopy_any d (.slice a N cap) ((w.alloc (Obj.cells #[.int .i64 d.room, .slice a N cap, .int .i64 d.fuse, .int .i64 d.fault, .bool d.down] 24)).alloc (Obj.cells #[.int .i64 0, .slice none 0 0, .int .i64 0, .int .i64 0, .bool false] 24)) (by exact h.below hb2) hnt (by omega))
  rw [hN] at HCP ⊢
  have hs2 : ((w.alloc (Obj.cells #[.int .i64 d.room, .slice a N cap, .int .i64 d.fuse, .int .i64 d.fault, .bool d.down] 24)).alloc (Obj.cells #[.int .i64 0, .slice none 0 0, .int .i64 0, .int .i64 0, .bool false] 24)).heap.size = w.heap.size + 1 + 1 := by simp
  rw [hs2] at HCP
  have HZ := hide z1
  have HB := hide hb2
  clear hN h hnt hff z1 hb2
  simp only [fsV] at HCP ⊢
  obtain ⟨⟨_, ⟨q1, q2⟩, q3, q4⟩, _⟩ := hfit
  have x0 : (d.fuse == 0) = false := by simpa using c0
  have x1 : decide (d.fuse > 0) = false := decide_eq_false c1
  have x1b : ¬ 0 < d.fuse := c1
  have x2 : (d.fault == 0) = false := by simpa using c2
  have x3 : decide (d.fault > 0) = false := decide_eq_false c3
  have x3b : ¬ 0 < d.fault := c3
  clear hs2
  go_enter Try.func43, Try.ntmps43
  go_wp2_with fail
  refine (unhide HCP).mono ?_
  rintro e w3 ⟨v3, rfl, own3, b3⟩
  obtain ⟨a3, cap3, rfl⟩ := own_form own3
  have hs3 := b3.size
  have b3' := (unhide HB).trans (b3.mono (by omega))
  have hz3 : w.heap.size + 1 < w3.heap.size := (unhide HZ).belowC b3 (by omega) |>.lt
  have bal : Below w3.heap.size w3 (w3.alloc (Obj.cells #[.int .i64 d.room, .slice a3 N cap3, .int .i64 d.fuse, .int .i64 d.fault, .bool d.down] 24)) := (Below.refl _ _).alloc (Nat.le_refl _) _
  have K1 := hide (((unhide HZ).belowC b3 (by omega)).below bal)
  have KB := hide (Blk.new w3 24 #[.int .i64 d.room, .slice a3 N cap3, .int .i64 d.fuse, .int .i64 d.fault, .bool d.down])
  have RB := hide (below5 (s := w.heap.size + 1) (b3'.trans (bal.mono b3'.size)) (by omega))
  have RO := hide (own5 (s := w.heap.size + 1) (own_below own3 bal) (by omega))
  clear own3 b3 b3' HCP bal hs3
  go_upto_region 12 with (fail)
  generalize w3.alloc (Obj.cells #[.int .i64 d.room, .slice a3 N cap3, .int .i64 d.fuse, .int .i64 d.fault, .bool d.down] 24) = Y at *
  have e0 := (unhide K1).cell 0
  have e1 := (unhide K1).cell 1
  have e2 := (unhide K1).cell 2
  have e3 := (unhide K1).cell 3
  have e4 := (unhide K1).cell 4
  have f0 := (unhide K1).frozen 0
  have f1 := (unhide K1).frozen 1
  have f2 := (unhide K1).frozen 2
  have f3 := (unhide K1).frozen 3
  have f4 := (unhide K1).frozen 4
  have g0 := (unhide KB).cell 0
  have g1 := (unhide KB).cell 1
  have g2 := (unhide KB).cell 2
  have g3 := (unhide KB).cell 3
  have g4 := (unhide KB).cell 4
  simp only [List.getElem?_toArray, List.getElem?_cons_succ, List.getElem?_cons_zero] at e0 e1 e2 e3 e4 g0 g1 g2 g3 g4
  go_wp2
  (try simp only [Exit.inBlock, Exit.then])
  refine bodyPost_ret (v := .tuple #[.agg #[.int .i64 d.room, .slice a3 N cap3, .int .i64 d.fuse, .int .i64 d.fault, .bool d.down], .int .i64 0]) ?_ rfl ⟨_, rfl, own_mono (unhide RO _ _ _ _ _) (by omega), unhide RB _ _ _ _ _⟩
  rw [results_cell_tmp rfl]
  go_simp

/-- What a change asks. -/
theorem refAsks_any (d : Fs) (v : Value) (w : World) (hfit : FitAll d) (h : RowF w v d.files) (hnt : NeatF v) (hl : d.files.length ≤ 1048576) :
    Calls Try.prog 43 #[fsV d v] w fun e w' => ∃ v', e = .returned (.tuple #[fsV (changeR d id).1 v', .int .i64 (changeR d id).2]) ∧ w'.ownsRow w.heap.size 56 3 v' d.files.length (flatF d.files) ∧ Below w.heap.size w w' := by
  by_cases c0 : d.fuse = 0
  · have e : changeR d id = (⟨d.room, d.files, d.fuse, d.fault, true⟩, 9) := by unfold changeR; rw [if_pos c0]
    rw [e]
    exact refAsks_a d v w hfit h hnt hl c0
  · by_cases c2 : d.fault = 0
    · by_cases c1 : 0 < d.fuse
      · have e : changeR d id = (⟨d.room, d.files, d.fuse - 1, -1, d.down⟩, 10) := by unfold changeR; rw [if_neg c0, if_pos c2, if_pos c1]
        rw [e]
        exact refAsks_b d v w hfit h hnt hl c0 c1 c2
      · have e : changeR d id = (⟨d.room, d.files, d.fuse, -1, d.down⟩, 10) := by unfold changeR; rw [if_neg c0, if_pos c2, if_neg c1]
        rw [e]
        exact refAsks_c d v w hfit h hnt hl c0 c1 c2
    · have e0 : changeR d id = (spent d, 0) := by unfold changeR; rw [if_neg c0, if_neg c2]; rfl
      rw [e0]
      by_cases c1 : 0 < d.fuse
      · by_cases c3 : 0 < d.fault
        · have e : spent d = ⟨d.room, d.files, d.fuse - 1, d.fault - 1, d.down⟩ := by simp [spent, c1, c3]
          rw [e]
          exact refAsks_d d v w hfit h hnt hl c0 c1 c2 c3
        · have e : spent d = ⟨d.room, d.files, d.fuse - 1, d.fault, d.down⟩ := by simp [spent, c1, c3]
          rw [e]
          exact refAsks_e d v w hfit h hnt hl c0 c1 c2 c3
      · by_cases c3 : 0 < d.fault
        · have e : spent d = ⟨d.room, d.files, d.fuse, d.fault - 1, d.down⟩ := by simp [spent, c1, c3]
          rw [e]
          exact refAsks_f d v w hfit h hnt hl c0 c1 c2 c3
        · have e : spent d = ⟨d.room, d.files, d.fuse, d.fault, d.down⟩ := by simp [spent, c1, c3]
          rw [e]
          exact refAsks_g d v w hfit h hnt hl c0 c1 c2 c3
end Go.Proofs.Ytmfkhbofmaonkaa
