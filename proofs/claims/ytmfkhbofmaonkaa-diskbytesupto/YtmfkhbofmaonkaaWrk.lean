/-
  What disk.work does, over this seat's program: a copy is worked on by a function that is handed in.
-/
import Derived.Test.YtmfkhbofmaonkaaSys
set_option linter.unusedVariables false
namespace Go.Proofs.Ytmfkhbofmaonkaa
open Go.RowKit Go.Proofs.Dsk

theorem rowF_of_own {w : World} {C : Nat} {v : Value} {l : List File} (h : w.ownsRow C 56 3 v l.length (flatF l)) (h6 : l.length ≤ 9223372036854775807) (hf : ∀ f ∈ l, Fits f) : RowF w v l := by
  have hc := fun g => h.cells (g := g)
  rcases h.2 with ⟨rfl, h0⟩ | ⟨g, cap, cur, rfl, hb, hg, _⟩
  · exact ⟨none, 0, by rw [h0], h6, hf, Or.inl (List.eq_nil_of_length_eq_zero h0)⟩
  · refine ⟨some ⟨g, 0, none⟩, cap, rfl, h6, hf, Or.inr ⟨g, 0, rfl, (Array.getElem?_eq_some_iff.1 hg).1, fun j u hj => ?_⟩⟩
    have := hc g rfl j u hj
    rwa [Addr.add_lit] at this

theorem below5 {B s : Nat} {w W : World} (h : Below B w W) (hs : B ≤ s) : ∀ u0 u1 u2 u3 u4, Below B w (((((W.setCell ⟨s, 0, none⟩ u0).setCell ⟨s, 1, none⟩ u1).setCell ⟨s, 2, none⟩ u2).setCell ⟨s, 3, none⟩ u3).setCell ⟨s, 4, none⟩ u4) := by
  intro u0 u1 u2 u3 u4
  exact (((((h.setCell (p := ⟨s, 0, none⟩) hs _).setCell (p := ⟨s, 1, none⟩) hs _).setCell (p := ⟨s, 2, none⟩) hs _).setCell (p := ⟨s, 3, none⟩) hs _).setCell (p := ⟨s, 4, none⟩) hs _)
theorem own5 {W : World} {C s : Nat} {e : TypeId} {size n : Nat} {v : Value} {xs : List Value} (h : W.ownsRow C e size v n xs) (hs : s < C) : ∀ u0 u1 u2 u3 u4, (((((W.setCell ⟨s, 0, none⟩ u0).setCell ⟨s, 1, none⟩ u1).setCell ⟨s, 2, none⟩ u2).setCell ⟨s, 3, none⟩ u3).setCell ⟨s, 4, none⟩ u4).ownsRow C e size v n xs := by
  intro u0 u1 u2 u3 u4
  have hne : v.ownBlock ≠ some s := fun e => by have := (h.lt s e).1; omega
  exact own_set (own_set (own_set (own_set (own_set h hne) hne) hne) hne) hne
theorem Blk.belowC {w w' : World} {B C : Nat} {t : TypeId} {cs : Array Value} (h : Blk w B t cs) (hb : Below C w w') (hC : B < C) : Blk w' B t cs := by
  unfold Blk at *
  rw [hb.block B hC]; exact h

/-- A file system that is right, with its power on. -/
def Good (d : Fs) : Prop := right d = true ∧ d.down = false

theorem right_parts {d : Fs} (h : right d = true) : (0 ≤ d.room ∧ d.room ≤ 16777216 ∧ d.files.length ≤ 1024 ∧ -1 ≤ d.fuse ∧ -1 ≤ d.fault) ∧ (used d.files : Int) ≤ d.room ∧ (∀ f ∈ d.files, fileOk f = true) ∧ Rise d.files := by
  simp only [right, Bool.and_eq_true, decide_eq_true_eq, List.all_eq_true] at h
  exact ⟨headOk_yes.1 h.1, h.2.1, h.2.2.1, h.2.2.2⟩

theorem size_le_used {l : List File} {f : File} (h : f ∈ l) : f.data.size ≤ used l := by
  unfold used
  induction l with
  | nil => simp at h
  | cons a l ih =>
    simp only [List.map_cons, List.sum_cons]
    rcases List.mem_cons.1 h with rfl | h
    · omega
    · have := ih h; omega

theorem small_of_right {d : Fs} (h : right d = true) : ∀ f ∈ d.files, f.name.size ≤ 281474976710656 ∧ f.data.size ≤ 281474976710656 := by
  obtain ⟨h1, h2, h3, _⟩ := right_parts h
  intro f hf
  have a := size_le_used hf
  have b := h3 f hf
  simp only [fileOk, named, Bool.and_eq_true, decide_eq_true_eq] at b
  omega

set_option maxHeartbeats 4000000 in
set_option maxRecDepth 100000 in
theorem work_any (d : Fs) (v : Value) (g : Nat) (lb : Array Value) (f : Fs → Fs × Nat) (w : World) (hfit : FitAll d) (h : RowF w v d.files) (eg : ∀ args w, (callFunc g args).run Try.prog w = .ok (.enter g args) w)
    (hdo : Good d → ∀ W C B, w.heap.size ≤ C → Below w.heap.size w W → Sys W C B d → Calls Try.prog g (#[.pointer (some ⟨B, 0, none⟩)] ++ lb) W fun e W' => e = .returned (.int .i64 (f d).2) ∧ Sys W' C B (f d).1 ∧ Below C W W') :
    Calls Try.prog 31 #[fsV d v, .func (.func g) #[] lb] w fun e w' => ∃ v', e = .returned (.tuple #[fsV (workR d f).1 v', .int .i64 (workR d f).2]) ∧ RowF w' v' (workR d f).1.files ∧ FitAll (workR d f).1 ∧ Below w.heap.size w w' := by
  have HDO := hide hdo
  have HFIT := hide hfit
  have hb1 := (((Below.refl _ w).alloc (Nat.le_refl _) (Obj.cells #[.int .i64 d.room, v, .int .i64 d.fuse, .int .i64 d.fault, .bool d.down] 24)).alloc (by simp) (Obj.cells #[.int .i64 0, .slice none 0 0, .int .i64 0, .int .i64 0, .bool false] 24))
  have hrd := ready_any d v _ hfit.1 (h.below hb1)
  have HRW := hide (h.below hb1)
  obtain ⟨a, cap, rfl, h63, hff, hc⟩ := h
  clear hc hff hdo
  have z0 := ((Blk.new w 24 #[.int .i64 d.room, .slice a d.files.length cap, .int .i64 d.fuse, .int .i64 d.fault, .bool d.down]).below ((Below.refl _ _).alloc (Nat.le_refl _) (Obj.cells #[.int .i64 0, .slice none 0 0, .int .i64 0, .int .i64 0, .bool false] 24)))
  have z1 := (Blk.new (w.alloc (Obj.cells #[.int .i64 d.room, .slice a d.files.length cap, .int .i64 d.fuse, .int .i64 d.fault, .bool d.down] 24)) 24 #[.int .i64 0, .slice none 0 0, .int .i64 0, .int .i64 0, .bool false])
  simp only [World.size_alloc] at z1
  cases hr : right d with
  | false =>
    have hw : workR d f = (zeroFs, 2) := by unfold workR; rw [if_pos hr]
    have hr2 : ready d = 2 := by unfold ready; rw [if_pos hr]
    rw [hr2] at hrd
    rw [hw]
    simp only [fsV] at hrd ⊢
    go_enter Try.func31, Try.ntmps31
    go_wp2_with fail
    refine hrd.mono ?_
    rintro e w1 ⟨rfl, b1⟩
    have k1 := z1.below b1
    have e0 := k1.cell 0
    have e1 := k1.cell 1
    have e2 := k1.cell 2
    have e3 := k1.cell 3
    have e4 := k1.cell 4
    have f0 := k1.frozen 0
    have f1 := k1.frozen 1
    have f2 := k1.frozen 2
    have f3 := k1.frozen 3
    have f4 := k1.frozen 4
    simp only [List.getElem?_toArray, List.getElem?_cons_succ, List.getElem?_cons_zero] at e0 e1 e2 e3 e4
    have BW := hide (hb1.trans (b1.mono (by simp; omega)))
    clear k1 z0 z1 hb1 b1 hrd hr hw hr2
    have hlow := below5 (s := w.heap.size + 1) (unhide BW) (by omega)
    have BF := hide hlow
    clear hlow
    go_wp2
    (try simp only [Exit.inBlock, Exit.then])
    refine bodyPost_ret (v := .tuple #[.agg #[.int .i64 0, .slice none 0 0, .int .i64 0, .int .i64 0, .bool false], .int .i64 2]) ?_ rfl ⟨_, rfl, ⟨none, 0, rfl, by simp [zeroFs], by simp [zeroFs], Or.inl rfl⟩, ⟨⟨⟨by simp [zeroFs], by simp [zeroFs]⟩, ⟨by simp [zeroFs], by simp [zeroFs]⟩, ⟨by simp [zeroFs], by simp [zeroFs]⟩⟩, by simp [zeroFs], by simp [zeroFs]⟩, unhide BF _ _ _ _ _⟩
    rw [results_cell_tmp rfl]
    go_simp
  | true =>
    have hs := small_of_right hr
    have hp := right_parts hr
    have hn : d.files.length ≤ 1024 := hp.1.2.2.1
    have hcp := fun (W : World) (hW : RowF W (.slice a d.files.length cap) d.files) => copyOf_any d (.slice a d.files.length cap) W hn hs hW
    have HCP := hide hcp
    clear hcp hp hs
    simp only [fsV] at hrd HCP ⊢
    by_cases hdn : d.down = true
    · skip
      have hw : workR d f = (d, 9) := by unfold workR; rw [if_neg (by simp [hr]), if_pos hdn]
      have hr2 : ready d = 9 := by unfold ready; rw [if_neg (by simp [hr]), if_pos hdn]
      rw [hr2] at hrd
      rw [hw]
      clear hw hr2 hdn
      go_enter Try.func31, Try.ntmps31
      go_wp2_with fail
      refine hrd.mono ?_
      rintro e w1 ⟨rfl, b1⟩
      have k0 := z0.below b1
      have k1 := z1.below b1
      have c0 := k0.cell 0
      have c1 := k0.cell 1
      have c2 := k0.cell 2
      have c3 := k0.cell 3
      have c4 := k0.cell 4
      simp only [List.getElem?_toArray, List.getElem?_cons_succ, List.getElem?_cons_zero] at c0 c1 c2 c3 c4
      have hs1 := b1.size
      have hbw1 := hb1.trans (b1.mono (by simp; omega))
      have hrw1 := (unhide HRW).below b1
      simp only [World.size_alloc] at hs1
      have BW1 := hide hbw1
      have K1 := hide k1
      have CP := hide (unhide HCP w1 hrw1)
      clear k0 k1 z0 z1 hb1 b1 hrd hr hbw1 hrw1 HRW HCP
      go_wp2_with fail
      refine (unhide CP).mono ?_
      rintro e w2 ⟨v', rfl, hown, b2⟩
      obtain ⟨a', cap', rfl⟩ := own_form hown
      have hs2 := b2.size
      have BW2 := hide ((unhide BW1).trans (b2.mono (unhide BW1).size))
      have K1' := hide ((unhide K1).below b2)
      have OWN := hide hown
      clear hown b2 c0 c1 c2 c3 c4 CP K1
      have BW := hide (unhide BW2)
      have hown3 := hide ((unhide OWN).alloc (Obj.cells #[.int .i64 d.room, .slice a' d.files.length cap', .int .i64 d.fuse, .int .i64 d.fault, .bool d.down] 52))
      have k1 := (unhide K1').below ((Below.refl _ w2).alloc (Nat.le_refl _) (Obj.cells #[.int .i64 d.room, .slice a' d.files.length cap', .int .i64 d.fuse, .int .i64 d.fault, .bool d.down] 52))
      have BW3 := hide ((unhide BW2).alloc (unhide BW2).size (Obj.cells #[.int .i64 d.room, .slice a' d.files.length cap', .int .i64 d.fuse, .int .i64 d.fault, .bool d.down] 52))
      have e0 := k1.cell 0
      have e1 := k1.cell 1
      have e2 := k1.cell 2
      have e3 := k1.cell 3
      have e4 := k1.cell 4
      have f0 := k1.frozen 0
      have f1 := k1.frozen 1
      have f2 := k1.frozen 2
      have f3 := k1.frozen 3
      have f4 := k1.frozen 4
      simp only [List.getElem?_toArray, List.getElem?_cons_succ, List.getElem?_cons_zero] at e0 e1 e2 e3 e4
      have RB := hide (below5 (s := w.heap.size + 1) (unhide BW3) (by omega))
      have RO := hide (own5 (s := w.heap.size + 1) (unhide hown3) (by omega))
      clear k1 K1'
      go_wp2
      (try simp only [Exit.inBlock, Exit.then])
      refine bodyPost_ret (v := .tuple #[.agg #[.int .i64 d.room, .slice a' d.files.length cap', .int .i64 d.fuse, .int .i64 d.fault, .bool d.down], .int .i64 9]) ?_ rfl ⟨_, rfl, rowF_of_own (unhide RO _ _ _ _ _) (unhide HFIT).2.2 (unhide HFIT).2.1, unhide HFIT, unhide RB _ _ _ _ _⟩
      rw [results_cell_tmp rfl]
      go_simp
    · have hw : workR d f = f d := by unfold workR; rw [if_neg (by simp [hr]), if_neg hdn]
      have hr2 : ready d = 0 := by unfold ready; rw [if_neg (by simp [hr]), if_neg hdn]
      rw [hr2] at hrd
      rw [hw]
      have HD := hide (unhide HDO ⟨hr, by simpa using hdn⟩)
      clear HDO
      generalize f d = fd at HD ⊢
      obtain ⟨d4, n4⟩ := fd
      simp only at HD ⊢
      clear hw hr2 hdn
      go_enter Try.func31, Try.ntmps31
      go_wp2_with fail
      refine hrd.mono ?_
      rintro e w1 ⟨rfl, b1⟩
      have k0 := z0.below b1
      have k1 := z1.below b1
      have c0 := k0.cell 0
      have c1 := k0.cell 1
      have c2 := k0.cell 2
      have c3 := k0.cell 3
      have c4 := k0.cell 4
      simp only [List.getElem?_toArray, List.getElem?_cons_succ, List.getElem?_cons_zero] at c0 c1 c2 c3 c4
      have hs1 := b1.size
      have hbw1 := hb1.trans (b1.mono (by simp; omega))
      have hrw1 := (unhide HRW).below b1
      simp only [World.size_alloc] at hs1
      have BW1 := hide hbw1
      have K1 := hide k1
      have CP := hide (unhide HCP w1 hrw1)
      clear k0 k1 z0 z1 hb1 b1 hrd hr hbw1 hrw1 HRW HCP
      go_wp2_with fail
      refine (unhide CP).mono ?_
      rintro e w2 ⟨v', rfl, hown, b2⟩
      obtain ⟨a', cap', rfl⟩ := own_form hown
      have hs2 := b2.size
      have BW2 := hide ((unhide BW1).trans (b2.mono (unhide BW1).size))
      have K1' := hide ((unhide K1).below b2)
      have OWN := hide hown
      clear hown b2 c0 c1 c2 c3 c4 CP K1
      have hal := (Below.refl w2.heap.size w2).alloc (Nat.le_refl _) (Obj.cells #[.int .i64 d.room, .slice a' d.files.length cap', .int .i64 d.fuse, .int .i64 d.fault, .bool d.down] 52)
      have hown3 := (unhide OWN).alloc (Obj.cells #[.int .i64 d.room, .slice a' d.files.length cap', .int .i64 d.fuse, .int .i64 d.fault, .bool d.down] 52)
      have hsys : Sys (w2.alloc (Obj.cells #[.int .i64 d.room, .slice a' d.files.length cap', .int .i64 d.fuse, .int .i64 d.fault, .bool d.down] 52)) w1.heap.size w2.heap.size d := by
        refine ⟨hs2, unhide HFIT, .slice a' d.files.length cap', Blk.new w2 _ _, hown3, fun e => ?_⟩
        have := ((unhide OWN).lt _ e).2
        omega
      have BW3 := hide ((unhide BW2).alloc (unhide BW2).size (Obj.cells #[.int .i64 d.room, .slice a' d.files.length cap', .int .i64 d.fuse, .int .i64 d.fault, .bool d.down] 52))
      have K3 := hide ((unhide K1').below hal)
      have HDD := hide (unhide HD _ w1.heap.size w2.heap.size (by omega) (unhide BW3) hsys)
      clear hal hown3 hsys K1' HD
      go_wp2_with fail
      refine (unhide HDD).mono ?_
      rintro e w4 ⟨rfl, s4, b4⟩
      have K4 := (unhide K3).belowC b4 (by omega)
      have BW4 := hide ((unhide BW3).trans (b4.mono (by omega)))
      obtain ⟨_, hfit4, v4, hb4, hown4, hne4⟩ := s4
      simp only [sysCells] at hb4 hown4 hfit4 ⊢
      obtain ⟨a4, cap4, rfl⟩ := own_form hown4
      have RB := hide (below5 (s := w.heap.size + 1) (unhide BW4) (by omega))
      have RO := hide (own5 (s := w.heap.size + 1) hown4 (by omega))
      have HF4 := hide hfit4
      have c0 := hb4.cell 0
      have c1 := hb4.cell 1
      have c2 := hb4.cell 2
      have c3 := hb4.cell 3
      have c4 := hb4.cell 4
      have e0 := K4.cell 0
      have e1 := K4.cell 1
      have e2 := K4.cell 2
      have e3 := K4.cell 3
      have e4 := K4.cell 4
      have f0 := K4.frozen 0
      have f1 := K4.frozen 1
      have f2 := K4.frozen 2
      have f3 := K4.frozen 3
      have f4 := K4.frozen 4
      simp only [List.getElem?_toArray, List.getElem?_cons_succ, List.getElem?_cons_zero] at c0 c1 c2 c3 c4 e0 e1 e2 e3 e4
      clear hb4 hown4 hne4 K4 b4 hfit4 HDD
      go_wp2
      (try simp only [Exit.inBlock, Exit.then])
      refine bodyPost_ret (v := .tuple #[.agg #[.int .i64 d4.room, .slice a4 d4.files.length cap4, .int .i64 d4.fuse, .int .i64 d4.fault, .bool d4.down], .int .i64 n4]) ?_ rfl ⟨_, rfl, rowF_of_own (unhide RO _ _ _ _ _) (unhide HF4).2.2 (unhide HF4).2.1, unhide HF4, unhide RB _ _ _ _ _⟩
      rw [results_cell_tmp rfl]
      go_simp

end Go.Proofs.Ytmfkhbofmaonkaa
