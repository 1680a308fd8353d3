/-
  What box.Uids, Recent, Place and Find do, over this seat's program.
-/
import Derived.Test.YthpjogfclklefaaDoorBap
set_option linter.unusedVariables false
set_option linter.unusedSimpArgs false
namespace Go.Proofs.YthpjogfclklefaaDoor
open Go.RowKit

def FineM (m : Msg) : Prop := m.fl ≤ 31 ∧ m.raw.size ≤ 65536 ∧ rightB m.dy m.sc m.zn = true
theorem mailsOk_all {nx : Nat} : ∀ {le : Nat} {l : List Msg}, mailsOk nx le l = true → (∀ m ∈ l, le ≤ m.uid ∧ m.uid < nx ∧ FineM m) ∧ (uidsM l).Pairwise (· < ·)
  | _, [], _ => ⟨by simp, by simp [uidsM]⟩
  | le, m :: r, h => by
    simp only [mailsOk, Bool.and_eq_true, decide_eq_true_eq] at h
    obtain ⟨⟨⟨h1, h2⟩, h3, h4, h5⟩, h6⟩ := h
    obtain ⟨h7, h8⟩ := mailsOk_all h6
    refine ⟨fun x hx => ?_, ?_⟩
    · rcases List.mem_cons.1 hx with rfl | hx
      · exact ⟨h1, h2, h3, h4, h5⟩
      · have := h7 x hx
        exact ⟨by omega, this.2⟩
    · unfold uidsM at h8 ⊢
      rw [List.map_cons, List.pairwise_cons]
      refine ⟨fun y hy => ?_, h8⟩
      obtain ⟨x, hx, rfl⟩ := List.mem_map.1 hy
      have := h7 x hx
      omega
theorem okB_mails {b : Bx} (h : okB b = true) : mailsOk b.nx 1 b.ms = true := by
  unfold okB at h
  simp only [Bool.and_eq_true] at h
  exact h.2.2
theorem okB_rise {b : Bx} (h : okB b = true) : (uidsM b.ms).Pairwise (· < ·) := (mailsOk_all (okB_mails h)).2
theorem okB_head {b : Bx} (h : okB b = true) : b.va ≠ 0 ∧ 1 ≤ b.nx ∧ b.nx ≤ 4294967296 ∧ b.mr ≤ b.la ∧ b.la < b.nx := by
  unfold okB at h
  simp only [Bool.and_eq_true, decide_eq_true_eq] at h
  exact h.1
theorem aboveL_zero {l : List Msg} (h : ∀ m ∈ l, 1 ≤ m.uid) : aboveL 0 l = uidsM l := by
  unfold aboveL
  rw [List.filter_eq_self.2]
  intro m hm
  have := h m hm
  simp; omega
theorem AtU.idx {l : List Msg} {i u : Nat} (hr : (uidsM l).Pairwise (· < ·)) (h : AtU l i u) : l.findIdx (fun m => m.uid == u) = i := by
  obtain ⟨m, hm, hu⟩ := h
  obtain ⟨hi, hm⟩ := List.getElem?_eq_some_iff.1 hm
  rw [List.findIdx_eq hi]
  refine ⟨by rw [hm, hu]; simp, fun j hj => ?_⟩
  have := List.pairwise_iff_getElem.1 hr j i (by rw [uidsM_len]; omega) (by rw [uidsM_len]; omega) hj
  rw [uidsM_get l j (by omega), uidsM_get l i hi, hm, hu] at this
  simp; omega
/-- The mail of that number, and where it stands. -/
def placeL (l : List Msg) (u : Nat) : Nat := if u ∈ uidsM l then l.findIdx (fun m => m.uid == u) + 1 else 0
def placeB (b : Bx) (u : Nat) : Nat := if okB b = true then placeL b.ms u else 0
def whyB (b : Bx) (u : Nat) : Nat := if okB b = true then if u ∈ uidsM b.ms then 0 else 3 else 2
def zeroM : Msg := ⟨0, 0, 0, 0, 0, ⟨#[]⟩⟩
def findL (l : List Msg) (u : Nat) : Msg := (l.find? (fun m => m.uid == u)).getD zeroM
def findB (b : Bx) (u : Nat) : Msg := if okB b = true then findL b.ms u else zeroM
theorem AtU.find {l : List Msg} {i u : Nat} (hr : (uidsM l).Pairwise (· < ·)) (h : AtU l i u) : l[i]? = some (findL l u) := by
  unfold findL
  rw [List.find?_eq_getElem?_findIdx, h.idx hr]
  obtain ⟨m, hm, hu⟩ := h
  rw [hm]; rfl
theorem findL_none {l : List Msg} {u : Nat} (h : u ∉ uidsM l) : findL l u = zeroM := by
  unfold findL
  rw [List.find?_eq_none.2]
  · rfl
  · intro m hm he
    exact h (List.mem_map.2 ⟨m, hm, by simpa using he⟩)

set_option maxHeartbeats 1000000 in
set_option maxRecDepth 100000 in
theorem uids_any (b : Bx) (v : Value) (w : World) (ht : LTab w) (h : RowM w v b.ms) (hf : FitB b) :
    Calls Tryd.prog 19 #[bxV b v] w fun e w' => (∃ v', e = .returned (.tuple #[v', .int .i64 (chkB b : Int)]) ∧ OutT w' v' (aboveB 0 b)) ∧ Below w.heap.size w w' := by
  have HC := hide (fun W (hW : LTab W) (hR : RowM W v b.ms) => above_any b v 0 W hW hR hf (by omega))
  generalize chkB b = C at HC ⊢
  generalize aboveB 0 b = R at HC ⊢
  obtain ⟨va, nx, mr, la, ms⟩ := b
  simp only [bxV, bxC] at HC h ⊢
  have HA := hide (show Below w.heap.size w (w.alloc (.cells #[.int .u32 (va : Int), .int .u64 (nx : Int), .int .u32 (mr : Int), .int .u32 (la : Int), v] 26)) from (Below.refl _ w).alloc (Nat.le_refl _) _)
  have HRA := hide (h.below (unhide HA))
  have HTA := hide (ht.below (unhide HA))
  obtain ⟨a, cap, rfl, hl, _, _⟩ := h
  clear ht hf
  go_enter Tryd.func19, Tryd.ntmps19
  go_wp2_with fail
  refine (unhide HC _ (unhide HTA) (unhide HRA)).mono ?_
  rintro e w1 ⟨⟨v', rfl, hr⟩, b1⟩
  have HB := hide (belows' (unhide HA) b1)
  have HR1 := hide hr
  obtain ⟨a', c', rfl, _⟩ := own_sliceG hr.1
  clear b1 HA HRA HTA HC
  go_wp2
  refine bodyPost_ret (results_tmp2 rfl _ _ _) rfl ?_
  exact ⟨⟨_, rfl, unhide HR1⟩, unhide HB⟩
set_option maxHeartbeats 1000000 in
set_option maxRecDepth 100000 in
theorem recent_any (b : Bx) (v : Value) (w : World) (ht : LTab w) (h : RowM w v b.ms) (hf : FitB b) :
    Calls Tryd.prog 23 #[bxV b v] w fun e w' => (∃ v', e = .returned (.tuple #[v', .int .i64 (chkB b : Int)]) ∧ OutT w' v' (aboveB b.mr b)) ∧ Below w.heap.size w w' := by
  have HC := hide (fun W (hW : LTab W) (hR : RowM W v b.ms) => above_any b v b.mr W hW hR hf hf.2.2.1)
  generalize chkB b = C at HC ⊢
  generalize aboveB b.mr b = R at HC ⊢
  obtain ⟨va, nx, mr, la, ms⟩ := b
  simp only [bxV, bxC] at HC h ⊢
  have HA := hide (show Below w.heap.size w (w.alloc (.cells #[.int .u32 (va : Int), .int .u64 (nx : Int), .int .u32 (mr : Int), .int .u32 (la : Int), v] 26)) from (Below.refl _ w).alloc (Nat.le_refl _) _)
  have HRA := hide (h.below (unhide HA))
  have HTA := hide (ht.below (unhide HA))
  obtain ⟨a, cap, rfl, hl, _, _⟩ := h
  clear ht hf
  go_enter Tryd.func23, Tryd.ntmps23
  go_wp2_with fail
  refine (unhide HC _ (unhide HTA) (unhide HRA)).mono ?_
  rintro e w1 ⟨⟨v', rfl, hr⟩, b1⟩
  have HB := hide (belows' (unhide HA) b1)
  have HR1 := hide hr
  obtain ⟨a', c', rfl, _⟩ := own_sliceG hr.1
  clear b1 HA HRA HTA HC
  go_wp2
  refine bodyPost_ret (results_tmp2 rfl _ _ _) rfl ?_
  exact ⟨⟨_, rfl, unhide HR1⟩, unhide HB⟩

end Go.Proofs.YthpjogfclklefaaDoor
