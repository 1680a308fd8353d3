/-
  What tally.Of tells, over this seat's program.
-/
import Derived.Test.YtlolilhlpbpfjaaGreatDoorTla
import Derived.Test.YtlolilhlpbpfjaaGreatDoorApg
import Derived.Laws.ResultCell
import Derived.Deep.Cut
set_option linter.unusedVariables false
set_option linter.unusedSimpArgs false
namespace Go.Proofs.YtlolilhlpbpfjaaGreatDoor
open Go.RowKit Go.Proofs.Nst

def zC : Array Value := #[.int .u8 0, .int .i64 0, .int .u32 0, .int .u32 0, .slice none 0 0]
theorem below5 {B s : Nat} {w W : World} (h : Below B w W) (hs : B ≤ s) (u0 u1 u2 u3 u4 : Value) : Below B w (((((W.setCell ⟨s, 0, none⟩ u0).setCell ⟨s, 1, none⟩ u1).setCell ⟨s, 2, none⟩ u2).setCell ⟨s, 3, none⟩ u3).setCell ⟨s, 4, none⟩ u4) :=
  ((((h.setCell (p := ⟨s, 0, none⟩) hs _).setCell (p := ⟨s, 1, none⟩) hs _).setCell (p := ⟨s, 2, none⟩) hs _).setCell (p := ⟨s, 3, none⟩) hs _).setCell (p := ⟨s, 4, none⟩) hs _
theorem own_setT {w : World} {C P t e k n i : Nat} {v u : Value} {xs : List Value} {cs : Array Value} (h : w.ownsRow C e k v n xs) (hb : Blk w P t cs) (hne : t ≠ e) : (w.setCell ⟨P, i, none⟩ u).ownsRow C e k v n xs := by
  refine h.kept (row := some P) ⟨rfl, rfl, rfl, by simp, fun k hk hne2 => Below.heap_setCell _ _ _ _ (fun e => hne2 (by rw [e]))⟩ ?_
  right
  exact own_neT h hb hne
theorem zV (v : Value) : tlV zT v = .agg #[.int .u8 0, .int .i64 0, .int .u32 0, .int .u32 0, v] := rfl
/-- A tally at work at block C, behind the box of the answer. -/
structure OS (w W : World) (C : Nat) (cs : Array Value) : Prop where
  lt : w.heap.size < C
  bel : Below w.heap.size w W
  k0 : Blk W w.heap.size 28 zC
  k1 : Blk W C 28 cs
theorem OS.set {w W : World} {C : Nat} {cs : Array Value} (h : OS w W C cs) (i : Nat) (u : Value) : OS w (W.setCell ⟨C, i, none⟩ u) C (cs.setIfInBounds i u) :=
  ⟨h.lt, h.bel.setCell (p := ⟨C, i, none⟩) (Nat.le_of_lt h.lt) _, h.k0.other (by have := h.lt; show w.heap.size ≠ C; omega) _, h.k1.set i u⟩
theorem OS.below {w W W' : World} {C : Nat} {cs : Array Value} (h : OS w W C cs) (hb : Below W.heap.size W W') : OS w W' C cs :=
  ⟨h.lt, h.bel.trans (hb.mono h.bel.size), h.k0.below hb, h.k1.below hb⟩
theorem OS.new {w W : World} (h : Below w.heap.size w W) (h0 : Blk W w.heap.size 28 zC) (cs : Array Value) : OS w (W.alloc (.cells cs 28)) W.heap.size cs :=
  ⟨h0.lt, h.alloc h.size _, h0.below ((Below.refl _ W).alloc (Nat.le_refl _) _), Blk.new W _ _⟩

set_option maxHeartbeats 4000000 in
set_option maxRecDepth 100000 in
theorem of_no (wt : Nat) (v : Value) (ns : List Nat) (w : World) (h : RowN w v ns) (hl : ns.length ≤ 1048576) (hw : wt ≤ 255) (hno : 15 < wt ∨ 0 ∈ ns) :
    Calls Tryz.prog 5 #[.int .u8 (wt : Int), v] w fun e w' => e = .returned (.tuple #[tlV zT (.slice none 0 0), .int .i64 1]) ∧ Below w.heap.size w w' := by
  have hA : Below w.heap.size w (w.alloc (.cells zC 28)) := (Below.refl _ w).alloc (Nat.le_refl _) _
  have HA := hide hA
  have ho := over15n wt hw
  have HC := hide (contains_any v ns 0 _ (h.below hA) hl)
  have HK := hide (Blk.new w 28 zC)
  simp only [zC] at HA HC HK
  clear hA
  rw [zV]
  by_cases hb : 15 < wt
  · rw [decide_eq_true hb] at ho
    clear hb hno h hl HC
    go_enter Tryz.func5, Tryz.ntmps5
    go_wp2
    refine bodyPost_ret (v := .tuple #[.agg #[.int .u8 0, .int .i64 0, .int .u32 0, .int .u32 0, .slice none 0 0], .int .i64 1]) ?_ rfl ⟨rfl, unhide HA⟩
    rw [results_cell_tmp rfl]
    go_simp
  · rw [decide_eq_false hb] at ho
    have hm : 0 ∈ ns := hno.resolve_left hb
    rw [decide_eq_true hm] at HC
    clear hb hno hm h hl
    go_enter Tryz.func5, Tryz.ntmps5
    go_wp2_with fail
    refine (unhide HC).mono ?_
    rintro e w1 ⟨rfl, b1⟩
    have HK1 := hide ((unhide HK).below b1)
    have c0 := (unhide HK1).cell 0
    have c1 := (unhide HK1).cell 1
    have c2 := (unhide HK1).cell 2
    have c3 := (unhide HK1).cell 3
    have c4 := (unhide HK1).cell 4
    have f0 := (unhide HK1).frozen 0
    have f1 := (unhide HK1).frozen 1
    have f2 := (unhide HK1).frozen 2
    have f3 := (unhide HK1).frozen 3
    have f4 := (unhide HK1).frozen 4
    simp only [List.getElem?_toArray, List.getElem?_cons_succ, List.getElem?_cons_zero] at c0 c1 c2 c3 c4
    have HB := hide (belows' (unhide HA) b1)
    clear b1 HK HC
    go_wp2
    refine bodyPost_ret (v := .tuple #[.agg #[.int .u8 0, .int .i64 0, .int .u32 0, .int .u32 0, .slice none 0 0], .int .i64 1]) ?_ rfl ⟨rfl, below5 (unhide HB) (Nat.le_refl _) _ _ _ _ _⟩
    rw [results_cell_tmp rfl]
    go_simp

set_option maxHeartbeats 4000000 in
set_option maxRecDepth 100000 in
theorem of_chk (wt : Nat) (v : Value) (ns : List Nat) (w : World) (h : RowN w v ns) (hl : ns.length ≤ 1048576) (hw : wt ≤ 15) (hm : ¬ 0 ∈ ns) (hk : chk ns ≠ 0) :
    Calls Tryz.prog 5 #[.int .u8 (wt : Int), v] w fun e w' => e = .returned (.tuple #[tlV zT (.slice none 0 0), .int .i64 (chk ns : Int)]) ∧ Below w.heap.size w w' := by
  have hk0 : ((chk ns : Int) != 0) = true := by simp; omega
  rw [zV]
  obtain ⟨K, hK⟩ : ∃ K, chk ns = K := ⟨_, rfl⟩
  rw [hK] at hk0 hk ⊢
  have hA : Below w.heap.size w (w.alloc (.cells zC 28)) := (Below.refl _ w).alloc (Nat.le_refl _) _
  have HA := hide hA
  have ho := over15n wt (by omega)
  rw [decide_eq_false (by omega)] at ho
  have HR := hide h
  have HC := hide (contains_any v ns 0 _ (h.below hA) hl)
  rw [decide_eq_false hm] at HC
  have HK := hide (Blk.new w 28 zC)
  have HCH := hide (fun W (hb : Below w.heap.size w W) => check_any v ns W (h.below hb))
  rw [hK] at HCH
  simp only [zC] at HA HC HK
  clear hA hm hl
  go_enter Tryz.func5, Tryz.ntmps5
  go_wp2_with fail
  refine (unhide HC).mono ?_
  rintro e w1 ⟨rfl, b1⟩
  have HK1 := hide ((unhide HK).below b1)
  have HB := hide (belows' (unhide HA) b1)
  clear b1 HK HC
  go_wp2_with fail
  refine (unhide HCH _ (unhide HB)).mono ?_
  rintro e w2 ⟨rfl, q, hq⟩
  have HB2 : Hid (Below w.heap.size w w2) := hide (by rw [hq]; exact below_dr (unhide HB) q)
  have HK2 : Hid (Blk w2 w.heap.size 28 zC) := hide ((unhide HK1).below (by rw [hq]; exact below_dr (Below.refl _ _) q))
  clear hq HB HK1 HCH

  clear hk hw h HR hK
  have c0 := (unhide HK2).cell 0
  have c1 := (unhide HK2).cell 1
  have c2 := (unhide HK2).cell 2
  have c3 := (unhide HK2).cell 3
  have c4 := (unhide HK2).cell 4
  have f0 := (unhide HK2).frozen 0
  have f1 := (unhide HK2).frozen 1
  have f2 := (unhide HK2).frozen 2
  have f3 := (unhide HK2).frozen 3
  have f4 := (unhide HK2).frozen 4
  simp only [zC, List.getElem?_toArray, List.getElem?_cons_succ, List.getElem?_cons_zero] at c0 c1 c2 c3 c4
  go_wp2
  refine bodyPost_ret (v := .tuple #[.agg #[.int .u8 0, .int .i64 0, .int .u32 0, .int .u32 0, .slice none 0 0], .int .i64 (K : Int)]) ?_ rfl ⟨rfl, below5 (unhide HB2) (Nat.le_refl _) _ _ _ _ _⟩
  rw [results_cell_tmp rfl]
  go_simp

set_option maxHeartbeats 4000000 in
set_option maxRecDepth 100000 in
theorem of_nil (wt : Nat) (v : Value) (w : World) (h : RowN w v []) (hw : wt ≤ 15) :
    Calls Tryz.prog 5 #[.int .u8 (wt : Int), v] w fun e w' => e = .returned (.tuple #[.agg #[.int .u8 (wt : Int), .int .i64 0, .int .u32 0, .int .u32 0, .slice none 0 0], .int .i64 0]) ∧ Below w.heap.size w w' := by
  obtain ⟨ns, hns⟩ : ∃ ns : List Nat, ns = [] := ⟨_, rfl⟩
  rw [← hns] at h
  have hl : ns.length ≤ 1048576 := by rw [hns]; simp
  have hm : ¬ 0 ∈ ns := by rw [hns]; simp
  have hK : chk ns = 0 := by rw [hns]; rfl
  have hn0 : ns.length = 0 := by rw [hns]; rfl
  have hA : Below w.heap.size w (w.alloc (.cells zC 28)) := (Below.refl _ w).alloc (Nat.le_refl _) _
  have HA := hide hA
  have ho := over15n wt (by omega)
  rw [decide_eq_false (by omega)] at ho
  have HR := hide h
  have HC := hide (contains_any v ns 0 _ (h.below hA) hl)
  rw [decide_eq_false hm] at HC
  have HK := hide (Blk.new w 28 zC)
  have HCH := hide (fun W (hb : Below w.heap.size w W) => check_any v ns W (h.below hb))
  rw [hK] at HCH
  simp only [zC] at HA HC HK
  clear hA hm hl
  go_enter Tryz.func5, Tryz.ntmps5
  go_wp2_with fail
  refine (unhide HC).mono ?_
  rintro e w1 ⟨rfl, b1⟩
  have HK1 := hide ((unhide HK).below b1)
  have HB := hide (belows' (unhide HA) b1)
  clear b1 HK HC
  go_wp2_with fail
  refine (unhide HCH _ (unhide HB)).mono ?_
  rintro e w2 ⟨rfl, q, hq⟩
  have HB2 : Hid (Below w.heap.size w w2) := hide (by rw [hq]; exact below_dr (unhide HB) q)
  have HK2 : Hid (Blk w2 w.heap.size 28 zC) := hide ((unhide HK1).below (by rw [hq]; exact below_dr (Below.refl _ _) q))
  clear hq HB HK1 HCH

  obtain ⟨av, capv, rfl, _⟩ := id h
  rw [hn0]
  clear hw h HR hns hn0 hK
  have HN := hide (OS.new (unhide HB2) (unhide HK2) #[.int .u8 (wt : Int), .int .i64 0, .int .u32 0, .int .u32 0, .slice none 0 0])
  have c0 := (unhide HN).k1.cell 0
  have c1 := (unhide HN).k1.cell 1
  have c2 := (unhide HN).k1.cell 2
  have c3 := (unhide HN).k1.cell 3
  have c4 := (unhide HN).k1.cell 4
  have f0 := (unhide HN).k1.frozen 0
  have f1 := (unhide HN).k1.frozen 1
  have f2 := (unhide HN).k1.frozen 2
  have f3 := (unhide HN).k1.frozen 3
  have f4 := (unhide HN).k1.frozen 4
  simp only [List.getElem?_toArray, List.getElem?_cons_succ, List.getElem?_cons_zero] at c0 c1 c2 c3 c4
  have HZ := hide ((unhide HN).k0)
  have d0 := (unhide HZ).cell 0
  have d1 := (unhide HZ).cell 1
  have d2 := (unhide HZ).cell 2
  have d3 := (unhide HZ).cell 3
  have d4 := (unhide HZ).cell 4
  have g0 := (unhide HZ).frozen 0
  have g1 := (unhide HZ).frozen 1
  have g2 := (unhide HZ).frozen 2
  have g3 := (unhide HZ).frozen 3
  have g4 := (unhide HZ).frozen 4
  simp only [zC, List.getElem?_toArray, List.getElem?_cons_succ, List.getElem?_cons_zero] at d0 d1 d2 d3 d4
  go_wp2
  refine bodyPost_ret (v := .tuple #[.agg #[.int .u8 (wt : Int), .int .i64 0, .int .u32 0, .int .u32 0, .slice none 0 0], .int .i64 0]) ?_ rfl ⟨rfl, below5 (unhide HN).bel (Nat.le_refl _) _ _ _ _ _⟩
  rw [results_cell_tmp rfl]
  go_simp
end Go.Proofs.YtlolilhlpbpfjaaGreatDoor
