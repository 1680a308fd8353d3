/-
  What tally.Of tells, over this seat's program.
-/
import Derived.Test.YtihgmpebpkjmkaaGreatDoorBnd4
import Derived.Test.YtihgmpebpkjmkaaGreatDoorApg
import Derived.Laws.ResultCell
import Derived.Deep.Cut
set_option linter.unusedVariables false
set_option linter.unusedSimpArgs false
namespace Go.Proofs.YtihgmpebpkjmkaaGreatDoor
open Go.RowKit Go.Proofs.Nst

def zC : Array Value := #[.int .u8 0, .int .i64 0, .int .u32 0, .int .u32 0, .slice none 0 0]
theorem below5 {B s : Nat} {w W : World} (h : Below B w W) (hs : B ≤ s) (u0 u1 u2 u3 u4 : Value) : Below B w (((((W.setCell ⟨s, 0, none⟩ u0).setCell ⟨s, 1, none⟩ u1).setCell ⟨s, 2, none⟩ u2).setCell ⟨s, 3, none⟩ u3).setCell ⟨s, 4, none⟩ u4) :=
  ((((h.setCell (p := ⟨s, 0, none⟩) hs _).setCell (p := ⟨s, 1, none⟩) hs _).setCell (p := ⟨s, 2, none⟩) hs _).setCell (p := ⟨s, 3, none⟩) hs _).setCell (p := ⟨s, 4, none⟩) hs _
theorem own_setT {w : World} {C P t e k n i : Nat} {v u : Value} {xs : List Value} {cs : Array Value} (h : w.ownsRow C e k v n xs) (hb : Blk w P t cs) (hne : t ≠ e) : (w.setCell ⟨P, i, none⟩ u).ownsRow C e k v n xs := by
  refine h.kept (row := some P) ⟨rfl, rfl, rfl, by simp, fun k hk hne2 => Below.heap_setCell _ _ _ _ (fun e => hne2 (by rw [e]))⟩ ?_
  right
  exact own_neT h hb hne
theorem zV (v : Value) : tlV zT v = .agg #[.int .u8 0, .int .i64 0, .int .u32 0, .int .u32 0, v] := rfl
/-- A tally at work at block C, behind the box of the answer. -/
structure OS (w W : World) (C : Nat) (cs : Array Value) : Prop where
  lt : w.heap.size < C
  bel : Below w.heap.size w W
  k0 : Blk W w.heap.size 28 zC
  k1 : Blk W C 28 cs
theorem OS.set {w W : World} {C : Nat} {cs : Array Value} (h : OS w W C cs) (i : Nat) (u : Value) : OS w (W.setCell ⟨C, i, none⟩ u) C (cs.setIfInBounds i u) :=
  ⟨h.lt, h.bel.setCell (p := ⟨C, i, none⟩) (Nat.le_of_lt h.lt) _, h.k0.other (by have := h.lt; show w.heap.size ≠ C; omega) _, h.k1.set i u⟩
theorem OS.below {w W W' : World} {C : Nat} {cs : Array Value} (h : OS w W C cs) (hb : Below W.heap.size W W') : OS w W' C cs :=
  ⟨h.lt, h.bel.trans (hb.mono h.bel.size), h.k0.below hb, h.k1.below hb⟩
theorem OS.new {w W : World} (h : Below w.heap.size w W) (h0 : Blk W w.heap.size 28 zC) (cs : Array Value) : OS w (W.alloc (.cells cs 28)) W.heap.size cs :=
  ⟨h0.lt, h.alloc h.size _, h0.below ((Below.refl _ W).alloc (Nat.le_refl _) _), Blk.new W _ _⟩

set_option maxHeartbeats 4000000 in
set_option maxRecDepth 100000 in
theorem of_no (wt : Nat) (v : Value) (ns : List Nat) (w : World) (h : RowN w v ns) (hl : ns.length ≤ 1048576) (hw : wt ≤ 255) (hno : 15 < wt ∨ 0 ∈ ns) :
    Calls Tryz.prog 5 #[.int .u8 (wt : Int), v] w fun e w' => e = .returned (.tuple #[tlV zT (.slice none 0 0), .int .i64 1]) ∧ Below w.heap.size w w' := by
  have hA : Below w.heap.size w (w.alloc (.cells zC 28)) := (Below.refl _ w).alloc (Nat.le_refl _) _
  have HA := hide hA
  have ho := over15n wt hw
  have HC := hide (contains_any v ns 0 _ (h.below hA) hl)
  have HK := hide (Blk.new w 28 zC)
  simp only [zC] at HA HC HK
  clear hA
  rw [zV]
  by_cases hb : 15 < wt
  · rw [decide_eq_true hb] at ho
    clear hb hno h hl HC
    go_enter Tryz.func5, Tryz.ntmps5
    go_wp2
    refine bodyPost_ret (v := .tuple #[.agg #[.int .u8 0, .int .i64 0, .int .u32 0, .int .u32 0, .slice none 0 0], .int .i64 1]) ?_ rfl ⟨rfl, unhide HA⟩
    rw [results_cell_tmp rfl]
    go_simp
  · rw [decide_eq_false hb] at ho
    have hm : 0 ∈ ns := hno.resolve_left hb
    rw [decide_eq_true hm] at HC
    clear hb hno hm h hl
    go_enter Tryz.func5, Tryz.ntmps5
    go_wp2_with fail
    refine (unhide HC).mono ?_
    rintro e w1 ⟨rfl, b1⟩
    have HK1 := hide ((unhide HK).below b1)
    have c0 := (unhide HK1).cell 0
    have c1 := (unhide HK1).cell 1
    have c2 := (unhide HK1).cell 2
    have c3 := (unhide HK1).cell 3
    have c4 := (unhide HK1).cell 4
    have f0 := (unhide HK1).frozen 0
    have f1 := (unhide HK1).frozen 1
    have f2 := (unhide HK1).frozen 2
    have f3 := (unhide HK1).frozen 3
    have f4 := (unhide HK1).frozen 4
    simp only [List.getElem?_toArray, List.getElem?_cons_succ, List.getElem?_cons_zero] at c0 c1 c2 c3 c4
    have HB := hide (belows' (unhide HA) b1)
    clear b1 HK HC
    go_wp2
    refine bodyPost_ret (v := .tuple #[.agg #[.int .u8 0, .int .i64 0, .int .u32 0, .int .u32 0, .slice none 0 0], .int .i64 1]) ?_ rfl ⟨rfl, below5 (unhide HB) (Nat.le_refl _) _ _ _ _ _⟩
    rw [results_cell_tmp rfl]
    go_simp

set_option maxHeartbeats 4000000 in
set_option maxRecDepth 100000 in
theorem of_chk (wt : Nat) (v : Value) (ns : List Nat) (w : World) (h : RowN w v ns) (hl : ns.length ≤ 1048576) (hw : wt ≤ 15) (hm : ¬ 0 ∈ ns) (hk : chk ns ≠ 0) :
    Calls Tryz.prog 5 #[.int .u8 (wt : Int), v] w fun e w' => e = .returned (.tuple #[tlV zT (.slice none 0 0), .int .i64 (chk ns : Int)]) ∧ Below w.heap.size w w' := by
  have hk0 : ((chk ns : Int) != 0) = true := by simp; omega
  rw [zV]
  obtain ⟨K, hK⟩ : ∃ K, chk ns = K := ⟨_, rfl⟩
  rw [hK] at hk0 hk ⊢
  have hA : Below w.heap.size w (w.alloc (.cells zC 28)) := (Below.refl _ w).alloc (Nat.le_refl _) _
  have HA := hide hA
  have ho := over15n wt (by omega)
  rw [decide_eq_false (by omega)] at ho
  have HR := hide h
  have HC := hide (contains_any v ns 0 _ (h.below hA) hl)
  rw [decide_eq_false hm] at HC
  have HK := hide (Blk.new w 28 zC)
  have HCH := hide (fun W (hb : Below w.heap.size w W) => check_any v ns W (h.below hb))
  rw [hK] at HCH
  simp only [zC] at HA HC HK
  clear hA hm hl
  go_enter Tryz.func5, Tryz.ntmps5
  go_wp2_with fail
  refine (unhide HC).mono ?_
  rintro e w1 ⟨rfl, b1⟩
  have HK1 := hide ((unhide HK).below b1)
  have HB := hide (belows' (unhide HA) b1)
  clear b1 HK HC
  go_wp2_with fail
  refine (unhide HCH _ (unhide HB)).mono ?_
  rintro e w2 ⟨rfl, q, hq⟩
  have HB2 : Hid (Below w.heap.size w w2) := hide (by rw [hq]; exact below_dr (unhide HB) q)
  have HK2 : Hid (Blk w2 w.heap.size 28 zC) := hide ((unhide HK1).below (by rw [hq]; exact below_dr (Below.refl _ _) q))
  clear hq HB HK1 HCH

  clear hk hw h HR hK
  have c0 := (unhide HK2).cell 0
  have c1 := (unhide HK2).cell 1
  have c2 := (unhide HK2).cell 2
  have c3 := (unhide HK2).cell 3
  have c4 := (unhide HK2).cell 4
  have f0 := (unhide HK2).frozen 0
  have f1 := (unhide HK2).frozen 1
  have f2 := (unhide HK2).frozen 2
  have f3 := (unhide HK2).frozen 3
  have f4 := (unhide HK2).frozen 4
  simp only [zC, List.getElem?_toArray, List.getElem?_cons_succ, List.getElem?_cons_zero] at c0 c1 c2 c3 c4
  go_wp2
  refine bodyPost_ret (v := .tuple #[.agg #[.int .u8 0, .int .i64 0, .int .u32 0, .int .u32 0, .slice none 0 0], .int .i64 (K : Int)]) ?_ rfl ⟨rfl, below5 (unhide HB2) (Nat.le_refl _) _ _ _ _ _⟩
  rw [results_cell_tmp rfl]
  go_simp

set_option maxHeartbeats 4000000 in
set_option maxRecDepth 100000 in
theorem of_nil (wt : Nat) (v : Value) (w : World) (h : RowN w v []) (hw : wt ≤ 15) :
    Calls Tryz.prog 5 #[.int .u8 (wt : Int), v] w fun e w' => e = .returned (.tuple #[.agg #[.int .u8 (wt : Int), .int .i64 0, .int .u32 0, .int .u32 0, .slice none 0 0], .int .i64 0]) ∧ Below w.heap.size w w' := by
  obtain ⟨ns, hns⟩ : ∃ ns : List Nat, ns = [] := ⟨_, rfl⟩
  rw [← hns] at h
  have hl : ns.length ≤ 1048576 := by rw [hns]; simp
  have hm : ¬ 0 ∈ ns := by rw [hns]; simp
  have hK : chk ns = 0 := by rw [hns]; rfl
  have hn0 : ns.length = 0 := by rw [hns]; rfl
  have hA : Below w.heap.size w (w.alloc (.cells zC 28)) := (Below.refl _ w).alloc (Nat.le_refl _) _
  have HA := hide hA
  have ho := over15n wt (by omega)
  rw [decide_eq_false (by omega)] at ho
  have HR := hide h
  have HC := hide (contains_any v ns 0 _ (h.below hA) hl)
  rw [decide_eq_false hm] at HC
  have HK := hide (Blk.new w 28 zC)
  have HCH := hide (fun W (hb : Below w.heap.size w W) => check_any v ns W (h.below hb))
  rw [hK] at HCH
  simp only [zC] at HA HC HK
  clear hA hm hl
  go_enter Tryz.func5, Tryz.ntmps5
  go_wp2_with fail
  refine (unhide HC).mono ?_
  rintro e w1 ⟨rfl, b1⟩
  have HK1 := hide ((unhide HK).below b1)
  have HB := hide (belows' (unhide HA) b1)
  clear b1 HK HC
  go_wp2_with fail
  refine (unhide HCH _ (unhide HB)).mono ?_
  rintro e w2 ⟨rfl, q, hq⟩
  have HB2 : Hid (Below w.heap.size w w2) := hide (by rw [hq]; exact below_dr (unhide HB) q)
  have HK2 : Hid (Blk w2 w.heap.size 28 zC) := hide ((unhide HK1).below (by rw [hq]; exact below_dr (Below.refl _ _) q))
  clear hq HB HK1 HCH

  obtain ⟨av, capv, rfl, _⟩ := id h
  rw [hn0]
  clear hw h HR hns hn0 hK
  have HN := hide (OS.new (unhide HB2) (unhide HK2) #[.int .u8 (wt : Int), .int .i64 0, .int .u32 0, .int .u32 0, .slice none 0 0])
  have c0 := (unhide HN).k1.cell 0
  have c1 := (unhide HN).k1.cell 1
  have c2 := (unhide HN).k1.cell 2
  have c3 := (unhide HN).k1.cell 3
  have c4 := (unhide HN).k1.cell 4
  have f0 := (unhide HN).k1.frozen 0
  have f1 := (unhide HN).k1.frozen 1
  have f2 := (unhide HN).k1.frozen 2
  have f3 := (unhide HN).k1.frozen 3
  have f4 := (unhide HN).k1.frozen 4
  simp only [List.getElem?_toArray, List.getElem?_cons_succ, List.getElem?_cons_zero] at c0 c1 c2 c3 c4
  have HZ := hide ((unhide HN).k0)
  have d0 := (unhide HZ).cell 0
  have d1 := (unhide HZ).cell 1
  have d2 := (unhide HZ).cell 2
  have d3 := (unhide HZ).cell 3
  have d4 := (unhide HZ).cell 4
  have g0 := (unhide HZ).frozen 0
  have g1 := (unhide HZ).frozen 1
  have g2 := (unhide HZ).frozen 2
  have g3 := (unhide HZ).frozen 3
  have g4 := (unhide HZ).frozen 4
  simp only [zC, List.getElem?_toArray, List.getElem?_cons_succ, List.getElem?_cons_zero] at d0 d1 d2 d3 d4
  go_wp2
  refine bodyPost_ret (v := .tuple #[.agg #[.int .u8 (wt : Int), .int .i64 0, .int .u32 0, .int .u32 0, .slice none 0 0], .int .i64 0]) ?_ rfl ⟨rfl, below5 (unhide HN).bel (Nat.le_refl _) _ _ _ _ _⟩
  rw [results_cell_tmp rfl]
  go_simp
end Go.Proofs.YtihgmpebpkjmkaaGreatDoor

/-
  What tally.isWanted tells, over this seat's program.
-/
set_option linter.unusedVariables false
set_option linter.unusedSimpArgs false
namespace Go.Proofs.YtihgmpebpkjmkaaGreatDoor
open Go.RowKit Go.Proofs.Nst

set_option maxHeartbeats 400000 in
theorem wants_any (w k : Nat) (q : Int) (hq : q = (k : Int)) (hw : w ≤ 255) (hk : k ≤ 255) (B : Nat) (W : World) (hB : W.cell? ⟨B, 0, none⟩ = some (.int .u8 (w : Int))) :
    Calls Tryz.prog 58 #[.int .u8 q, .pointer (some ⟨B, 0, none⟩)] W fun e w' => e = .returned (.bool (bitW w k)) ∧ w' = W := by
  have hb := bit_eq w k hw hk
  subst hq
  go_enter Tryz.func58, Tryz.ntmps58
  go_wp2
  go_ret
  exact ⟨by simp [bne, hb], rfl⟩

set_option maxHeartbeats 4000000 in
set_option maxRecDepth 100000 in
theorem isWanted_any (t : Tly) (a : Option Addr) (n cap : Nat) (w : World) (hf : FitT t) (hn : n = t.all.length) :
    Calls Tryz.prog 37 #[tlV t (.slice a n cap)] w fun e w' => e = .returned (.bool (wanted t)) ∧ Below w.heap.size w w' := by
  obtain ⟨wt, mn, lo, hi, al⟩ := t
  obtain ⟨f1, _, f2, f3⟩ := hf
  simp only at f1 f2 f3 hn
  have HA := hide (show Below w.heap.size w (w.alloc (.cells #[.int .u8 (wt : Int), .int .i64 mn, .int .u32 (lo : Int), .int .u32 (hi : Int), .slice a n cap] 28)) from (Below.refl _ w).alloc (Nat.le_refl _) _)
  have hW : ∀ (k : Nat) (q : Int), q = (k : Int) → k ≤ 255 → ∀ ty, Calls Tryz.prog 58 #[.int .u8 q, .pointer (some ⟨w.heap.size, 0, none⟩)] (w.alloc (.cells #[.int .u8 (wt : Int), .int .i64 mn, .int .u32 (lo : Int), .int .u32 (hi : Int), .slice a n cap] ty)) fun e w' => e = .returned (.bool (bitW wt k)) ∧ w' = w.alloc (.cells #[.int .u8 (wt : Int), .int .i64 mn, .int .u32 (lo : Int), .int .u32 (hi : Int), .slice a n cap] ty) :=
    fun k q hq hk ty => wants_any wt k q hq f1 hk _ _ ((Blk.new w ty _).cell 0)
  have H1 := hide (hW 1 1 rfl (by decide) 28)
  have H2 := hide (hW 2 2 rfl (by decide) 28)
  have H4 := hide (hW 4 4 rfl (by decide) 28)
  have H8 := hide (hW 8 8 rfl (by decide) 28)
  obtain ⟨R, hR⟩ : ∃ R, wanted ⟨wt, mn, lo, hi, al⟩ = R := ⟨_, rfl⟩
  rw [hR]
  simp only [wanted, ← hn] at hR
  have HR := hide hR
  simp only [tlV, tlC]
  clear hW hR hn f1 f2 f3
  go_enter Tryz.func37, Tryz.ntmps37
  go_wp2_with fail
  refine (unhide H1).mono ?_
  rintro e w1 ⟨rfl, rfl⟩
  rcases hB1 : bitW wt 1
  · have B1 := hide hB1
    clear hB1
    by_cases e1 : lo = 0
    · have d1 : ((lo : Int) == 0) = true := by simp [e1]
      have E1 := hide e1
      clear e1
      go_wp2_with fail
      refine (unhide H2).mono ?_
      rintro e w1 ⟨rfl, rfl⟩
      rcases hB2 : bitW wt 2
      · have B2 := hide hB2
        clear hB2
        by_cases e2 : hi = 0
        · have d2 : ((hi : Int) == 0) = true := by simp [e2]
          have E2 := hide e2
          clear e2
          go_wp2_with fail
          refine (unhide H4).mono ?_
          rintro e w1 ⟨rfl, rfl⟩
          rcases hB4 : bitW wt 4
          · have B4 := hide hB4
            clear hB4
            by_cases e4 : n = 0
            · have d4 : ((n : Int) == 0) = true := by simp [e4]
              have E4 := hide e4
              clear e4
              go_wp2_with fail
              refine (unhide H8).mono ?_
              rintro e w1 ⟨rfl, rfl⟩
              rcases hB8 : bitW wt 8
              · have B8 := hide hB8
                clear hB8
                by_cases e8 : mn = 0
                · have d8 : (mn == 0) = true := by simp [e8]
                  have E8 := hide e8
                  clear e8
                  have HF : Hid (R = true) := hide (by rw [← unhide HR]; simp [unhide B1, unhide E1, unhide B2, unhide E2, unhide B4, unhide E4, unhide B8, unhide E8])
                  go_wp2
                  go_ret
                  exact ⟨by rw [unhide HF]; rfl, unhide HA⟩
                · have d8 : (mn == 0) = false := by simp; omega
                  have E8 := hide e8
                  clear e8
                  have HF : Hid (R = false) := hide (by rw [← unhide HR]; simp [unhide B1, unhide E1, unhide B2, unhide E2, unhide B4, unhide E4, unhide B8, unhide E8])
                  go_wp2
                  go_ret
                  exact ⟨by rw [unhide HF]; rfl, unhide HA⟩
              · have B8 := hide hB8
                clear hB8
                have HF : Hid (R = true) := hide (by rw [← unhide HR]; simp [unhide B1, unhide E1, unhide B2, unhide E2, unhide B4, unhide E4, unhide B8])
                go_wp2
                go_ret
                exact ⟨by rw [unhide HF]; rfl, unhide HA⟩
            · have d4 : ((n : Int) == 0) = false := by simp; omega
              have E4 := hide e4
              clear e4
              have HF : Hid (R = false) := hide (by rw [← unhide HR]; simp [unhide B1, unhide E1, unhide B2, unhide E2, unhide B4, unhide E4])
              go_wp2
              go_ret
              exact ⟨by rw [unhide HF]; rfl, unhide HA⟩
          · have B4 := hide hB4
            clear hB4
            go_wp2_with fail
            refine (unhide H8).mono ?_
            rintro e w1 ⟨rfl, rfl⟩
            rcases hB8 : bitW wt 8
            · have B8 := hide hB8
              clear hB8
              by_cases e8 : mn = 0
              · have d8 : (mn == 0) = true := by simp [e8]
                have E8 := hide e8
                clear e8
                have HF : Hid (R = true) := hide (by rw [← unhide HR]; simp [unhide B1, unhide E1, unhide B2, unhide E2, unhide B4, unhide B8, unhide E8])
                go_wp2
                go_ret
                exact ⟨by rw [unhide HF]; rfl, unhide HA⟩
              · have d8 : (mn == 0) = false := by simp; omega
                have E8 := hide e8
                clear e8
                have HF : Hid (R = false) := hide (by rw [← unhide HR]; simp [unhide B1, unhide E1, unhide B2, unhide E2, unhide B4, unhide B8, unhide E8])
                go_wp2
                go_ret
                exact ⟨by rw [unhide HF]; rfl, unhide HA⟩
            · have B8 := hide hB8
              clear hB8
              have HF : Hid (R = true) := hide (by rw [← unhide HR]; simp [unhide B1, unhide E1, unhide B2, unhide E2, unhide B4, unhide B8])
              go_wp2
              go_ret
              exact ⟨by rw [unhide HF]; rfl, unhide HA⟩
        · have d2 : ((hi : Int) == 0) = false := by simp; omega
          have E2 := hide e2
          clear e2
          have HF : Hid (R = false) := hide (by rw [← unhide HR]; simp [unhide B1, unhide E1, unhide B2, unhide E2])
          go_wp2
          go_ret
          exact ⟨by rw [unhide HF]; rfl, unhide HA⟩
      · have B2 := hide hB2
        clear hB2
        go_wp2_with fail
        refine (unhide H4).mono ?_
        rintro e w1 ⟨rfl, rfl⟩
        rcases hB4 : bitW wt 4
        · have B4 := hide hB4
          clear hB4
          by_cases e4 : n = 0
          · have d4 : ((n : Int) == 0) = true := by simp [e4]
            have E4 := hide e4
            clear e4
            go_wp2_with fail
            refine (unhide H8).mono ?_
            rintro e w1 ⟨rfl, rfl⟩
            rcases hB8 : bitW wt 8
            · have B8 := hide hB8
              clear hB8
              by_cases e8 : mn = 0
              · have d8 : (mn == 0) = true := by simp [e8]
                have E8 := hide e8
                clear e8
                have HF : Hid (R = true) := hide (by rw [← unhide HR]; simp [unhide B1, unhide E1, unhide B2, unhide B4, unhide E4, unhide B8, unhide E8])
                go_wp2
                go_ret
                exact ⟨by rw [unhide HF]; rfl, unhide HA⟩
              · have d8 : (mn == 0) = false := by simp; omega
                have E8 := hide e8
                clear e8
                have HF : Hid (R = false) := hide (by rw [← unhide HR]; simp [unhide B1, unhide E1, unhide B2, unhide B4, unhide E4, unhide B8, unhide E8])
                go_wp2
                go_ret
                exact ⟨by rw [unhide HF]; rfl, unhide HA⟩
            · have B8 := hide hB8
              clear hB8
              have HF : Hid (R = true) := hide (by rw [← unhide HR]; simp [unhide B1, unhide E1, unhide B2, unhide B4, unhide E4, unhide B8])
              go_wp2
              go_ret
              exact ⟨by rw [unhide HF]; rfl, unhide HA⟩
          · have d4 : ((n : Int) == 0) = false := by simp; omega
            have E4 := hide e4
            clear e4
            have HF : Hid (R = false) := hide (by rw [← unhide HR]; simp [unhide B1, unhide E1, unhide B2, unhide B4, unhide E4])
            go_wp2
            go_ret
            exact ⟨by rw [unhide HF]; rfl, unhide HA⟩
        · have B4 := hide hB4
          clear hB4
          go_wp2_with fail
          refine (unhide H8).mono ?_
          rintro e w1 ⟨rfl, rfl⟩
          rcases hB8 : bitW wt 8
          · have B8 := hide hB8
            clear hB8
            by_cases e8 : mn = 0
            · have d8 : (mn == 0) = true := by simp [e8]
              have E8 := hide e8
              clear e8
              have HF : Hid (R = true) := hide (by rw [← unhide HR]; simp [unhide B1, unhide E1, unhide B2, unhide B4, unhide B8, unhide E8])
              go_wp2
              go_ret
              exact ⟨by rw [unhide HF]; rfl, unhide HA⟩
            · have d8 : (mn == 0) = false := by simp; omega
              have E8 := hide e8
              clear e8
              have HF : Hid (R = false) := hide (by rw [← unhide HR]; simp [unhide B1, unhide E1, unhide B2, unhide B4, unhide B8, unhide E8])
              go_wp2
              go_ret
              exact ⟨by rw [unhide HF]; rfl, unhide HA⟩
          · have B8 := hide hB8
            clear hB8
            have HF : Hid (R = true) := hide (by rw [← unhide HR]; simp [unhide B1, unhide E1, unhide B2, unhide B4, unhide B8])
            go_wp2
            go_ret
            exact ⟨by rw [unhide HF]; rfl, unhide HA⟩
    · have d1 : ((lo : Int) == 0) = false := by simp; omega
      have E1 := hide e1
      clear e1
      have HF : Hid (R = false) := hide (by rw [← unhide HR]; simp [unhide B1, unhide E1])
      go_wp2
      go_ret
      exact ⟨by rw [unhide HF]; rfl, unhide HA⟩
  · have B1 := hide hB1
    clear hB1
    go_wp2_with fail
    refine (unhide H2).mono ?_
    rintro e w1 ⟨rfl, rfl⟩
    rcases hB2 : bitW wt 2
    · have B2 := hide hB2
      clear hB2
      by_cases e2 : hi = 0
      · have d2 : ((hi : Int) == 0) = true := by simp [e2]
        have E2 := hide e2
        clear e2
        go_wp2_with fail
        refine (unhide H4).mono ?_
        rintro e w1 ⟨rfl, rfl⟩
        rcases hB4 : bitW wt 4
        · have B4 := hide hB4
          clear hB4
          by_cases e4 : n = 0
          · have d4 : ((n : Int) == 0) = true := by simp [e4]
            have E4 := hide e4
            clear e4
            go_wp2_with fail
            refine (unhide H8).mono ?_
            rintro e w1 ⟨rfl, rfl⟩
            rcases hB8 : bitW wt 8
            · have B8 := hide hB8
              clear hB8
              by_cases e8 : mn = 0
              · have d8 : (mn == 0) = true := by simp [e8]
                have E8 := hide e8
                clear e8
                have HF : Hid (R = true) := hide (by rw [← unhide HR]; simp [unhide B1, unhide B2, unhide E2, unhide B4, unhide E4, unhide B8, unhide E8])
                go_wp2
                go_ret
                exact ⟨by rw [unhide HF]; rfl, unhide HA⟩
              · have d8 : (mn == 0) = false := by simp; omega
                have E8 := hide e8
                clear e8
                have HF : Hid (R = false) := hide (by rw [← unhide HR]; simp [unhide B1, unhide B2, unhide E2, unhide B4, unhide E4, unhide B8, unhide E8])
                go_wp2
                go_ret
                exact ⟨by rw [unhide HF]; rfl, unhide HA⟩
            · have B8 := hide hB8
              clear hB8
              have HF : Hid (R = true) := hide (by rw [← unhide HR]; simp [unhide B1, unhide B2, unhide E2, unhide B4, unhide E4, unhide B8])
              go_wp2
              go_ret
              exact ⟨by rw [unhide HF]; rfl, unhide HA⟩
          · have d4 : ((n : Int) == 0) = false := by simp; omega
            have E4 := hide e4
            clear e4
            have HF : Hid (R = false) := hide (by rw [← unhide HR]; simp [unhide B1, unhide B2, unhide E2, unhide B4, unhide E4])
            go_wp2
            go_ret
            exact ⟨by rw [unhide HF]; rfl, unhide HA⟩
        · have B4 := hide hB4
          clear hB4
          go_wp2_with fail
          refine (unhide H8).mono ?_
          rintro e w1 ⟨rfl, rfl⟩
          rcases hB8 : bitW wt 8
          · have B8 := hide hB8
            clear hB8
            by_cases e8 : mn = 0
            · have d8 : (mn == 0) = true := by simp [e8]
              have E8 := hide e8
              clear e8
              have HF : Hid (R = true) := hide (by rw [← unhide HR]; simp [unhide B1, unhide B2, unhide E2, unhide B4, unhide B8, unhide E8])
              go_wp2
              go_ret
              exact ⟨by rw [unhide HF]; rfl, unhide HA⟩
            · have d8 : (mn == 0) = false := by simp; omega
              have E8 := hide e8
              clear e8
              have HF : Hid (R = false) := hide (by rw [← unhide HR]; simp [unhide B1, unhide B2, unhide E2, unhide B4, unhide B8, unhide E8])
              go_wp2
              go_ret
              exact ⟨by rw [unhide HF]; rfl, unhide HA⟩
          · have B8 := hide hB8
            clear hB8
            have HF : Hid (R = true) := hide (by rw [← unhide HR]; simp [unhide B1, unhide B2, unhide E2, unhide B4, unhide B8])
            go_wp2
            go_ret
            exact ⟨by rw [unhide HF]; rfl, unhide HA⟩
      · have d2 : ((hi : Int) == 0) = false := by simp; omega
        have E2 := hide e2
        clear e2
        have HF : Hid (R = false) := hide (by rw [← unhide HR]; simp [unhide B1, unhide B2, unhide E2])
        go_wp2
        go_ret
        exact ⟨by rw [unhide HF]; rfl, unhide HA⟩
    · have B2 := hide hB2
      clear hB2
      go_wp2_with fail
      refine (unhide H4).mono ?_
      rintro e w1 ⟨rfl, rfl⟩
      rcases hB4 : bitW wt 4
      · have B4 := hide hB4
        clear hB4
        by_cases e4 : n = 0
        · have d4 : ((n : Int) == 0) = true := by simp [e4]
          have E4 := hide e4
          clear e4
          go_wp2_with fail
          refine (unhide H8).mono ?_
          rintro e w1 ⟨rfl, rfl⟩
          rcases hB8 : bitW wt 8
          · have B8 := hide hB8
            clear hB8
            by_cases e8 : mn = 0
            · have d8 : (mn == 0) = true := by simp [e8]
              have E8 := hide e8
              clear e8
              have HF : Hid (R = true) := hide (by rw [← unhide HR]; simp [unhide B1, unhide B2, unhide B4, unhide E4, unhide B8, unhide E8])
              go_wp2
              go_ret
              exact ⟨by rw [unhide HF]; rfl, unhide HA⟩
            · have d8 : (mn == 0) = false := by simp; omega
              have E8 := hide e8
              clear e8
              have HF : Hid (R = false) := hide (by rw [← unhide HR]; simp [unhide B1, unhide B2, unhide B4, unhide E4, unhide B8, unhide E8])
              go_wp2
              go_ret
              exact ⟨by rw [unhide HF]; rfl, unhide HA⟩
          · have B8 := hide hB8
            clear hB8
            have HF : Hid (R = true) := hide (by rw [← unhide HR]; simp [unhide B1, unhide B2, unhide B4, unhide E4, unhide B8])
            go_wp2
            go_ret
            exact ⟨by rw [unhide HF]; rfl, unhide HA⟩
        · have d4 : ((n : Int) == 0) = false := by simp; omega
          have E4 := hide e4
          clear e4
          have HF : Hid (R = false) := hide (by rw [← unhide HR]; simp [unhide B1, unhide B2, unhide B4, unhide E4])
          go_wp2
          go_ret
          exact ⟨by rw [unhide HF]; rfl, unhide HA⟩
      · have B4 := hide hB4
        clear hB4
        go_wp2_with fail
        refine (unhide H8).mono ?_
        rintro e w1 ⟨rfl, rfl⟩
        rcases hB8 : bitW wt 8
        · have B8 := hide hB8
          clear hB8
          by_cases e8 : mn = 0
          · have d8 : (mn == 0) = true := by simp [e8]
            have E8 := hide e8
            clear e8
            have HF : Hid (R = true) := hide (by rw [← unhide HR]; simp [unhide B1, unhide B2, unhide B4, unhide B8, unhide E8])
            go_wp2
            go_ret
            exact ⟨by rw [unhide HF]; rfl, unhide HA⟩
          · have d8 : (mn == 0) = false := by simp; omega
            have E8 := hide e8
            clear e8
            have HF : Hid (R = false) := hide (by rw [← unhide HR]; simp [unhide B1, unhide B2, unhide B4, unhide B8, unhide E8])
            go_wp2
            go_ret
            exact ⟨by rw [unhide HF]; rfl, unhide HA⟩
        · have B8 := hide hB8
          clear hB8
          have HF : Hid (R = true) := hide (by rw [← unhide HR]; simp [unhide B1, unhide B2, unhide B4, unhide B8])
          go_wp2
          go_ret
          exact ⟨by rw [unhide HF]; rfl, unhide HA⟩
end Go.Proofs.YtihgmpebpkjmkaaGreatDoor

/-
  What missivetop.same does, over this seat's program.
-/
set_option linter.unusedVariables false
namespace Go.Proofs.YtihgmpebpkjmkaaGreatDoor
open Go.RowKit Go.Proofs.Nst

theorem takeQ_next {α : Type} {l r : List α} {k : Nat} (hl : k < l.length) (hr : k < r.length) : l.take (k + 1) = r.take (k + 1) ↔ l.take k = r.take k ∧ l[k] = r[k] := by
  rw [List.take_succ_eq_append_getElem hl, List.take_succ_eq_append_getElem hr]
  constructor
  · intro h
    have := List.append_inj' h rfl
    exact ⟨this.1, by simpa using this.2⟩
  · rintro ⟨h1, h2⟩
    rw [h1, h2]

set_option maxHeartbeats 400000 in
theorem sameQ_len (a b : Option Addr) (n m c d : Nat) (w : World) (h : n ≠ m) :
    Calls Tryz.prog 10 #[.slice a n c, .slice b m d] w fun e w' => e = .returned (.bool false) ∧ Below w.heap.size w w' := by
  have hb : ((n : Int) == (m : Int)) = false := by simp; omega
  go_enter Tryz.func10, Tryz.ntmps10
  go_wp2
  go_ret
  exact ⟨rfl, Below.refl _ _⟩

set_option maxHeartbeats 1000000 in
set_option maxRecDepth 100000 in
theorem sameQ_any (v v' : Value) (l r : List Nat) (w : World) (h : RowN w v l) (h' : RowN w v' r) :
    Calls Tryz.prog 10 #[v, v'] w fun e w' => e = .returned (.bool (decide (l = r))) ∧ Below w.heap.size w w' := by
  have HR := hide h
  have HR' := hide h'
  obtain ⟨a, cap, rfl, hl, hn, _⟩ := h
  obtain ⟨a', cap', rfl, hl', hn', _⟩ := h'
  by_cases hlr : l.length = r.length
  · have HLR := hide hlr
    rw [← hlr]
    rw [← hlr] at HR' hl'
    obtain ⟨T, hT⟩ : ∃ T, T = l.length := ⟨_, rfl⟩
    rw [← hT] at HR HR' hl ⊢
    have HTL := hide hT
    clear hT hlr hl' hn hn'
    go_enter Tryz.func10, Tryz.ntmps10
    go_wp2
    go_loopw [5, 13] (fun x z wr => ∃ k : Nat, z = .int .i64 k ∧ k ≤ T ∧ Hid (l.take k = r.take k) ∧ Hid (Below w.heap.size w wr)) (fun _ z _ => T - (intOf z).toNat)
    case atStart => exact ⟨0, rfl, Nat.zero_le _, hide rfl, hide (Below.refl _ _)⟩
    case round =>
      obtain ⟨k, rfl, hk, HT, HB⟩ := hrel
      by_cases hlt : k < T
      · have hlt1 : (k : Int) < (T : Int) := by omega
        have hkl : k < l.length := by have := unhide HTL; omega
        have hkr : k < r.length := by have := unhide HTL; have := unhide HLR; omega
        obtain ⟨b, off, cp, hv1, hblt, hcell⟩ := RowG.at cellsN_len ((unhide HR).below (unhide HB)) (j := k) hkl
        obtain ⟨b2, off2, cp2, hv2, hblt2, hcell2⟩ := RowG.at cellsN_len ((unhide HR').below (unhide HB)) (j := k) hkr
        injection hv1 with e1 e2 e3
        injection hv2 with e4 e5 e6
        subst e1 e4
        have c0 := hcell 0 (by omega)
        have d0 := hcell2 0 (by omega)
        simp only [cellsN, List.getElem?_cons_zero, Nat.add_zero] at c0 d0
        (try simp only [Nat.mul_one] at c0 d0)
        clear e2 e3 e5 e6 hcell hcell2
        have hnx := takeQ_next hkl hkr
        by_cases he : l[k] = r[k]
        · have HN := hide (hnx.2 ⟨unhide HT, he⟩)
          have q0 : ((l[k] : Int) == (r[k] : Int)) = true := by rw [he]; simp
          clear hnx he HT
          generalize l[k] = x0 at c0 q0
          generalize r[k] = y0 at d0 q0
          go_wp2
          go_quiet (fail)
          go_wp2
          exact ⟨⟨k + 1, by go_num, by omega, HN, hide (below_dr (unhide HB) _)⟩, by simp [intOf]; omega⟩
        · have hfin : decide (l = r) = false := by
            rw [decide_eq_false_iff_not]
            intro h
            subst h
            exact he rfl
          have HF := hide hfin
          clear hfin hnx HT
          have g0 : ¬ l[k] = r[k] := fun g0 => he g0
          have q0 : ((l[k] : Int) == (r[k] : Int)) = false := by simp; omega
          clear he g0
          generalize l[k] = x0 at c0 q0
          generalize r[k] = y0 at d0 q0
          go_wp2
          go_quiet (fail)
          go_wp2
          go_ret
          exact ⟨by rw [unhide HF]; rfl, below_dr (unhide HB) _⟩
      · have hlt1 : ¬ (k : Int) < (T : Int) := by omega
        have hfin : decide (l = r) = true := by
          rw [decide_eq_true_iff]
          have h1 := unhide HT
          have h2 := unhide HLR
          have h3 := unhide HTL
          rw [List.take_of_length_le (by omega), List.take_of_length_le (by omega)] at h1
          exact h1
        have HF := hide hfin
        clear hfin
        go_wp2
        go_ret
        exact ⟨by rw [unhide HF]; rfl, unhide HB⟩
  · have : decide (l = r) = false := by
      rw [decide_eq_false_iff_not]
      intro h
      exact hlr (by rw [h])
    rw [this]
    exact sameQ_len a a' _ _ cap cap' w hlr
end Go.Proofs.YtihgmpebpkjmkaaGreatDoor
