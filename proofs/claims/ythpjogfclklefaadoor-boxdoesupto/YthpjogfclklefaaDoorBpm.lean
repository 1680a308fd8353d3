/-
  What box.Place and Find do, over this seat's program.
-/
import Derived.Test.YthpjogfclklefaaDoorBpl
set_option linter.unusedVariables false
set_option linter.unusedSimpArgs false
namespace Go.Proofs.YthpjogfclklefaaDoor
open Go.RowKit

set_option maxHeartbeats 4000000 in
set_option maxRecDepth 100000 in
theorem place_any (b : Bx) (v : Value) (u : Nat) (w : World) (ht : LTab w) (h : RowM w v b.ms) (hf : FitB b) (hu : u ≤ 4294967295) :
    Calls Tryd.prog 21 #[bxV b v, .int .u32 (u : Int)] w fun e w' => e = .returned (.tuple #[.int .i64 (placeB b u : Int), .int .i64 (whyB b u : Int)]) ∧ Below w.heap.size w w' := by
  have HC := hide (fun W (hW : LTab W) (hR : RowM W v b.ms) => bcheck_any b v W hW hR hf)
  obtain ⟨P, hP⟩ : ∃ P, placeB b u = P := ⟨_, rfl⟩
  obtain ⟨Y, hY⟩ : ∃ Y, whyB b u = Y := ⟨_, rfl⟩
  rw [hP, hY]
  cases ho : okB b with
  | false =>
    obtain rfl : 0 = P := by rw [← hP]; unfold placeB; rw [ho]; rfl
    obtain rfl : 2 = Y := by rw [← hY]; unfold whyB; rw [ho]; rfl
    have hC : chkB b = 2 := by unfold chkB; rw [ho]; rfl
    rw [hC] at HC
    clear hP hY hC ho
    obtain ⟨va, nx, mr, la, ms⟩ := b
    simp only [bxV, bxC] at HC h ⊢
    have HA := hide (show Below w.heap.size w (w.alloc (.cells #[.int .u32 (va : Int), .int .u64 (nx : Int), .int .u32 (mr : Int), .int .u32 (la : Int), v] 26)) from (Below.refl _ w).alloc (Nat.le_refl _) _)
    have HRA := hide (h.below (unhide HA))
    have HTA := hide (ht.below (unhide HA))
    obtain ⟨a, cap, rfl, hl, _, _⟩ := h
    clear ht hf
    go_enter Tryd.func21, Tryd.ntmps21
    go_wp2_with fail
    refine (unhide HC _ (unhide HTA) (unhide HRA)).mono ?_
    rintro e w1 ⟨rfl, b1⟩
    have HB := hide (belows' (unhide HA) b1)
    clear b1 HA HRA HTA HC
    go_wp2
    refine bodyPost_ret (results_tmp2 rfl _ _ _) rfl ?_
    exact ⟨rfl, unhide HB⟩
  | true =>
    have hC : chkB b = 0 := by unfold chkB; rw [ho]; rfl
    rw [hC] at HC
    have hrise := okB_rise ho
    have hlen := okB_len ho
    have HPY : Hid ((u ∈ uidsM b.ms → P = b.ms.findIdx (fun m => m.uid == u) + 1 ∧ Y = 0) ∧ (u ∉ uidsM b.ms → P = 0 ∧ Y = 3)) := hide (by
      rw [← hP, ← hY]; unfold placeB whyB placeL; rw [ho]
      refine ⟨fun h => ?_, fun h => ?_⟩
      · rw [if_pos rfl, if_pos rfl, if_pos h, if_pos h]; exact ⟨rfl, rfl⟩
      · rw [if_pos rfl, if_pos rfl, if_neg h, if_neg h]; exact ⟨rfl, rfl⟩)
    clear hP hY hC ho
    obtain ⟨va, nx, mr, la, ms⟩ := b
    simp only [bxV, bxC] at HC h hrise hlen HPY ⊢
    have HF := hide (fun W P v (hR : RowM W v ms) (hP : P < W.heap.size) (hc : W.cell? ⟨P, 4, none⟩ = some v) => wfind_any P v ms u W hR hu (by omega) hrise hP hc)
    have HRI := hide hrise
    have HLE := hide hlen
    have HA := hide (show Below w.heap.size w (w.alloc (.cells #[.int .u32 (va : Int), .int .u64 (nx : Int), .int .u32 (mr : Int), .int .u32 (la : Int), v] 26)) from (Below.refl _ w).alloc (Nat.le_refl _) _)
    have K0 := hide (Blk.new w 26 #[.int .u32 (va : Int), .int .u64 (nx : Int), .int .u32 (mr : Int), .int .u32 (la : Int), v])
    have HRA := hide (h.below (unhide HA))
    have HTA := hide (ht.below (unhide HA))
    obtain ⟨a, cap, rfl, hl, _, _⟩ := h
    clear ht hf hrise hlen
    obtain ⟨n, hnn⟩ : ∃ n, ms.length = n := ⟨_, rfl⟩
    rw [hnn] at HC HRA HA K0 HTA hl ⊢
    clear hnn
    go_enter Tryd.func21, Tryd.ntmps21
    go_wp2_with fail
    refine (unhide HC _ (unhide HTA) (unhide HRA)).mono ?_
    rintro e w1 ⟨rfl, b1⟩
    have HB := hide (belows' (unhide HA) b1)
    have HR1 := hide ((unhide HRA).below b1)
    have k0 := (unhide K0).below b1
    have c0 := k0.cell 0
    have c1 := k0.cell 1
    have c2 := k0.cell 2
    have c3 := k0.cell 3
    have c4 := k0.cell 4
    simp only [List.getElem?_toArray, List.getElem?_cons_succ, List.getElem?_cons_zero] at c0 c1 c2 c3 c4
    have HA2 := hide (show Below w1.heap.size w1 (w1.alloc (.cells #[.int .u32 (va : Int), .int .u64 (nx : Int), .int .u32 (mr : Int), .int .u32 (la : Int), .slice a n cap, .slice none 0 0] 57)) from (Below.refl _ w1).alloc (Nat.le_refl _) _)
    have HF2 := hide (unhide HF (w1.alloc (.cells #[.int .u32 (va : Int), .int .u64 (nx : Int), .int .u32 (mr : Int), .int .u32 (la : Int), .slice a n cap, .slice none 0 0] 57)) w1.heap.size (.slice a n cap) ((unhide HR1).below (unhide HA2)) (by simp) (by rw [World.cell?_alloc_at _ _ _ _ (by simp)]; rfl))
    have HB2 := hide (belows' (unhide HB) (unhide HA2))
    clear b1 HA HRA HTA HC k0 K0 HF HR1 HA2
    go_wp2_with fail
    refine (unhide HF2).mono ?_
    rintro e w2 ⟨⟨i, rfl, HI⟩, b2⟩
    have HB3 := hide (belows' (unhide HB2) b2)
    have HII := hide HI
    clear b2 HB2 HF2 HI HB
    by_cases hin : u ∈ uidsM ms
    · obtain ⟨hpe, rfl⟩ := (unhide HPY).1 hin
      have HPE := hide hpe
      clear hpe
      have HIX := hide ((unhide HII hin).idx (unhide HRI))
      have hib : i < 4294967296 := by
        obtain ⟨m, hm, _⟩ := unhide HII hin
        have := (List.getElem?_eq_some_iff.1 hm).1
        have := unhide HLE
        omega
      rw [decide_eq_true hin]
      have HPE2 : Hid (P = i + 1) := hide (by rw [unhide HPE, unhide HIX])
      clear hin HPY HII HIX HPE
      go_wp2
      refine bodyPost_ret (results_tmp2 rfl _ _ _) rfl ?_
      exact ⟨by rw [unhide HPE2]; rfl, unhide HB3⟩
    · obtain ⟨rfl, rfl⟩ := (unhide HPY).2 hin
      rw [decide_eq_false hin]
      clear hin HPY HII
      go_wp2
      refine bodyPost_ret (results_tmp2 rfl _ _ _) rfl ?_
      exact ⟨rfl, unhide HB3⟩

def msV (m : Msg) : Value := .agg #[.int .u32 (m.uid : Int), .int .u8 (m.fl : Int), .int .i64 m.dy, .int .i64 m.sc, .int .i64 m.zn, .string m.raw]
theorem rowM_lit (W : World) (p : Msg) (hp : FitM p) : RowM (W.alloc (.cells #[.int .u32 (p.uid : Int), .int .u8 (p.fl : Int), .int .i64 p.dy, .int .i64 p.sc, .int .i64 p.zn, .string p.raw] 47)) (.slice (some ⟨W.heap.size, 0, none⟩) 1 1) [p] := by
  have hx : (W.alloc (.cells (msC p).toArray 47)).ownsRow W.heap.size 47 6 (.slice (some ⟨W.heap.size, 0, none⟩) 1 1) 1 (msC p).toArray.toList := World.ownsRow_lit W (msC p).toArray 1 (Nat.le_refl _) (by unfold maxLen; omega) rfl
  have h2 : (W.alloc (.cells (msC p).toArray 47)).ownsRow W.heap.size 47 6 (.slice (some ⟨W.heap.size, 0, none⟩) 1 1) [p].length (flatG msC [p]) := by rw [flatG_one]; exact hx
  exact rowG_of_own msC_len h2 (by simp) (by simpa using hp)
theorem below6 {B s : Nat} {w W : World} (h : Below B w W) (hs : B ≤ s) : ∀ u0 u1 u2 u3 u4 u5, Below B w ((((((W.setCell ⟨s, 0, none⟩ u0).setCell ⟨s, 1, none⟩ u1).setCell ⟨s, 2, none⟩ u2).setCell ⟨s, 3, none⟩ u3).setCell ⟨s, 4, none⟩ u4).setCell ⟨s, 5, none⟩ u5) := by
  intro u0 u1 u2 u3 u4 u5
  exact (below5 h hs u0 u1 u2 u3 u4).setCell (p := ⟨s, 5, none⟩) hs _

set_option maxHeartbeats 4000000 in
set_option maxRecDepth 100000 in
theorem bfind_any (b : Bx) (v : Value) (u : Nat) (w : World) (ht : LTab w) (h : RowM w v b.ms) (hf : FitB b) (hu : u ≤ 4294967295) :
    Calls Tryd.prog 17 #[bxV b v, .int .u32 (u : Int)] w fun e w' => e = .returned (.tuple #[msV (findB b u), .int .i64 (whyB b u : Int)]) ∧ Below w.heap.size w w' := by
  have HC := hide (fun W (hW : LTab W) (hR : RowM W v b.ms) => place_any b v u W hW hR hf hu)
  have hcase : (okB b = true ∧ u ∈ uidsM b.ms ∧ whyB b u = 0 ∧ ∃ i, AtU b.ms i u ∧ placeB b u = i + 1 ∧ b.ms[i]? = some (findB b u)) ∨ (whyB b u ≠ 0 ∧ whyB b u ≤ 3 ∧ findB b u = zeroM) := by
    unfold whyB placeB findB
    cases ho : okB b with
    | false => right; simp
    | true =>
      by_cases hin : u ∈ uidsM b.ms
      · left
        obtain ⟨m, hm, hmu⟩ := List.mem_map.1 hin
        obtain ⟨i, hi, he⟩ := List.getElem_of_mem hm
        have hat : AtU b.ms i u := ⟨m, by rw [List.getElem?_eq_getElem hi, he], hmu⟩
        refine ⟨rfl, hin, by rw [if_pos rfl, if_pos hin], i, hat, ?_, ?_⟩
        · rw [if_pos rfl]; unfold placeL; rw [if_pos hin, hat.idx (okB_rise ho)]
        · rw [if_pos rfl]; exact hat.find (okB_rise ho)
      · right
        rw [if_pos rfl, if_neg hin, if_pos rfl]
        exact ⟨by omega, by omega, findL_none hin⟩
  obtain ⟨M, hM⟩ : ∃ M, findB b u = M := ⟨_, rfl⟩
  obtain ⟨Y, hY⟩ : ∃ Y, whyB b u = Y := ⟨_, rfl⟩
  obtain ⟨P, hP⟩ : ∃ P, placeB b u = P := ⟨_, rfl⟩
  rw [hM, hY, hP] at hcase
  rw [hY, hP] at HC
  rw [hM, hY]
  clear hM hY hP
  obtain ⟨va, nx, mr, la, ms⟩ := b
  simp only [bxV, bxC] at HC h hcase ⊢
  have HFM := hide h.choose_spec.choose_spec.2.2.1
  have HR := hide h
  obtain ⟨a, cap, rfl, hl, _, _⟩ := h
  have HLN : Hid (okB ⟨va, nx, mr, la, ms⟩ = true → ms.length ≤ 4096) := hide (fun h => okB_len h)
  obtain ⟨n, hnn⟩ : ∃ n, ms.length = n := ⟨_, rfl⟩
  rw [hnn] at HC HR HLN hl ⊢
  have HN := hide hnn
  clear hnn
  have hb1 := (((Below.refl _ w).alloc (Nat.le_refl _) (Obj.cells #[.int .u32 (va : Int), .int .u64 (nx : Int), .int .u32 (mr : Int), .int .u32 (la : Int), .slice a n cap] 26)).alloc (by simp) (Obj.cells #[.int .u32 0, .int .u8 0, .int .i64 0, .int .i64 0, .int .i64 0, .string ⟨#[]⟩] 47))
  have k0 := (Blk.new w 26 #[.int .u32 (va : Int), .int .u64 (nx : Int), .int .u32 (mr : Int), .int .u32 (la : Int), .slice a n cap]).below ((Below.refl _ _).alloc (Nat.le_refl _) (Obj.cells #[.int .u32 0, .int .u8 0, .int .i64 0, .int .i64 0, .int .i64 0, .string ⟨#[]⟩] 47))
  have k1 := Blk.new (w.alloc (Obj.cells #[.int .u32 (va : Int), .int .u64 (nx : Int), .int .u32 (mr : Int), .int .u32 (la : Int), .slice a n cap] 26)) 47 #[.int .u32 0, .int .u8 0, .int .i64 0, .int .i64 0, .int .i64 0, .string ⟨#[]⟩]
  simp only [World.size_alloc] at k1
  have HA := hide hb1
  have K0 := hide k0
  have K1 := hide k1
  have HRA := hide ((unhide HR).below hb1)
  have HTA := hide (ht.below hb1)
  clear hb1 k0 k1 ht hf HR
  go_enter Tryd.func17, Tryd.ntmps17
  go_wp2_with fail
  refine (unhide HC _ (unhide HTA) (unhide HRA)).mono ?_
  rintro e w1 ⟨rfl, b1⟩
  have HB := hide (belows' (unhide HA) b1)
  have HR1 := hide ((unhide HRA).below b1)
  have k0 := (unhide K0).below b1
  have k1 := (unhide K1).below b1
  have hs1 := b1.size
  simp only [World.size_alloc] at hs1
  have c4 := k0.cell 4
  simp only [List.getElem?_toArray, List.getElem?_cons_succ, List.getElem?_cons_zero] at c4
  clear b1 HC HTA HRA HA K0 K1
  rcases hcase with ⟨ho, hin, rfl, i, hat, rfl, hfi⟩ | ⟨hy0, hy3, rfl⟩
  · obtain ⟨hi, hm⟩ := List.getElem?_eq_some_iff.1 hfi
    have hn4 := unhide HLN ho
    have hin4 : i < n := by rw [← unhide HN]; exact hi
    obtain ⟨g, off, rfl, hg, hft, d0, d1, d2, d3, d4, d5⟩ := RowM.mail (unhide HR1) (Below.refl _ _) hi
    rw [hm] at d0 d1 d2 d3 d4 d5 hft
    obtain ⟨mu, mf, md, msc, mz, mraw⟩ := M
    simp only at d0 d1 d2 d3 d4 d5
    have HCP := hide (copyMails_any _ _ _ (by simp) (rowM_lit w1 ⟨mu, mf, md, msc, mz, mraw⟩ hft))
    have HAL := hide (show Below w1.heap.size w1 (w1.alloc (.cells #[.int .u32 (mu : Int), .int .u8 (mf : Int), .int .i64 md, .int .i64 msc, .int .i64 mz, .string mraw] 47)) from (Below.refl _ w1).alloc (Nat.le_refl _) _)
    have hpi : (((i + 1 : Nat) : Int)) - 1 = (i : Int) := by omega
    have hwi : IntKind.i64.wrap (((i + 1 : Nat) : Int) - 1) = (i : Int) := by rw [IntKind.wrap_i64]; omega
    have hini : (i : Int) < (n : Int) := by omega
    have hK1 := hide k1
    clear k0 k1 hft hm hfi hat hin ho HLN HFM hpi
    go_wp2_with fail
    refine (unhide HCP).mono ?_
    rintro e w3 ⟨v', rfl, hown, b3⟩
    have b4 : Below w1.heap.size w1 w3 := belows' (unhide HAL) b3
    have k1 := (unhide hK1).below b4
    have e0 := k1.cell 0
    have e1 := k1.cell 1
    have e2 := k1.cell 2
    have e3 := k1.cell 3
    have e4 := k1.cell 4
    have e5 := k1.cell 5
    have f0 := k1.frozen 0
    have f1 := k1.frozen 1
    have f2 := k1.frozen 2
    have f3 := k1.frozen 3
    have f4 := k1.frozen 4
    have f5 := k1.frozen 5
    simp only [List.getElem?_toArray, List.getElem?_cons_succ, List.getElem?_cons_zero] at e0 e1 e2 e3 e4 e5
    obtain ⟨g2, cap2, hv2, hBg, hgs, hcells, _⟩ := ownG_at msC_len (l := [(⟨mu, mf, md, msc, mz, mraw⟩ : Msg)]) hown (j := 0) (by simp)
    have x0 := hcells 0 (by omega)
    have x1 := hcells 1 (by omega)
    have x2 := hcells 2 (by omega)
    have x3 := hcells 3 (by omega)
    have x4 := hcells 4 (by omega)
    have x5 := hcells 5 (by omega)
    simp only [msC, List.getElem_cons_zero, List.getElem?_cons_succ, List.getElem?_cons_zero, Nat.zero_mul, Nat.zero_add] at x0 x1 x2 x3 x4 x5
    simp only [List.length_cons, List.length_nil, Nat.zero_add] at hv2
    subst hv2
    have HB6 := hide (below6 (s := w.heap.size + 1) (belows' (unhide HB) b4) (by omega))
    clear hcells hown b3 b4 k1 HCP HAL hK1 HB hBg d0 d1 d2 d3 d4 d5
    go_wp2
    (try simp only [Exit.inBlock, Exit.then])
    refine bodyPost_ret (v := .tuple #[.agg #[.int .u32 (mu : Int), .int .u8 (mf : Int), .int .i64 md, .int .i64 msc, .int .i64 mz, .string mraw], .int .i64 0]) ?_ rfl ⟨rfl, unhide HB6 _ _ _ _ _ _⟩
    rw [results_cell_tmp rfl]
    go_simp
  · have e0 := k1.cell 0
    have e1 := k1.cell 1
    have e2 := k1.cell 2
    have e3 := k1.cell 3
    have e4 := k1.cell 4
    have e5 := k1.cell 5
    have f0 := k1.frozen 0
    have f1 := k1.frozen 1
    have f2 := k1.frozen 2
    have f3 := k1.frozen 3
    have f4 := k1.frozen 4
    have f5 := k1.frozen 5
    simp only [List.getElem?_toArray, List.getElem?_cons_succ, List.getElem?_cons_zero] at e0 e1 e2 e3 e4 e5
    have hyb : ((Y : Int) != 0) = true := by simp; omega
    have HB6 := hide (below6 (s := w.heap.size + 1) (unhide HB) (by omega))
    clear k0 k1 hy0 hy3
    go_wp2
    (try simp only [Exit.inBlock, Exit.then])
    refine bodyPost_ret (v := .tuple #[.agg #[.int .u32 0, .int .u8 0, .int .i64 0, .int .i64 0, .int .i64 0, .string ⟨#[]⟩], .int .i64 (Y : Int)]) ?_ rfl ⟨rfl, unhide HB6 _ _ _ _ _ _⟩
    rw [results_cell_tmp rfl]
    go_simp
end Go.Proofs.YthpjogfclklefaaDoor
