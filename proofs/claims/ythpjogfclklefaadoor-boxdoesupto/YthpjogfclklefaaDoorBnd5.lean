/-
  What missiveref01.Same and missiveref13.In do, over this seat's program.
-/
import Derived.Test.YthpjogfclklefaaDoorBnd3
import Derived.Test.YthpjogfclklefaaDoorRxc
import Derived.Test.YthpjogfclklefaaDoorBpl
import Derived.BigQuiet
set_option linter.unusedVariables false
namespace Go.Proofs.YthpjogfclklefaaDoor
open Go.RowKit Go.Proofs.Num Go.Proofs.Dct

theorem takeG_next {α : Type} {l r : List α} {k : Nat} (hl : k < l.length) (hr : k < r.length) : l.take (k + 1) = r.take (k + 1) ↔ l.take k = r.take k ∧ l[k] = r[k] := by
  rw [List.take_succ_eq_append_getElem hl, List.take_succ_eq_append_getElem hr]
  constructor
  · intro h
    have := List.append_inj' h rfl
    exact ⟨this.1, by simpa using this.2⟩
  · rintro ⟨h1, h2⟩
    rw [h1, h2]

set_option maxHeartbeats 400000 in
theorem same32_len (a b : Option Addr) (n m c d : Nat) (w : World) (h : n ≠ m) :
    Calls Tryd.prog 12 #[.slice a n c, .slice b m d] w fun e w' => e = .returned (.bool false) ∧ Below w.heap.size w w' := by
  have hb : ((n : Int) == (m : Int)) = false := by simp; omega
  go_enter Tryd.func12, Tryd.ntmps12
  go_wp2
  go_ret
  exact ⟨rfl, Below.refl _ _⟩

set_option maxHeartbeats 1000000 in
set_option maxRecDepth 100000 in
theorem same32_any (v v' : Value) (l r : List Nat) (w : World) (h : Row32 w v l) (h' : Row32 w v' r) :
    Calls Tryd.prog 12 #[v, v'] w fun e w' => e = .returned (.bool (decide (l = r))) ∧ Below w.heap.size w w' := by
  have HR := hide h
  have HR' := hide h'
  obtain ⟨a, cap, rfl, hl, hn, _⟩ := h
  obtain ⟨a', cap', rfl, hl', hn', _⟩ := h'
  by_cases hlr : l.length = r.length
  · have HLR := hide hlr
    rw [← hlr]
    rw [← hlr] at HR' hl'
    obtain ⟨T, hT⟩ : ∃ T, T = l.length := ⟨_, rfl⟩
    rw [← hT] at HR HR' hl ⊢
    have HTL := hide hT
    clear hT hlr hl' hn hn'
    go_enter Tryd.func12, Tryd.ntmps12
    go_wp2
    go_loopw [5, 13] (fun x z wr => ∃ k : Nat, z = .int .i64 k ∧ k ≤ T ∧ Hid (l.take k = r.take k) ∧ Hid (Below w.heap.size w wr)) (fun _ z _ => T - (intOf z).toNat)
    case atStart => exact ⟨0, rfl, Nat.zero_le _, hide rfl, hide (Below.refl _ _)⟩
    case round =>
      obtain ⟨k, rfl, hk, HT, HB⟩ := hrel
      by_cases hlt : k < T
      · have hlt1 : (k : Int) < (T : Int) := by omega
        have hkl : k < l.length := by have := unhide HTL; omega
        have hkr : k < r.length := by have := unhide HTL; have := unhide HLR; omega
        obtain ⟨b, off, cp, hv1, hblt, hcell⟩ := RowG.at cells32_len ((unhide HR).below (unhide HB)) (j := k) hkl
        obtain ⟨b2, off2, cp2, hv2, hblt2, hcell2⟩ := RowG.at cells32_len ((unhide HR').below (unhide HB)) (j := k) hkr
        injection hv1 with e1 e2 e3
        injection hv2 with e4 e5 e6
        subst e1 e4
        have c0 := hcell 0 (by omega)
        have d0 := hcell2 0 (by omega)
        simp only [cells32, List.getElem?_cons_zero, Nat.add_zero] at c0 d0
        (try simp only [Nat.mul_one] at c0 d0)
        clear e2 e3 e5 e6 hcell hcell2
        have hnx := takeG_next hkl hkr
        by_cases he : l[k] = r[k]
        · have HN := hide (hnx.2 ⟨unhide HT, he⟩)
          have q0 : ((l[k] : Int) == (r[k] : Int)) = true := by rw [he]; simp
          clear hnx he HT
          generalize l[k] = x0 at c0 q0
          generalize r[k] = y0 at d0 q0
          go_wp2
          go_quiet (fail)
          go_wp2
          exact ⟨⟨k + 1, by go_num, by omega, HN, hide (below_drewN (unhide HB) _)⟩, by simp [intOf]; omega⟩
        · have hfin : decide (l = r) = false := by
            rw [decide_eq_false_iff_not]
            intro h
            subst h
            exact he rfl
          have HF := hide hfin
          clear hfin hnx HT
          have g0 : ¬ l[k] = r[k] := fun g0 => he g0
          have q0 : ((l[k] : Int) == (r[k] : Int)) = false := by simp; omega
          clear he g0
          generalize l[k] = x0 at c0 q0
          generalize r[k] = y0 at d0 q0
          go_wp2
          go_quiet (fail)
          go_wp2
          go_ret
          exact ⟨by rw [unhide HF]; rfl, below_drewN (unhide HB) _⟩
      · have hlt1 : ¬ (k : Int) < (T : Int) := by omega
        have hfin : decide (l = r) = true := by
          rw [decide_eq_true_iff]
          have h1 := unhide HT
          have h2 := unhide HLR
          have h3 := unhide HTL
          rw [List.take_of_length_le (by omega), List.take_of_length_le (by omega)] at h1
          exact h1
        have HF := hide hfin
        clear hfin
        go_wp2
        go_ret
        exact ⟨by rw [unhide HF]; rfl, unhide HB⟩
  · have : decide (l = r) = false := by
      rw [decide_eq_false_iff_not]
      intro h
      exact hlr (by rw [h])
    rw [this]
    exact same32_len a a' _ _ cap cap' w hlr

set_option maxHeartbeats 1000000 in
set_option maxRecDepth 100000 in
theorem in_any (v : Value) (l : List Nat) (n : Nat) (w : World) (h : Row32 w v l) (hn : n ≤ 4294967295) :
    Calls Tryd.prog 27 #[v, .int .u32 (n : Int)] w fun e w' => e = .returned (.bool (decide (n ∈ l))) ∧ w' = w := by
  have HR := hide h
  obtain ⟨a, cap, hv, hl4, hfit, _⟩ := h
  subst hv
  have HFT := hide hfit
  obtain ⟨T, hT⟩ : ∃ T, T = l.length := ⟨_, rfl⟩
  rw [← hT] at HR hl4 ⊢
  have HTL := hide hT
  clear hT hfit
  go_enter Tryd.func27, Tryd.ntmps27
  go_wp2
  go_loopw [6, 9] (fun x z wr => ∃ k : Nat, z = .int .i64 (k : Int) ∧ k ≤ T ∧ Hid (n ∉ l.take k) ∧ wr = w) (fun _ z _ => T - (intOf z).toNat)
  case atStart => exact ⟨0, rfl, Nat.zero_le _, hide (by simp), rfl⟩
  case round =>
    obtain ⟨k, rfl, hk, HA, rfl⟩ := hrel
    by_cases hlt : k < T
    · have hlt1 : (k : Int) < (T : Int) := by omega
      have hkl : k < l.length := by have := unhide HTL; omega
      obtain ⟨b, off, cap', hv', hblt, hcell⟩ := RowG.at cells32_len (unhide HR) (j := k) hkl
      injection hv' with e1 e2 e3
      subst e1
      have c0 := hcell 0 (by omega)
      simp only [cells32, List.getElem?_cons_zero, Nat.add_zero, Nat.mul_one] at c0
      clear e2 e3 hcell
      have hx := unhide HFT l[k] (List.getElem_mem hkl)
      by_cases he : l[k] = n
      · have HF : Hid (decide (n ∈ l) = true) := hide (decide_eq_true (by rw [← he]; exact List.getElem_mem hkl))
        have hb : ((l[k] : Int) == (n : Int)) = true := by rw [he]; simp
        clear he HA
        generalize l[k] = x at c0 hx hb
        go_wp2
        go_ret
        exact ⟨by rw [unhide HF]; rfl, rfl⟩
      · have HN : Hid (n ∉ l.take (k + 1)) := hide (by
          rw [List.take_succ_eq_append_getElem hkl, List.mem_append, List.mem_singleton]
          rintro (h | h)
          · exact unhide HA h
          · exact he h.symm)
        have hb : ((l[k] : Int) == (n : Int)) = false := by simp; omega
        clear he HA
        generalize l[k] = x at c0 hx hb
        go_wp2
        exact ⟨⟨k + 1, by go_num, by omega, HN, trivial⟩, by simp [intOf]; omega⟩
    · have hlt1 : ¬ (k : Int) < (T : Int) := by omega
      have HF : Hid (decide (n ∈ l) = false) := hide (decide_eq_false (by have := unhide HA; rwa [List.take_of_length_le (by have := unhide HTL; omega)] at this))
      clear HA
      go_wp2
      go_ret
      exact ⟨by rw [unhide HF]; rfl, rfl⟩
end Go.Proofs.YthpjogfclklefaaDoor

/-
  What the document's Uids of box does, over this seat's program.
-/
set_option linter.unusedVariables false
set_option linter.unusedSimpArgs false
namespace Go.Proofs.YthpjogfclklefaaDoor
open Go.RowKit

theorem uids_take {l : List Msg} {k : Nat} (h : k < l.length) : uidsM (l.take (k + 1)) = uidsM (l.take k) ++ [l[k].uid] := by
  unfold uidsM
  rw [List.take_succ_eq_append_getElem h, List.map_append]; rfl
theorem okB_above {b : Bx} (h : okB b = true) : aboveB 0 b = uidsM b.ms := by
  unfold aboveB
  rw [if_pos h]
  exact aboveL_zero (fun m hm => ((mailsOk_all (okB_mails h)).1 m hm).1)

set_option maxHeartbeats 4000000 in
set_option maxRecDepth 100000 in
theorem refBUids_any (b : Bx) (v : Value) (w : World) (h : RowM w v b.ms) (hf : FitB b) :
    Calls Tryd.prog 20 #[bxV b v] w fun e w' => (∃ v', e = .returned (.tuple #[v', .int .i64 (chkB b : Int)]) ∧ OutT w' v' (aboveB 0 b)) ∧ Below w.heap.size w w' := by
  have HC := hide (fun W (hR : RowM W v b.ms) => refBCheck_any b v W hR hf)
  obtain ⟨P, hP⟩ : ∃ P, aboveB 0 b = P := ⟨_, rfl⟩
  rw [hP]
  have HP := hide hP
  clear hP
  obtain ⟨a, cap, rfl, hl, hfm, _⟩ := id h
  have HFM := hide hfm
  clear hfm
  have HA := hide (show Below w.heap.size w (w.alloc (.cells (bxC b (.slice a b.ms.length cap)) 26)) from (Below.refl _ w).alloc (Nat.le_refl _) _)
  have HRA := hide (h.below (unhide HA))
  have KB := hide (Blk.new w 26 (bxC b (.slice a b.ms.length cap)))
  clear h
  cases hok : okB b with
  | false =>
    have hc : chkB b = 2 := by unfold chkB; rw [hok, if_neg (by simp)]
    have hp : [] = P := by rw [← unhide HP]; unfold aboveB; rw [hok, if_neg (by simp)]
    subst hp
    rw [hc] at HC ⊢
    clear hc hok HP hf KB HFM
    obtain ⟨va, nx, mr, la, ms⟩ := b
    simp only [bxV, bxC] at *
    go_enter Tryd.func20, Tryd.ntmps20
    go_wp2_with fail
    refine (unhide HC _ (unhide HRA)).mono ?_
    rintro e w1 ⟨rfl, b1⟩
    have HB := hide (belows' (unhide HA) b1)
    clear b1 HA HRA HC
    go_wp2
    go_ret2
    exact ⟨⟨_, rfl, OutT.nil _⟩, unhide HB⟩
  | true =>
    have hc : chkB b = 0 := by unfold chkB; rw [hok, if_pos rfl]
    have HP := hide (show uidsM b.ms = P by rw [← unhide HP, okB_above hok])
    have hn4 := okB_len hok
    rw [hc] at HC ⊢
    clear hc hok hf
    obtain ⟨va, nx, mr, la, ms⟩ := b
    simp only [bxV, bxC] at *
    obtain ⟨n, hnn⟩ : ∃ n, ms.length = n := ⟨_, rfl⟩
    rw [hnn] at HA HRA KB HC hl hn4 ⊢
    have HN := hide hnn
    clear hnn
    go_enter Tryd.func20, Tryd.ntmps20
    go_wp2_with fail
    refine (unhide HC _ (unhide HRA)).mono ?_
    rintro e w1 ⟨rfl, b1⟩
    have KB := hide ((unhide KB).below b1)
    have HRA := hide ((unhide HRA).below b1)
    have HB := hide (belows' (unhide HA) b1)
    have c4 := (unhide KB).cell 4
    simp only [List.getElem?_toArray, List.getElem?_cons_succ, List.getElem?_cons_zero] at c4
    clear b1 HA HC KB
    go_wp2
    go_loopw [4, 6, 13] (fun y _ z wr => ∃ k : Nat, z = .int .i64 k ∧ k ≤ n ∧ Hid (wr.ownsRow w1.heap.size 22 1 y (uidsM (ms.take k)).length (flatG cells32 (uidsM (ms.take k)))) ∧ Hid (Below w1.heap.size w1 wr)) (fun _ _ z _ => n - (intOf z).toNat)
    case atStart => exact ⟨0, rfl, Nat.zero_le _, hide (World.ownsRow_nil _ _ _ _), hide (Below.refl _ _)⟩
    case round =>
      obtain ⟨k, rfl, hk, HO, BJ⟩ := hrel
      by_cases hlt : k < n
      · have hkl : k < ms.length := by rw [unhide HN]; exact hlt
        have hlt1 : (k : Int) < (n : Int) := by omega
        obtain ⟨g, off, rfl, hg, hft, d0, d1, d2, d3, d4, d5⟩ := RowM.mail (unhide HRA) (unhide BJ) hkl
        have HFT := hide (uids_take hkl)
        have hll : (uidsM (ms.take k)).length ≤ 4096 := by rw [uidsM_len, List.length_take]; omega
        obtain ⟨ay, cy, hy, _⟩ := own_sliceG (unhide HO)
        subst hy
        generalize ms[k] = p at d0 d1 d2 d3 d4 d5 HFT hft
        obtain ⟨u, f, d, s, z, raw⟩ := p
        simp only at d0 d1 d2 d3 d4 d5 HFT
        have hAl : Below wr.heap.size wr (wr.alloc (.cells #[.int .u32 (u : Int), .int .u8 (f : Int), .int .i64 d, .int .i64 s, .int .i64 z, .string raw] 47)) := (Below.refl _ wr).alloc (Nat.le_refl _) _
        have HB2 := hide (belows' (unhide BJ) hAl)
        have HO2 := hide (own_below (unhide HO) hAl)
        have hBs := (unhide BJ).size
        obtain ⟨F, hF⟩ : ∃ F, F = uidsM (ms.take k) := ⟨_, rfl⟩
        rw [← hF] at HFT HO2 hll ⊢
        obtain ⟨v', w', hrun, h2, h3⟩ := run_app32 _ w1.heap.size (.slice ay F.length cy) F u 28 (unhide HO2) (by omega) (by rw [World.size_alloc]; omega)
        have H2 : Hid (w'.ownsRow w1.heap.size 22 1 v' (uidsM (ms.take (k + 1))).length (flatG cells32 (uidsM (ms.take (k + 1))))) := hide (by rw [unhide HFT]; exact h2)
        have H3 := hide ((unhide HB2).trans h3)
        rw [World.size_alloc] at hrun
        clear h2 h3 HFT HO2 HO hBs hF hft hAl hll HB2 BJ
        generalize F.length = M at hrun ⊢
        go_wp2_with (at_builtin; refine wpList_append_runB (by rfl) _ _ 28 rfl rfl rfl rfl hrun ?_)
        exact ⟨⟨k + 1, by go_num, by omega, H2, H3⟩, by simp [intOf]; omega⟩
      · have hlt1 : ¬ (k : Int) < (n : Int) := by omega
        have hO := unhide HO
        rw [List.take_of_length_le (by rw [unhide HN]; omega), unhide HP] at hO
        have HRR := hide (show OutT _ _ P from ⟨own_zero hO, (by
          rw [← unhide HP]
          intro x hx
          obtain ⟨m, hm, rfl⟩ := List.mem_map.1 hx
          exact (unhide HFM m hm).1), by rw [← unhide HP, uidsM_len, unhide HN]; omega⟩)
        have HBF := hide (belows' (unhide HB) (unhide BJ))
        obtain ⟨ay, cy, hy, _⟩ := own_sliceG hO
        subst hy
        clear hO HO BJ
        go_wp2
        go_ret2
        exact ⟨⟨_, rfl, unhide HRR⟩, unhide HBF⟩
end Go.Proofs.YthpjogfclklefaaDoor

/-
  What a box's calls answer at the boxes and changes that lives makes; over this seat's program.
-/
set_option linter.unusedVariables false
set_option linter.unusedSimpArgs false
namespace Go.Proofs.YthpjogfclklefaaDoor
open Go.RowKit

def xB : ByteArray := ⟨#[120]⟩
def yB : ByteArray := ⟨#[121]⟩
def eB : ByteArray := ⟨#[]⟩
def lm1 : Msg := ⟨1, 0, 0, 0, 0, xB⟩
def lm1d : Msg := ⟨1, 8, 0, 0, 0, xB⟩
def lm2 : Msg := ⟨2, 1, 0, 0, 0, yB⟩
def lb0 : Bx := ⟨9, 1, 0, 0, []⟩
def lb1 : Bx := ⟨9, 2, 0, 0, [lm1]⟩
def lb2 : Bx := ⟨9, 3, 0, 0, [lm1, lm2]⟩
def lb3 : Bx := ⟨9, 3, 0, 0, [lm1d, lm2]⟩
def lb4 : Bx := ⟨9, 3, 0, 0, [lm2]⟩
def lb5 : Bx := ⟨9, 3, 0, 2, [lm2]⟩
def lc1 : Chg := ⟨1, [], 0, 0, 0, 0, xB⟩
def lc2 : Chg := ⟨1, [], 1, 0, 0, 0, yB⟩
def lc3 : Chg := ⟨3, [1], 8, 0, 0, 0, eB⟩
def lc4 : Chg := ⟨5, [1, 2], 0, 0, 0, 0, eB⟩
def lc5 : Chg := ⟨6, [], 0, 0, 0, 0, eB⟩
def lc6 : Chg := ⟨2, [1], 0, 0, 0, 0, eB⟩
theorem lE1 : doB lb0 lc1 = lb1 ∧ doT lb0 lc1 = [1] ∧ doE lb0 lc1 = 0 := ⟨by kernel_rfl, by kernel_rfl, by kernel_rfl⟩
theorem lE2 : doB lb1 lc2 = lb2 ∧ doT lb1 lc2 = [2] ∧ doE lb1 lc2 = 0 := ⟨by kernel_rfl, by kernel_rfl, by kernel_rfl⟩
theorem lE3 : doB lb2 lc3 = lb3 ∧ doT lb2 lc3 = [1] ∧ doE lb2 lc3 = 0 := ⟨by kernel_rfl, by kernel_rfl, by kernel_rfl⟩
theorem lE4 : doB lb3 lc4 = lb4 ∧ doT lb3 lc4 = [1] ∧ doE lb3 lc4 = 0 := ⟨by kernel_rfl, by kernel_rfl, by kernel_rfl⟩
theorem lE5 : doB lb4 lc5 = lb5 ∧ doT lb4 lc5 = [] ∧ doE lb4 lc5 = 0 := ⟨by kernel_rfl, by kernel_rfl, by kernel_rfl⟩
theorem lE6 : doB lb5 lc6 = lb5 ∧ doT lb5 lc6 = [] ∧ doE lb5 lc6 = 3 := ⟨by kernel_rfl, by kernel_rfl, by kernel_rfl⟩
theorem lP : placeB lb4 2 = 1 ∧ whyB lb4 2 = 0 ∧ findB lb4 2 = lm2 := ⟨by kernel_rfl, by kernel_rfl, by kernel_rfl⟩
theorem lU : chkB lb4 = 0 ∧ aboveB 0 lb4 = [2] := ⟨by kernel_rfl, by kernel_rfl⟩
theorem lR : chkB lb5 = 0 ∧ aboveB 0 lb5 = [2] := ⟨by kernel_rfl, by kernel_rfl⟩
theorem lC : rightC ⟨0, [], 0, 0, 0, 0, eB⟩ = 2 := by kernel_rfl

/-- box.Do at a box and a change, with its answers named. -/
theorem bdo_lit (b : Bx) (c : Chg) (b' : Bx) (T : List Nat) (E : Nat) (he : doB b c = b' ∧ doT b c = T ∧ doE b c = E) (v vc : Value) (w : World) (ht : LTab w) (h : OutM w v b.ms) (hu : Row32 w vc c.us) (hf : FitB b) (hfc : FitC c) :
    Calls Tryd.prog 6 #[bxV b v, chV c vc] w fun e w' => (∃ a c1 a' c2, e = .returned (.tuple #[bxV b' (.slice a b'.ms.length c1), .slice a' T.length c2, .int .i64 (E : Int)]) ∧ OutM w' (.slice a b'.ms.length c1) b'.ms ∧ OutT w' (.slice a' T.length c2) T) ∧ Below w.heap.size w w' := by
  obtain ⟨rfl, rfl, rfl⟩ := he
  refine (bdo_any b c v vc w ht h.row hu hf hfc).mono ?_
  rintro e w' ⟨⟨v', u', rfl, h1, h2⟩, h3⟩
  obtain ⟨a, c1, rfl, _⟩ := own_sliceG h1.1
  obtain ⟨a', c2, rfl, _⟩ := own_sliceG h2.1
  exact ⟨⟨a, c1, a', c2, rfl, h1, h2⟩, h3⟩
theorem lfB {va nx mr la : Nat} {ms : List Msg} (h : va ≤ 9 ∧ nx ≤ 9 ∧ mr ≤ 9 ∧ la ≤ 9) : FitB ⟨va, nx, mr, la, ms⟩ := ⟨by show va ≤ _; omega, by show nx ≤ _; omega, by show mr ≤ _; omega, by show la ≤ _; omega⟩
theorem i64_zero : I64 0 := by unfold I64; omega
theorem lfC {kd fl : Nat} {us : List Nat} {raw : ByteArray} (h : kd ≤ 9 ∧ fl ≤ 9 ∧ raw.size ≤ 9) : FitC ⟨kd, us, fl, 0, 0, 0, raw⟩ := ⟨by show kd ≤ _; omega, by show fl ≤ _; omega, i64_zero, i64_zero, i64_zero, by show raw.size ≤ _; omega⟩
theorem live1 (v : Value) (w : World) (ht : LTab w) (h : OutM w v []) : Calls Tryd.prog 6 #[.agg #[.int .u32 9, .int .u64 1, .int .u32 0, .int .u32 0, v], .agg #[.int .u8 1, .slice none 0 0, .int .u8 0, .int .i64 0, .int .i64 0, .int .i64 0, .string ⟨#[120]⟩]] w fun e w' => (∃ a c1 a' c2, e = .returned (.tuple #[.agg #[.int .u32 9, .int .u64 2, .int .u32 0, .int .u32 0, .slice a 1 c1], .slice a' 1 c2, .int .i64 0]) ∧ OutM w' (.slice a 1 c1) [lm1] ∧ OutT w' (.slice a' 1 c2) [1]) ∧ Below w.heap.size w w' :=
  bdo_lit lb0 lc1 lb1 [1] 0 lE1 v (.slice none 0 0) w ht h (RowG.nil _ _ _) (lfB (by decide)) (lfC (by decide))
theorem live2 (v : Value) (w : World) (ht : LTab w) (h : OutM w v [lm1]) : Calls Tryd.prog 6 #[.agg #[.int .u32 9, .int .u64 2, .int .u32 0, .int .u32 0, v], .agg #[.int .u8 1, .slice none 0 0, .int .u8 1, .int .i64 0, .int .i64 0, .int .i64 0, .string ⟨#[121]⟩]] w fun e w' => (∃ a c1 a' c2, e = .returned (.tuple #[.agg #[.int .u32 9, .int .u64 3, .int .u32 0, .int .u32 0, .slice a 2 c1], .slice a' 1 c2, .int .i64 0]) ∧ OutM w' (.slice a 2 c1) [lm1, lm2] ∧ OutT w' (.slice a' 1 c2) [2]) ∧ Below w.heap.size w w' :=
  bdo_lit lb1 lc2 lb2 [2] 0 lE2 v (.slice none 0 0) w ht h (RowG.nil _ _ _) (lfB (by decide)) (lfC (by decide))
theorem live3 (v vc : Value) (w : World) (ht : LTab w) (h : OutM w v [lm1, lm2]) (hu : Row32 w vc [1]) : Calls Tryd.prog 6 #[.agg #[.int .u32 9, .int .u64 3, .int .u32 0, .int .u32 0, v], .agg #[.int .u8 3, vc, .int .u8 8, .int .i64 0, .int .i64 0, .int .i64 0, .string ⟨#[]⟩]] w fun e w' => (∃ a c1 a' c2, e = .returned (.tuple #[.agg #[.int .u32 9, .int .u64 3, .int .u32 0, .int .u32 0, .slice a 2 c1], .slice a' 1 c2, .int .i64 0]) ∧ OutM w' (.slice a 2 c1) [lm1d, lm2] ∧ OutT w' (.slice a' 1 c2) [1]) ∧ Below w.heap.size w w' :=
  bdo_lit lb2 lc3 lb3 [1] 0 lE3 v vc w ht h hu (lfB (by decide)) (lfC (by decide))
theorem live4 (v vc : Value) (w : World) (ht : LTab w) (h : OutM w v [lm1d, lm2]) (hu : Row32 w vc [1, 2]) : Calls Tryd.prog 6 #[.agg #[.int .u32 9, .int .u64 3, .int .u32 0, .int .u32 0, v], .agg #[.int .u8 5, vc, .int .u8 0, .int .i64 0, .int .i64 0, .int .i64 0, .string ⟨#[]⟩]] w fun e w' => (∃ a c1 a' c2, e = .returned (.tuple #[.agg #[.int .u32 9, .int .u64 3, .int .u32 0, .int .u32 0, .slice a 1 c1], .slice a' 1 c2, .int .i64 0]) ∧ OutM w' (.slice a 1 c1) [lm2] ∧ OutT w' (.slice a' 1 c2) [1]) ∧ Below w.heap.size w w' :=
  bdo_lit lb3 lc4 lb4 [1] 0 lE4 v vc w ht h hu (lfB (by decide)) (lfC (by decide))
theorem live5 (v : Value) (w : World) (ht : LTab w) (h : OutM w v [lm2]) : Calls Tryd.prog 6 #[.agg #[.int .u32 9, .int .u64 3, .int .u32 0, .int .u32 0, v], .agg #[.int .u8 6, .slice none 0 0, .int .u8 0, .int .i64 0, .int .i64 0, .int .i64 0, .string ⟨#[]⟩]] w fun e w' => (∃ a c1 a' c2, e = .returned (.tuple #[.agg #[.int .u32 9, .int .u64 3, .int .u32 0, .int .u32 2, .slice a 1 c1], .slice a' 0 c2, .int .i64 0]) ∧ OutM w' (.slice a 1 c1) [lm2] ∧ OutT w' (.slice a' 0 c2) []) ∧ Below w.heap.size w w' :=
  bdo_lit lb4 lc5 lb5 [] 0 lE5 v (.slice none 0 0) w ht h (RowG.nil _ _ _) (lfB (by decide)) (lfC (by decide))
theorem live6 (v vc : Value) (w : World) (ht : LTab w) (h : OutM w v [lm2]) (hu : Row32 w vc [1]) : Calls Tryd.prog 6 #[.agg #[.int .u32 9, .int .u64 3, .int .u32 0, .int .u32 2, v], .agg #[.int .u8 2, vc, .int .u8 0, .int .i64 0, .int .i64 0, .int .i64 0, .string ⟨#[]⟩]] w fun e w' => (∃ a c1 a' c2, e = .returned (.tuple #[.agg #[.int .u32 9, .int .u64 3, .int .u32 0, .int .u32 2, .slice a 1 c1], .slice a' 0 c2, .int .i64 3]) ∧ OutM w' (.slice a 1 c1) [lm2] ∧ OutT w' (.slice a' 0 c2) []) ∧ Below w.heap.size w w' :=
  bdo_lit lb5 lc6 lb5 [] 3 lE6 v vc w ht h hu (lfB (by decide)) (lfC (by decide))
theorem liveP (v : Value) (w : World) (ht : LTab w) (h : OutM w v [lm2]) : Calls Tryd.prog 21 #[.agg #[.int .u32 9, .int .u64 3, .int .u32 0, .int .u32 0, v], .int .u32 2] w fun e w' => e = .returned (.tuple #[.int .i64 1, .int .i64 0]) ∧ Below w.heap.size w w' := by
  have := place_any lb4 v 2 w ht h.row (lfB (by decide)) (by decide)
  rw [lP.1, lP.2.1] at this
  exact this
theorem liveF (v : Value) (w : World) (ht : LTab w) (h : OutM w v [lm2]) : Calls Tryd.prog 17 #[.agg #[.int .u32 9, .int .u64 3, .int .u32 0, .int .u32 0, v], .int .u32 2] w fun e w' => e = .returned (.tuple #[.agg #[.int .u32 2, .int .u8 1, .int .i64 0, .int .i64 0, .int .i64 0, .string ⟨#[121]⟩], .int .i64 0]) ∧ Below w.heap.size w w' := by
  have := bfind_any lb4 v 2 w ht h.row (lfB (by decide)) (by decide)
  rw [lP.2.1, lP.2.2] at this
  exact this
theorem liveU (v : Value) (w : World) (ht : LTab w) (h : OutM w v [lm2]) : Calls Tryd.prog 19 #[.agg #[.int .u32 9, .int .u64 3, .int .u32 0, .int .u32 0, v]] w fun e w' => (∃ a c, e = .returned (.tuple #[.slice a 1 c, .int .i64 0]) ∧ OutT w' (.slice a 1 c) [2]) ∧ Below w.heap.size w w' := by
  have := uids_any lb4 v w ht h.row (lfB (by decide))
  rw [lU.1, lU.2] at this
  refine this.mono ?_
  rintro e w' ⟨⟨v', rfl, h1⟩, h2⟩
  obtain ⟨a, c, rfl, _⟩ := own_sliceG h1.1
  exact ⟨⟨a, c, rfl, h1⟩, h2⟩
theorem liveR (v : Value) (w : World) (ht : LTab w) (h : OutM w v [lm2]) : Calls Tryd.prog 23 #[.agg #[.int .u32 9, .int .u64 3, .int .u32 0, .int .u32 2, v]] w fun e w' => (∃ a c, e = .returned (.tuple #[.slice a 1 c, .int .i64 0]) ∧ OutT w' (.slice a 1 c) [2]) ∧ Below w.heap.size w w' := by
  have := recent_any lb5 v w ht h.row (lfB (by decide))
  rw [lR.1, show lb5.mr = 0 from rfl, lR.2] at this
  refine this.mono ?_
  rintro e w' ⟨⟨v', rfl, h1⟩, h2⟩
  obtain ⟨a, c, rfl, _⟩ := own_sliceG h1.1
  exact ⟨⟨a, c, rfl, h1⟩, h2⟩
theorem liveC (v : Value) (w : World) (ht : LTab w) (h : OutM w v [lm2]) : Calls Tryd.prog 13 #[.agg #[.int .u32 9, .int .u64 3, .int .u32 0, .int .u32 2, v]] w fun e w' => e = .returned (.int .i64 0) ∧ Below w.heap.size w w' := by
  have := bcheck_any lb5 v w ht h.row (lfB (by decide))
  rw [lR.1] at this
  exact this
theorem liveG (w : World) (ht : LTab w) : Calls Tryd.prog 15 #[.agg #[.int .u8 0, .slice none 0 0, .int .u8 0, .int .i64 0, .int .i64 0, .int .i64 0, .string ⟨#[]⟩]] w fun e w' => e = .returned (.int .i64 2) ∧ Below w.heap.size w w' := by
  have := bright_any ⟨0, [], 0, 0, 0, 0, eB⟩ (.slice none 0 0) w ht (RowG.nil _ _ _) (lfC (by decide))
  rw [lC] at this
  exact this
theorem liveM9 (w : World) : Calls Tryd.prog 8 #[.int .u32 9] w fun e w' => e = .returned (.tuple #[.agg #[.int .u32 9, .int .u64 1, .int .u32 0, .int .u32 0, .slice none 0 0], .int .i64 0]) ∧ Below w.heap.size w w' := bmake_any 9 w
theorem liveM0 (w : World) : Calls Tryd.prog 8 #[.int .u32 0] w fun e w' => e = .returned (.tuple #[.agg #[.int .u32 0, .int .u64 0, .int .u32 0, .int .u32 0, .slice none 0 0], .int .i64 1]) ∧ Below w.heap.size w w' := bmake_any 0 w
theorem blk_five {w : World} {B t : Nat} {x0 x1 x2 x3 x4 : Value} (h : Blk w B t #[x0, x1, x2, x3, x4]) (u0 u1 u2 u3 u4 : Value) : Blk (((((w.setCell ⟨B, 0, none⟩ u0).setCell ⟨B, 1, none⟩ u1).setCell ⟨B, 2, none⟩ u2).setCell ⟨B, 3, none⟩ u3).setCell ⟨B, 4, none⟩ u4) B t #[u0, u1, u2, u3, u4] :=
  ((((h.set 0 u0).set 1 u1).set 2 u2).set 3 u3).set 4 u4
theorem lit32 (W : World) (l : List Nat) (cs : Array Value) (he : cs.toList = flatG cells32 l) (hl : cs.size = l.length) (hn : l.length ≤ 9) (hf : ∀ x ∈ l, x ≤ 4294967295) : Row32 (W.alloc (.cells cs 22)) (.slice (some ⟨W.heap.size, 0, none⟩) l.length l.length) l := by
  have h := World.ownsRow_lit (e := 22) (size := 1) W cs l.length (Nat.zero_le _) (by unfold maxLen; omega) (by omega)
  rw [he] at h
  exact rowG_of_own cells32_len h (by omega) hf
end Go.Proofs.YthpjogfclklefaaDoor

/-
  What missivelaw19.lives does, over this seat's program: it answers true.
-/
set_option linter.unusedVariables false
set_option linter.unusedSimpArgs false
namespace Go.Proofs.YthpjogfclklefaaDoor
open Go.RowKit

theorem blk_two {w : World} {P Q t u : Nat} {cs ds : Array Value} (h : Blk w P t cs) (h' : Blk w Q u ds) (hne : t ≠ u) : P ≠ Q := by
  intro e
  subst e
  unfold Blk at *
  rw [h] at h'
  injection h' with h'
  injection h' with _ h2 _
  exact hne h2
theorem OutM.below {w w' : World} {v : Value} {l : List Msg} (h : OutM w v l) (hb : Below w.heap.size w w') : OutM w' v l := ⟨own_below h.1 hb, h.2⟩
theorem OutT.below {w w' : World} {v : Value} {l : List Nat} (h : OutT w v l) (hb : Below w.heap.size w w') : OutT w' v l := ⟨own_below h.1 hb, h.2⟩

set_option maxHeartbeats 8000000 in
set_option maxRecDepth 100000 in
theorem livesB_any (w : World) (ht : LTab w) : Calls Tryd.prog 10 #[] w fun e w' => e = .returned (.bool true) ∧ Below w.heap.size w w' := by
  have HT := hide (fun X (hX : Below w.heap.size w X) => ht.below hX)
  clear ht
  go_enter Tryd.func10, Tryd.ntmps10
  go_wp2_with fail
  refine (liveM9 _).mono ?_
  rintro e x0 ⟨rfl, b0⟩
  go_upto_region 2 with (fail)
  have hA : Below x0.heap.size x0 (x0.alloc (.cells #[.int .u32 9, .int .u64 1, .int .u32 0, .int .u32 0, .slice none 0 0] 26)) := (Below.refl _ x0).alloc (Nat.le_refl _) _
  have K := hide (Blk.new x0 26 #[.int .u32 9, .int .u64 1, .int .u32 0, .int .u32 0, .slice none 0 0])
  have BW := hide (belows' b0 hA)
  have hwB : w.heap.size ≤ x0.heap.size := b0.size
  generalize hV : x0.alloc (.cells #[.int .u32 9, .int .u64 1, .int .u32 0, .int .u32 0, .slice none 0 0] 26) = V1 at K BW hA ⊢
  generalize x0.heap.size = B1 at K hwB ⊢
  have OM := hide (OutM.nil V1)
  clear b0 hA hV
  have c0 := (unhide K).cell 0
  have c1 := (unhide K).cell 1
  have c2 := (unhide K).cell 2
  have c3 := (unhide K).cell 3
  have c4 := (unhide K).cell 4
  simp only [List.getElem?_toArray, List.getElem?_cons_succ, List.getElem?_cons_zero] at c0 c1 c2 c3 c4
  have f0 := (unhide K).frozen 0
  have f1 := (unhide K).frozen 1
  have f2 := (unhide K).frozen 2
  have f3 := (unhide K).frozen 3
  have f4 := (unhide K).frozen 4
  have K2 := K
  have BW2 := BW
  have OM2 := OM
  go_wp2_with fail
  refine (live1 _ _ (unhide HT _ (unhide BW2)) (unhide OM2)).mono ?_
  rintro e x1 ⟨⟨a1, p1, b1, q1, rfl, h1, h2⟩, hb⟩
  have K3 := hide ((unhide K2).below hb)
  have BW3 := hide (belows' (unhide BW2) hb)
  have OM3 := hide h1
  have T1 := hide h2
  clear h1 h2 hb K K2 BW BW2 OM OM2 c0 c1 c2 c3 c4 
  clear f0 f1 f2 f3 f4
  have r0 := (unhide K3).cell 0
  have r1 := (unhide K3).cell 1
  have r2 := (unhide K3).cell 2
  have r3 := (unhide K3).cell 3
  have r4 := (unhide K3).cell 4
  have f0 := (unhide K3).frozen 0
  have f1 := (unhide K3).frozen 1
  have f2 := (unhide K3).frozen 2
  have f3 := (unhide K3).frozen 3
  have f4 := (unhide K3).frozen 4
  simp only [List.getElem?_toArray, List.getElem?_cons_succ, List.getElem?_cons_zero] at r0 r1 r2 r3 r4
  go_upto_region 3 with (fail)
  have K := hide (blk_five (unhide K3) (.int .u32 9) (.int .u64 2) (.int .u32 0) (.int .u32 0) (.slice a1 1 p1))
  have OM := hide (outM5 (unhide OM3) (unhide K3) (by decide) (.int .u32 9) (.int .u64 2) (.int .u32 0) (.int .u32 0) (.slice a1 1 p1))
  have BW := hide (below5 (s := B1) (unhide BW3) (by omega) (.int .u32 9) (.int .u64 2) (.int .u32 0) (.int .u32 0) (.slice a1 1 p1))
  have T1 := hide (outT5 (unhide T1) (unhide K3) (by decide) (.int .u32 9) (.int .u64 2) (.int .u32 0) (.int .u32 0) (.slice a1 1 p1))
  clear K3 OM3 BW3 r0 r1 r2 r3 r4 f0 f1 f2 f3 f4
  generalize (((((x1.setCell ⟨B1, 0, none⟩ (.int .u32 9)).setCell ⟨B1, 1, none⟩ (.int .u64 2)).setCell ⟨B1, 2, none⟩ (.int .u32 0)).setCell ⟨B1, 3, none⟩ (.int .u32 0)).setCell ⟨B1, 4, none⟩ (.slice a1 1 p1)) = V2 at K OM BW T1 ⊢
  have c0 := (unhide K).cell 0
  have c1 := (unhide K).cell 1
  have c2 := (unhide K).cell 2
  have c3 := (unhide K).cell 3
  have c4 := (unhide K).cell 4
  simp only [List.getElem?_toArray, List.getElem?_cons_succ, List.getElem?_cons_zero] at c0 c1 c2 c3 c4
  have f0 := (unhide K).frozen 0
  have f1 := (unhide K).frozen 1
  have f2 := (unhide K).frozen 2
  have f3 := (unhide K).frozen 3
  have f4 := (unhide K).frozen 4
  have K2 := K
  have BW2 := BW
  have OM2 := OM
  go_wp2_with fail
  refine (live2 _ _ (unhide HT _ (unhide BW2)) (unhide OM2)).mono ?_
  rintro e x2 ⟨⟨a2, p2, b2, q2, rfl, h1, h2⟩, hb⟩
  have T1 := hide ((unhide T1).below hb)
  have K3 := hide ((unhide K2).below hb)
  have BW3 := hide (belows' (unhide BW2) hb)
  have OM3 := hide h1
  have T2 := hide h2
  clear h1 h2 hb K K2 BW BW2 OM OM2 c0 c1 c2 c3 c4 
  clear f0 f1 f2 f3 f4
  have r0 := (unhide K3).cell 0
  have r1 := (unhide K3).cell 1
  have r2 := (unhide K3).cell 2
  have r3 := (unhide K3).cell 3
  have r4 := (unhide K3).cell 4
  have f0 := (unhide K3).frozen 0
  have f1 := (unhide K3).frozen 1
  have f2 := (unhide K3).frozen 2
  have f3 := (unhide K3).frozen 3
  have f4 := (unhide K3).frozen 4
  simp only [List.getElem?_toArray, List.getElem?_cons_succ, List.getElem?_cons_zero] at r0 r1 r2 r3 r4
  go_upto_region 4 with (fail)
  have K := hide (blk_five (unhide K3) (.int .u32 9) (.int .u64 3) (.int .u32 0) (.int .u32 0) (.slice a2 2 p2))
  have OM := hide (outM5 (unhide OM3) (unhide K3) (by decide) (.int .u32 9) (.int .u64 3) (.int .u32 0) (.int .u32 0) (.slice a2 2 p2))
  have BW := hide (below5 (s := B1) (unhide BW3) (by omega) (.int .u32 9) (.int .u64 3) (.int .u32 0) (.int .u32 0) (.slice a2 2 p2))
  have T1 := hide (outT5 (unhide T1) (unhide K3) (by decide) (.int .u32 9) (.int .u64 3) (.int .u32 0) (.int .u32 0) (.slice a2 2 p2))
  have T2 := hide (outT5 (unhide T2) (unhide K3) (by decide) (.int .u32 9) (.int .u64 3) (.int .u32 0) (.int .u32 0) (.slice a2 2 p2))
  clear K3 OM3 BW3 r0 r1 r2 r3 r4 f0 f1 f2 f3 f4
  generalize (((((x2.setCell ⟨B1, 0, none⟩ (.int .u32 9)).setCell ⟨B1, 1, none⟩ (.int .u64 3)).setCell ⟨B1, 2, none⟩ (.int .u32 0)).setCell ⟨B1, 3, none⟩ (.int .u32 0)).setCell ⟨B1, 4, none⟩ (.slice a2 2 p2)) = V3 at K OM BW T1 T2 ⊢
  have c0 := (unhide K).cell 0
  have c1 := (unhide K).cell 1
  have c2 := (unhide K).cell 2
  have c3 := (unhide K).cell 3
  have c4 := (unhide K).cell 4
  simp only [List.getElem?_toArray, List.getElem?_cons_succ, List.getElem?_cons_zero] at c0 c1 c2 c3 c4
  have f0 := (unhide K).frozen 0
  have f1 := (unhide K).frozen 1
  have f2 := (unhide K).frozen 2
  have f3 := (unhide K).frozen 3
  have f4 := (unhide K).frozen 4
  have hL : Below V3.heap.size V3 (V3.alloc (.cells #[.int .u32 1] 22)) := (Below.refl _ V3).alloc (Nat.le_refl _) _
  have RL := hide (lit32 V3 [1] #[.int .u32 1] rfl rfl (by decide) (by decide))
  have K2 := hide ((unhide K).below hL)
  have BW2 := hide (belows' (unhide BW) hL)
  have OM2 := hide ((unhide OM).below hL)
  have T1 := hide ((unhide T1).below hL)
  have T2 := hide ((unhide T2).below hL)
  go_wp2_with fail
  refine (live3 _ _ _ (unhide HT _ (unhide BW2)) (unhide OM2) (unhide RL)).mono ?_
  rintro e x3 ⟨⟨a3, p3, b3, q3, rfl, h1, h2⟩, hb⟩
  have T1 := hide ((unhide T1).below hb)
  have T2 := hide ((unhide T2).below hb)
  have K3 := hide ((unhide K2).below hb)
  have BW3 := hide (belows' (unhide BW2) hb)
  have OM3 := hide h1
  have T3 := hide h2
  clear hL RL
  clear h1 h2 hb K K2 BW BW2 OM OM2 c0 c1 c2 c3 c4 
  clear f0 f1 f2 f3 f4
  have r0 := (unhide K3).cell 0
  have r1 := (unhide K3).cell 1
  have r2 := (unhide K3).cell 2
  have r3 := (unhide K3).cell 3
  have r4 := (unhide K3).cell 4
  have f0 := (unhide K3).frozen 0
  have f1 := (unhide K3).frozen 1
  have f2 := (unhide K3).frozen 2
  have f3 := (unhide K3).frozen 3
  have f4 := (unhide K3).frozen 4
  simp only [List.getElem?_toArray, List.getElem?_cons_succ, List.getElem?_cons_zero] at r0 r1 r2 r3 r4
  go_upto_region 5 with (fail)
  have K := hide (blk_five (unhide K3) (.int .u32 9) (.int .u64 3) (.int .u32 0) (.int .u32 0) (.slice a3 2 p3))
  have OM := hide (outM5 (unhide OM3) (unhide K3) (by decide) (.int .u32 9) (.int .u64 3) (.int .u32 0) (.int .u32 0) (.slice a3 2 p3))
  have BW := hide (below5 (s := B1) (unhide BW3) (by omega) (.int .u32 9) (.int .u64 3) (.int .u32 0) (.int .u32 0) (.slice a3 2 p3))
  have T1 := hide (outT5 (unhide T1) (unhide K3) (by decide) (.int .u32 9) (.int .u64 3) (.int .u32 0) (.int .u32 0) (.slice a3 2 p3))
  have T2 := hide (outT5 (unhide T2) (unhide K3) (by decide) (.int .u32 9) (.int .u64 3) (.int .u32 0) (.int .u32 0) (.slice a3 2 p3))
  have T3 := hide (outT5 (unhide T3) (unhide K3) (by decide) (.int .u32 9) (.int .u64 3) (.int .u32 0) (.int .u32 0) (.slice a3 2 p3))
  clear K3 OM3 BW3 r0 r1 r2 r3 r4 f0 f1 f2 f3 f4
  generalize (((((x3.setCell ⟨B1, 0, none⟩ (.int .u32 9)).setCell ⟨B1, 1, none⟩ (.int .u64 3)).setCell ⟨B1, 2, none⟩ (.int .u32 0)).setCell ⟨B1, 3, none⟩ (.int .u32 0)).setCell ⟨B1, 4, none⟩ (.slice a3 2 p3)) = V4 at K OM BW T1 T2 T3 ⊢
  have c0 := (unhide K).cell 0
  have c1 := (unhide K).cell 1
  have c2 := (unhide K).cell 2
  have c3 := (unhide K).cell 3
  have c4 := (unhide K).cell 4
  simp only [List.getElem?_toArray, List.getElem?_cons_succ, List.getElem?_cons_zero] at c0 c1 c2 c3 c4
  have e0 := (unhide K).frozen 0
  have hL : Below V4.heap.size V4 (V4.alloc (.cells #[.int .u32 1, .int .u32 2] 22)) := (Below.refl _ V4).alloc (Nat.le_refl _) _
  have RL := hide (lit32 V4 [1, 2] #[.int .u32 1, .int .u32 2] rfl rfl (by decide) (by decide))
  have K2 := hide ((unhide K).below hL)
  have BW2 := hide (belows' (unhide BW) hL)
  have OM2 := hide ((unhide OM).below hL)
  have T1 := hide ((unhide T1).below hL)
  have T2 := hide ((unhide T2).below hL)
  have T3 := hide ((unhide T3).below hL)
  go_wp2_with fail
  refine (live4 _ _ _ (unhide HT _ (unhide BW2)) (unhide OM2) (unhide RL)).mono ?_
  rintro e x4 ⟨⟨a4, p4, b4, q4, rfl, h1, h2⟩, hb⟩
  have T1 := hide ((unhide T1).below hb)
  have T2 := hide ((unhide T2).below hb)
  have T3 := hide ((unhide T3).below hb)
  have K3 := hide ((unhide K2).below hb)
  have BW3 := hide (belows' (unhide BW2) hb)
  have OM3 := hide h1
  have T4 := hide h2
  clear hL RL
  clear h1 h2 hb K K2 BW BW2 OM OM2 c0 c1 c2 c3 c4 e0
  go_upto_region 6 with (fail)
  have hA : Below x4.heap.size x4 (x4.alloc (.cells #[.int .u32 9, .int .u64 3, .int .u32 0, .int .u32 0, .slice a4 1 p4] 26)) := (Below.refl _ x4).alloc (Nat.le_refl _) _
  have K := hide (Blk.new x4 26 #[.int .u32 9, .int .u64 3, .int .u32 0, .int .u32 0, .slice a4 1 p4])
  have OM := hide ((unhide OM3).below hA)
  have BW := hide (belows' (unhide BW3) hA)
  have hwB : w.heap.size ≤ x4.heap.size := (unhide BW3).size
  have T1 := hide ((unhide T1).below hA)
  have T2 := hide ((unhide T2).below hA)
  have T3 := hide ((unhide T3).below hA)
  have T4 := hide ((unhide T4).below hA)
  clear K3 OM3 BW3 hA
  generalize (x4.alloc (.cells #[.int .u32 9, .int .u64 3, .int .u32 0, .int .u32 0, .slice a4 1 p4] 26)) = V5 at K OM BW  T1 T2 T3 T4 ⊢
  generalize x4.heap.size = B5 at K hwB ⊢
  have c0 := (unhide K).cell 0
  have c1 := (unhide K).cell 1
  have c2 := (unhide K).cell 2
  have c3 := (unhide K).cell 3
  have c4 := (unhide K).cell 4
  simp only [List.getElem?_toArray, List.getElem?_cons_succ, List.getElem?_cons_zero] at c0 c1 c2 c3 c4
  go_wp2_with fail
  refine (liveP _ _ (unhide HT _ (unhide BW)) (unhide OM)).mono ?_
  rintro e y6 ⟨rfl, hb⟩
  have K := hide ((unhide K).below hb)
  have BW := hide (belows' (unhide BW) hb)
  have OM := hide ((unhide OM).below hb)
  have T1 := hide ((unhide T1).below hb)
  have T2 := hide ((unhide T2).below hb)
  have T3 := hide ((unhide T3).below hb)
  have T4 := hide ((unhide T4).below hb)
  clear hb c0 c1 c2 c3 c4
  have c0 := (unhide K).cell 0
  have c1 := (unhide K).cell 1
  have c2 := (unhide K).cell 2
  have c3 := (unhide K).cell 3
  have c4 := (unhide K).cell 4
  simp only [List.getElem?_toArray, List.getElem?_cons_succ, List.getElem?_cons_zero] at c0 c1 c2 c3 c4
  go_wp2_with fail
  refine (liveF _ _ (unhide HT _ (unhide BW)) (unhide OM)).mono ?_
  rintro e y7 ⟨rfl, hb⟩
  have K := hide ((unhide K).below hb)
  have BW := hide (belows' (unhide BW) hb)
  have OM := hide ((unhide OM).below hb)
  have T1 := hide ((unhide T1).below hb)
  have T2 := hide ((unhide T2).below hb)
  have T3 := hide ((unhide T3).below hb)
  have T4 := hide ((unhide T4).below hb)
  clear hb c0 c1 c2 c3 c4
  go_upto_region 8 with (fail)
  have hA : Below y7.heap.size y7 (y7.alloc (.cells #[.int .u32 2, .int .u8 1, .int .i64 0, .int .i64 0, .int .i64 0, .string ⟨#[121]⟩] 47)) := (Below.refl _ y7).alloc (Nat.le_refl _) _
  have KM := hide (Blk.new y7 47 #[.int .u32 2, .int .u8 1, .int .i64 0, .int .i64 0, .int .i64 0, .string ⟨#[121]⟩])
  have K := hide ((unhide K).below hA)
  have OM := hide ((unhide OM).below hA)
  have BW := hide (belows' (unhide BW) hA)
  have T1 := hide ((unhide T1).below hA)
  have T2 := hide ((unhide T2).below hA)
  have T3 := hide ((unhide T3).below hA)
  have T4 := hide ((unhide T4).below hA)
  clear hA
  generalize y7.alloc (.cells #[.int .u32 2, .int .u8 1, .int .i64 0, .int .i64 0, .int .i64 0, .string ⟨#[121]⟩] 47) = V8 at K OM BW KM T1 T2 T3 T4 ⊢
  generalize y7.heap.size = BM at KM ⊢
  have c0 := (unhide K).cell 0
  have c1 := (unhide K).cell 1
  have c2 := (unhide K).cell 2
  have c3 := (unhide K).cell 3
  have c4 := (unhide K).cell 4
  simp only [List.getElem?_toArray, List.getElem?_cons_succ, List.getElem?_cons_zero] at c0 c1 c2 c3 c4
  go_wp2_with fail
  refine (liveU _ _ (unhide HT _ (unhide BW)) (unhide OM)).mono ?_
  rintro e y8 ⟨⟨au, cu, rfl, hu⟩, hb⟩
  have K := hide ((unhide K).below hb)
  have BW := hide (belows' (unhide BW) hb)
  have OM := hide ((unhide OM).below hb)
  have T1 := hide ((unhide T1).below hb)
  have T2 := hide ((unhide T2).below hb)
  have T3 := hide ((unhide T3).below hb)
  have T4 := hide ((unhide T4).below hb)
  have KM := hide ((unhide KM).below hb)
  have TU := hide hu
  clear hb hu c0 c1 c2 c3 c4
  have c0 := (unhide K).cell 0
  have c1 := (unhide K).cell 1
  have c2 := (unhide K).cell 2
  have c3 := (unhide K).cell 3
  have c4 := (unhide K).cell 4
  simp only [List.getElem?_toArray, List.getElem?_cons_succ, List.getElem?_cons_zero] at c0 c1 c2 c3 c4
  go_wp2_with fail
  refine (live5 _ _ (unhide HT _ (unhide BW)) (unhide OM)).mono ?_
  rintro e x9 ⟨⟨a9, p9, b9, q9, rfl, h1, h2⟩, hb⟩
  have T1 := hide ((unhide T1).below hb)
  have T2 := hide ((unhide T2).below hb)
  have T3 := hide ((unhide T3).below hb)
  have T4 := hide ((unhide T4).below hb)
  have TU := hide ((unhide TU).below hb)
  have KM := hide ((unhide KM).below hb)
  have K3 := hide ((unhide K).below hb)
  have BW3 := hide (belows' (unhide BW) hb)
  have OM3 := hide h1
  clear h1 h2 hb K BW OM c0 c1 c2 c3 c4
  have r0 := (unhide K3).cell 0
  have r1 := (unhide K3).cell 1
  have r2 := (unhide K3).cell 2
  have r3 := (unhide K3).cell 3
  have r4 := (unhide K3).cell 4
  have f0 := (unhide K3).frozen 0
  have f1 := (unhide K3).frozen 1
  have f2 := (unhide K3).frozen 2
  have f3 := (unhide K3).frozen 3
  have f4 := (unhide K3).frozen 4
  simp only [List.getElem?_toArray, List.getElem?_cons_succ, List.getElem?_cons_zero] at r0 r1 r2 r3 r4
  go_upto_region 10 with (fail)
  have K := hide (blk_five (unhide K3) (.int .u32 9) (.int .u64 3) (.int .u32 0) (.int .u32 2) (.slice a9 1 p9))
  have OM := hide (outM5 (unhide OM3) (unhide K3) (by decide) (.int .u32 9) (.int .u64 3) (.int .u32 0) (.int .u32 2) (.slice a9 1 p9))
  have BW := hide (below5 (s := B5) (unhide BW3) (by omega) (.int .u32 9) (.int .u64 3) (.int .u32 0) (.int .u32 2) (.slice a9 1 p9))
  have hMB : BM ≠ B5 := fun e => blk_two (unhide KM) (unhide K3) (by decide) e
  have KM := hide (blk5 (unhide KM) hMB (.int .u32 9) (.int .u64 3) (.int .u32 0) (.int .u32 2) (.slice a9 1 p9))
  have T1 := hide (outT5 (unhide T1) (unhide K3) (by decide) (.int .u32 9) (.int .u64 3) (.int .u32 0) (.int .u32 2) (.slice a9 1 p9))
  have T2 := hide (outT5 (unhide T2) (unhide K3) (by decide) (.int .u32 9) (.int .u64 3) (.int .u32 0) (.int .u32 2) (.slice a9 1 p9))
  have T3 := hide (outT5 (unhide T3) (unhide K3) (by decide) (.int .u32 9) (.int .u64 3) (.int .u32 0) (.int .u32 2) (.slice a9 1 p9))
  have T4 := hide (outT5 (unhide T4) (unhide K3) (by decide) (.int .u32 9) (.int .u64 3) (.int .u32 0) (.int .u32 2) (.slice a9 1 p9))
  have TU := hide (outT5 (unhide TU) (unhide K3) (by decide) (.int .u32 9) (.int .u64 3) (.int .u32 0) (.int .u32 2) (.slice a9 1 p9))
  clear K3 OM3 BW3 r0 r1 r2 r3 r4 f0 f1 f2 f3 f4
  generalize (((((x9.setCell ⟨B5, 0, none⟩ (.int .u32 9)).setCell ⟨B5, 1, none⟩ (.int .u64 3)).setCell ⟨B5, 2, none⟩ (.int .u32 0)).setCell ⟨B5, 3, none⟩ (.int .u32 2)).setCell ⟨B5, 4, none⟩ (.slice a9 1 p9)) = V10 at K OM BW KM T1 T2 T3 T4 TU ⊢
  have c0 := (unhide K).cell 0
  have c1 := (unhide K).cell 1
  have c2 := (unhide K).cell 2
  have c3 := (unhide K).cell 3
  have c4 := (unhide K).cell 4
  simp only [List.getElem?_toArray, List.getElem?_cons_succ, List.getElem?_cons_zero] at c0 c1 c2 c3 c4
  go_wp2_with fail
  refine (liveR _ _ (unhide HT _ (unhide BW)) (unhide OM)).mono ?_
  rintro e y10 ⟨⟨ar, cr, rfl, hu⟩, hb⟩
  have K := hide ((unhide K).below hb)
  have BW := hide (belows' (unhide BW) hb)
  have OM := hide ((unhide OM).below hb)
  have T1 := hide ((unhide T1).below hb)
  have T2 := hide ((unhide T2).below hb)
  have T3 := hide ((unhide T3).below hb)
  have T4 := hide ((unhide T4).below hb)
  have TU := hide ((unhide TU).below hb)
  have KM := hide ((unhide KM).below hb)
  have TR := hide hu
  clear hb hu c0 c1 c2 c3 c4
  have c0 := (unhide K).cell 0
  have c1 := (unhide K).cell 1
  have c2 := (unhide K).cell 2
  have c3 := (unhide K).cell 3
  have c4 := (unhide K).cell 4
  simp only [List.getElem?_toArray, List.getElem?_cons_succ, List.getElem?_cons_zero] at c0 c1 c2 c3 c4
  have hL : Below y10.heap.size y10 (y10.alloc (.cells #[.int .u32 1] 22)) := (Below.refl _ y10).alloc (Nat.le_refl _) _
  have RL := hide (lit32 y10 [1] #[.int .u32 1] rfl rfl (by decide) (by decide))
  have K2 := hide ((unhide K).below hL)
  have BW2 := hide (belows' (unhide BW) hL)
  have OM2 := hide ((unhide OM).below hL)
  have T1 := hide ((unhide T1).below hL)
  have T2 := hide ((unhide T2).below hL)
  have T3 := hide ((unhide T3).below hL)
  have T4 := hide ((unhide T4).below hL)
  have TU := hide ((unhide TU).below hL)
  have TR := hide ((unhide TR).below hL)
  have KM := hide ((unhide KM).below hL)
  go_wp2_with fail
  refine (live6 _ _ _ (unhide HT _ (unhide BW2)) (unhide OM2) (unhide RL)).mono ?_
  rintro e x11 ⟨⟨a11, p11, b11, q11, rfl, h1, h2⟩, hb⟩
  have T1 := hide ((unhide T1).below hb)
  have T2 := hide ((unhide T2).below hb)
  have T3 := hide ((unhide T3).below hb)
  have T4 := hide ((unhide T4).below hb)
  have TU := hide ((unhide TU).below hb)
  have TR := hide ((unhide TR).below hb)
  have KM := hide ((unhide KM).below hb)
  have K := hide ((unhide K2).below hb)
  have BW := hide (belows' (unhide BW2) hb)
  have OM := hide ((unhide OM2).below hb)
  clear h1 h2 hb K2 BW2 OM2 hL RL c0 c1 c2 c3 c4
  go_upto_region 12 with (fail)
  have hA : Below x11.heap.size x11 (x11.alloc (.cells #[.int .u32 9, .int .u64 3, .int .u32 0, .int .u32 2, .slice a11 1 p11] 26)) := (Below.refl _ x11).alloc (Nat.le_refl _) _
  have K := hide ((unhide K).below hA)
  have OM := hide ((unhide OM).below hA)
  have BW := hide (belows' (unhide BW) hA)
  have T1 := hide ((unhide T1).below hA)
  have T2 := hide ((unhide T2).below hA)
  have T3 := hide ((unhide T3).below hA)
  have T4 := hide ((unhide T4).below hA)
  have TU := hide ((unhide TU).below hA)
  have TR := hide ((unhide TR).below hA)
  have KM := hide ((unhide KM).below hA)
  clear hA
  generalize x11.alloc (.cells #[.int .u32 9, .int .u64 3, .int .u32 0, .int .u32 2, .slice a11 1 p11] 26) = V12 at K OM BW KM T1 T2 T3 T4 TU TR ⊢
  generalize x11.heap.size = B12
  go_wp2_with fail
  refine (liveM0 _).mono ?_
  rintro e x12 ⟨rfl, hb⟩
  have T1 := hide ((unhide T1).below hb)
  have T2 := hide ((unhide T2).below hb)
  have T3 := hide ((unhide T3).below hb)
  have T4 := hide ((unhide T4).below hb)
  have TU := hide ((unhide TU).below hb)
  have TR := hide ((unhide TR).below hb)
  have KM := hide ((unhide KM).below hb)
  have K := hide ((unhide K).below hb)
  have BW := hide (belows' (unhide BW) hb)
  have OM := hide ((unhide OM).below hb)
  clear hb
  go_upto_region 13 with (fail)
  have hA : Below x12.heap.size x12 (x12.alloc (.cells #[.int .u32 0, .int .u64 0, .int .u32 0, .int .u32 0, .slice none 0 0] 26)) := (Below.refl _ x12).alloc (Nat.le_refl _) _
  have K := hide ((unhide K).below hA)
  have OM := hide ((unhide OM).below hA)
  have BW := hide (belows' (unhide BW) hA)
  have T1 := hide ((unhide T1).below hA)
  have T2 := hide ((unhide T2).below hA)
  have T3 := hide ((unhide T3).below hA)
  have T4 := hide ((unhide T4).below hA)
  have TU := hide ((unhide TU).below hA)
  have TR := hide ((unhide TR).below hA)
  have KM := hide ((unhide KM).below hA)
  clear hA
  generalize x12.alloc (.cells #[.int .u32 0, .int .u64 0, .int .u32 0, .int .u32 0, .slice none 0 0] 26) = V13 at K OM BW KM T1 T2 T3 T4 TU TR ⊢
  generalize x12.heap.size = B13
  apply wp_region_lit
  change wpList _ (List.toArray (_ :: _ :: _ :: _ :: _ :: _ :: _ :: _ :: _ :: _ :: _ :: _ :: _ :: _ :: _ :: _ :: _ :: _ :: _ :: _ :: _ :: _ :: _ :: _ :: _ :: _ :: _ :: _ :: _ :: _ :: _ :: _ :: _ :: _ :: _ :: _ :: _ :: _ :: _ :: _ :: _ :: _ :: _ :: _ :: _ :: _ :: _ :: _ :: _ :: _ :: _ :: _ :: _ :: _ :: _ :: _ :: _ :: _ :: _ :: _ :: _ :: _ :: _ :: _ :: _ :: _ :: _ :: _ :: _ :: _ :: _ :: _ :: _ :: _ :: _ :: _ :: _ :: _ :: _ :: _ :: _ :: _ :: _ :: _ :: _ :: _ :: _ :: _ :: _ :: _ :: _ :: _ :: _ :: _ :: _ :: _ :: _ :: _ :: _ :: _ :: _ :: [])) _ (_ :: _ :: _ :: _ :: _ :: _ :: _ :: _ :: _ :: _ :: _ :: _ :: _ :: _ :: _ :: _ :: _ :: _ :: _ :: _ :: _ :: _ :: _ :: _ :: _ :: _ :: _ :: _ :: _ :: _ :: _ :: _ :: _ :: _ :: _ :: _ :: _ :: _ :: _ :: _ :: _ :: _ :: _ :: _ :: _ :: _ :: _ :: _ :: _ :: _ :: _ :: _ :: _ :: _ :: _ :: _ :: _ :: _ :: _ :: _ :: _ :: _ :: _ :: _ :: _ :: _ :: _ :: _ :: _ :: _ :: _ :: _ :: _ :: _ :: _ :: _ :: _ :: _ :: _ :: _ :: _ :: _ :: _ :: _ :: _ :: _ :: _ :: _ :: _ :: _ :: _ :: _ :: _ :: _ :: _ :: _ :: _ :: _ :: _ :: _ :: _ :: []) _ _
  have hL : Below V13.heap.size V13 (V13.alloc (.cells #[.int .u32 1] 22)) := (Below.refl _ V13).alloc (Nat.le_refl _) _
  have RL := hide (lit32 V13 [1] #[.int .u32 1] rfl rfl (by decide) (by decide))
  have T1 := hide ((unhide T1).below hL)
  have T2 := hide ((unhide T2).below hL)
  have T3 := hide ((unhide T3).below hL)
  have T4 := hide ((unhide T4).below hL)
  have TU := hide ((unhide TU).below hL)
  have TR := hide ((unhide TR).below hL)
  have KM := hide ((unhide KM).below hL)
  have K := hide ((unhide K).below hL)
  have OM := hide ((unhide OM).below hL)
  have BW := hide (belows' (unhide BW) hL)
  go_wp2_with fail
  refine (same32_any _ _ [1] [1] _ (unhide T1).row (unhide RL)).mono ?_
  rintro e s1 ⟨rfl, hb⟩
  rw [decide_eq_true (rfl : [1] = [1])]
  have T1 := hide ((unhide T1).below hb)
  have T2 := hide ((unhide T2).below hb)
  have T3 := hide ((unhide T3).below hb)
  have T4 := hide ((unhide T4).below hb)
  have TU := hide ((unhide TU).below hb)
  have TR := hide ((unhide TR).below hb)
  have KM := hide ((unhide KM).below hb)
  have K := hide ((unhide K).below hb)
  have OM := hide ((unhide OM).below hb)
  have BW := hide (belows' (unhide BW) hb)
  clear hb hL RL
  have hL : Below s1.heap.size s1 (s1.alloc (.cells #[.int .u32 2] 22)) := (Below.refl _ s1).alloc (Nat.le_refl _) _
  have RL := hide (lit32 s1 [2] #[.int .u32 2] rfl rfl (by decide) (by decide))
  have T1 := hide ((unhide T1).below hL)
  have T2 := hide ((unhide T2).below hL)
  have T3 := hide ((unhide T3).below hL)
  have T4 := hide ((unhide T4).below hL)
  have TU := hide ((unhide TU).below hL)
  have TR := hide ((unhide TR).below hL)
  have KM := hide ((unhide KM).below hL)
  have K := hide ((unhide K).below hL)
  have OM := hide ((unhide OM).below hL)
  have BW := hide (belows' (unhide BW) hL)
  go_wp2_with fail
  refine (same32_any _ _ [2] [2] _ (unhide T2).row (unhide RL)).mono ?_
  rintro e s2 ⟨rfl, hb⟩
  rw [decide_eq_true (rfl : [2] = [2])]
  have T1 := hide ((unhide T1).below hb)
  have T2 := hide ((unhide T2).below hb)
  have T3 := hide ((unhide T3).below hb)
  have T4 := hide ((unhide T4).below hb)
  have TU := hide ((unhide TU).below hb)
  have TR := hide ((unhide TR).below hb)
  have KM := hide ((unhide KM).below hb)
  have K := hide ((unhide K).below hb)
  have OM := hide ((unhide OM).below hb)
  have BW := hide (belows' (unhide BW) hb)
  clear hb hL RL
  have hL : Below s2.heap.size s2 (s2.alloc (.cells #[.int .u32 1] 22)) := (Below.refl _ s2).alloc (Nat.le_refl _) _
  have RL := hide (lit32 s2 [1] #[.int .u32 1] rfl rfl (by decide) (by decide))
  have T1 := hide ((unhide T1).below hL)
  have T2 := hide ((unhide T2).below hL)
  have T3 := hide ((unhide T3).below hL)
  have T4 := hide ((unhide T4).below hL)
  have TU := hide ((unhide TU).below hL)
  have TR := hide ((unhide TR).below hL)
  have KM := hide ((unhide KM).below hL)
  have K := hide ((unhide K).below hL)
  have OM := hide ((unhide OM).below hL)
  have BW := hide (belows' (unhide BW) hL)
  go_wp2_with fail
  refine (same32_any _ _ [1] [1] _ (unhide T4).row (unhide RL)).mono ?_
  rintro e s3 ⟨rfl, hb⟩
  rw [decide_eq_true (rfl : [1] = [1])]
  have T1 := hide ((unhide T1).below hb)
  have T2 := hide ((unhide T2).below hb)
  have T3 := hide ((unhide T3).below hb)
  have T4 := hide ((unhide T4).below hb)
  have TU := hide ((unhide TU).below hb)
  have TR := hide ((unhide TR).below hb)
  have KM := hide ((unhide KM).below hb)
  have K := hide ((unhide K).below hb)
  have OM := hide ((unhide OM).below hb)
  have BW := hide (belows' (unhide BW) hb)
  clear hb hL RL
  have m1 := (unhide KM).cell 1
  have m5 := (unhide KM).cell 5
  simp only [List.getElem?_toArray, List.getElem?_cons_succ, List.getElem?_cons_zero] at m1 m5
  have hKM := (unhide KM).lt
  have hL : Below s3.heap.size s3 (s3.alloc (.cells #[.int .u32 2] 22)) := (Below.refl _ s3).alloc (Nat.le_refl _) _
  have RL := hide (lit32 s3 [2] #[.int .u32 2] rfl rfl (by decide) (by decide))
  have T1 := hide ((unhide T1).below hL)
  have T2 := hide ((unhide T2).below hL)
  have T3 := hide ((unhide T3).below hL)
  have T4 := hide ((unhide T4).below hL)
  have TU := hide ((unhide TU).below hL)
  have TR := hide ((unhide TR).below hL)
  have KM := hide ((unhide KM).below hL)
  have K := hide ((unhide K).below hL)
  have OM := hide ((unhide OM).below hL)
  have BW := hide (belows' (unhide BW) hL)
  go_wp2_with fail
  refine (same32_any _ _ [2] [2] _ (unhide TU).row (unhide RL)).mono ?_
  rintro e s4 ⟨rfl, hb⟩
  rw [decide_eq_true (rfl : [2] = [2])]
  have T1 := hide ((unhide T1).below hb)
  have T2 := hide ((unhide T2).below hb)
  have T3 := hide ((unhide T3).below hb)
  have T4 := hide ((unhide T4).below hb)
  have TU := hide ((unhide TU).below hb)
  have TR := hide ((unhide TR).below hb)
  have KM := hide ((unhide KM).below hb)
  have K := hide ((unhide K).below hb)
  have OM := hide ((unhide OM).below hb)
  have BW := hide (belows' (unhide BW) hb)
  clear hb hL RL
  have c0 := (unhide K).cell 0
  have c1 := (unhide K).cell 1
  have c2 := (unhide K).cell 2
  have c3 := (unhide K).cell 3
  have c4 := (unhide K).cell 4
  simp only [List.getElem?_toArray, List.getElem?_cons_succ, List.getElem?_cons_zero] at c0 c1 c2 c3 c4
  have hK := (unhide K).lt
  have hL : Below s4.heap.size s4 (s4.alloc (.cells #[.int .u32 2] 22)) := (Below.refl _ s4).alloc (Nat.le_refl _) _
  have RL := hide (lit32 s4 [2] #[.int .u32 2] rfl rfl (by decide) (by decide))
  have T1 := hide ((unhide T1).below hL)
  have T2 := hide ((unhide T2).below hL)
  have T3 := hide ((unhide T3).below hL)
  have T4 := hide ((unhide T4).below hL)
  have TU := hide ((unhide TU).below hL)
  have TR := hide ((unhide TR).below hL)
  have KM := hide ((unhide KM).below hL)
  have K := hide ((unhide K).below hL)
  have OM := hide ((unhide OM).below hL)
  have BW := hide (belows' (unhide BW) hL)
  go_wp2_with fail
  refine (same32_any _ _ [2] [2] _ (unhide TR).row (unhide RL)).mono ?_
  rintro e s5 ⟨rfl, hb⟩
  rw [decide_eq_true (rfl : [2] = [2])]
  have T1 := hide ((unhide T1).below hb)
  have T2 := hide ((unhide T2).below hb)
  have T3 := hide ((unhide T3).below hb)
  have T4 := hide ((unhide T4).below hb)
  have TU := hide ((unhide TU).below hb)
  have TR := hide ((unhide TR).below hb)
  have KM := hide ((unhide KM).below hb)
  have K := hide ((unhide K).below hb)
  have OM := hide ((unhide OM).below hb)
  have BW := hide (belows' (unhide BW) hb)
  clear hb hL RL
  clear c0 c1 c2 c3 c4
  have c0 := (unhide K).cell 0
  have c1 := (unhide K).cell 1
  have c2 := (unhide K).cell 2
  have c3 := (unhide K).cell 3
  have c4 := (unhide K).cell 4
  simp only [List.getElem?_toArray, List.getElem?_cons_succ, List.getElem?_cons_zero] at c0 c1 c2 c3 c4
  go_wp2_with fail
  refine (liveC _ _ (unhide HT _ (unhide BW)) (unhide OM)).mono ?_
  rintro e z1 ⟨rfl, hb⟩
  have BW := hide (belows' (unhide BW) hb)
  clear hb
  go_wp2_with fail
  refine (liveG _ (unhide HT _ (unhide BW))).mono ?_
  rintro e z2 ⟨rfl, hb⟩
  have BW := hide (belows' (unhide BW) hb)
  clear hb
  go_wp2
  go_ret
  exact ⟨rfl, unhide BW⟩
end Go.Proofs.YthpjogfclklefaaDoor

/-
  What marking one mail does to a box (plain mathematics).
-/
set_option linter.unusedVariables false
set_option linter.unusedSimpArgs false
namespace Go.Proofs.YthpjogfclklefaaDoor
open Go.RowKit

/-- A mail but for its flags. -/
def SameBut (g : Msg → Msg) : Prop := ∀ m, (g m).uid = m.uid ∧ (g m).dy = m.dy ∧ (g m).sc = m.sc ∧ (g m).zn = m.zn ∧ (g m).raw = m.raw
theorem mailsOk_map {g : Msg → Msg} (hg : SameBut g) {nx : Nat} : ∀ {le : Nat} {l : List Msg}, (∀ m ∈ l, m.fl ≤ 31 → (g m).fl ≤ 31) → mailsOk nx le l = true → mailsOk nx le (l.map g) = true
  | _, [], _, _ => rfl
  | le, m :: r, hf, h => by
    simp only [mailsOk, Bool.and_eq_true, decide_eq_true_eq, List.map_cons] at h ⊢
    obtain ⟨⟨⟨h1, h2⟩, h3, h4, h5⟩, h6⟩ := h
    obtain ⟨e1, e2, e3, e4, e5⟩ := hg m
    rw [e1, e2, e3, e4, e5]
    exact ⟨⟨⟨h1, h2⟩, hf m (by simp) h3, h4, h5⟩, mailsOk_map hg (fun x hx => hf x (by simp [hx])) h6⟩
theorem uidsM_map {g : Msg → Msg} (hg : SameBut g) (l : List Msg) : uidsM (l.map g) = uidsM l := by
  unfold uidsM
  rw [List.map_map]
  exact List.map_congr_left (fun m _ => (hg m).1)
def mapB (g : Msg → Msg) (b : Bx) : Bx := ⟨b.va, b.nx, b.mr, b.la, b.ms.map g⟩
theorem okB_map {g : Msg → Msg} (hg : SameBut g) {b : Bx} (hf : ∀ m ∈ b.ms, m.fl ≤ 31 → (g m).fl ≤ 31) (h : okB b = true) : okB (mapB g b) = true := by
  unfold okB mapB at *
  simp only [Bool.and_eq_true] at h ⊢
  refine ⟨h.1, ?_, mailsOk_map hg hf h.2.2⟩
  rw [List.length_map]
  exact h.2.1
theorem findL_map {g : Msg → Msg} (hg : SameBut g) {l : List Msg} {u : Nat} (h : u ∈ uidsM l) : findL (l.map g) u = g (findL l u) := by
  unfold findL
  rw [List.find?_map]
  have e : (fun m : Msg => m.uid == u) ∘ g = fun m => m.uid == u := by
    funext m
    show ((g m).uid == u) = _
    rw [(hg m).1]
  rw [e]
  cases hh : l.find? (fun m => m.uid == u) with
  | some m => rfl
  | none =>
    exfalso
    obtain ⟨m, hm, hu⟩ := List.mem_map.1 h
    have := List.find?_eq_none.1 hh m hm
    simp [hu] at this
theorem findL_mem {l : List Msg} {u : Nat} (h : u ∈ uidsM l) : findL l u ∈ l ∧ (findL l u).uid = u := by
  unfold findL
  cases hh : l.find? (fun m => m.uid == u) with
  | some m =>
    have := List.find?_some hh
    exact ⟨List.mem_of_find?_eq_some hh, by simpa using this⟩
  | none =>
    exfalso
    obtain ⟨m, hm, hu⟩ := List.mem_map.1 h
    have := List.find?_eq_none.1 hh m hm
    simp [hu] at this
theorem markM_but (c : Chg) : SameBut (markM c) := by
  intro m
  unfold markM mkM
  split <;> exact ⟨rfl, rfl, rfl, rfl, rfl⟩
theorem bits_a : ∀ h f : Nat, h ≤ 31 → f ≤ 31 → h ||| f ≤ 31 ∧ (h ||| f) &&& f = f ∧ ((h ||| f) &&& (255 - f)) ≤ 31 ∧ ((h ||| f) &&& (255 - f)) &&& f = 0 := by
  have key : ∀ h f : Fin 32, h.val ||| f.val ≤ 31 ∧ (h.val ||| f.val) &&& f.val = f.val ∧ ((h.val ||| f.val) &&& (255 - f.val)) ≤ 31 ∧ ((h.val ||| f.val) &&& (255 - f.val)) &&& f.val = 0 := by decide +kernel
  intro h f hh hf
  exact key ⟨h, by omega⟩ ⟨f, by omega⟩
theorem bits_b : ∀ h f : Nat, h ≤ 31 → f ≤ 31 → h &&& (255 - f) ≤ 31 := by
  intro h f hh hf
  exact Nat.le_trans Nat.and_le_left hh
def cAdd (u f : Nat) : Chg := ⟨3, [u], f, 0, 0, 0, eB⟩
def cRem (u f : Nat) : Chg := ⟨4, [u], f, 0, 0, 0, eB⟩
theorem okC_one (k u f : Nat) (hk : k = 3 ∨ k = 4) : okC ⟨k, [u], f, 0, 0, 0, eB⟩ = decide (f ≤ 31) := by
  have h1 : chk [u] = 0 := by
    unfold chk
    rw [if_pos (by simp [Go.Proofs.Dct.rises]), if_pos (by simp)]
  unfold okC
  rw [if_neg (by show ¬ k = 1; omega)]
  have e1 : decide (2 ≤ k ∧ k ≤ 6) = true := decide_eq_true (by omega)
  have e2 : decide (k = 6 → ([u] : List Nat).length = 0) = true := decide_eq_true (by omega)
  have e3 : decide (k = 6 ∨ k = 5 → f = 0) = true := decide_eq_true (by omega)
  have e4 : sameT 0 0 0 0 0 0 = true := by decide
  have e5 : decide (eB.size = 0) = true := by decide
  simp only [e1, e2, e3, h1, e4, e5]
  simp
theorem do_one (k u f : Nat) (hk : k = 3 ∨ k = 4) {b : Bx} (hb : okB b = true) (hu : u ∈ uidsM b.ms) (hf : f ≤ 31) : doB b ⟨k, [u], f, 0, 0, 0, eB⟩ = mapB (markM ⟨k, [u], f, 0, 0, 0, eB⟩) b ∧ doE b ⟨k, [u], f, 0, 0, 0, eB⟩ = 0 := by
  have hc : okC ⟨k, [u], f, 0, 0, 0, eB⟩ = true := by rw [okC_one k u f hk, decide_eq_true hf]
  have ha : allIn b ⟨k, [u], f, 0, 0, 0, eB⟩ = true := by unfold allIn; simpa using hu
  constructor
  · unfold doB
    rw [if_pos hb, if_pos hc]
    unfold workB
    rw [if_neg (by show ¬ k = 1; omega), if_neg (by show ¬ k = 5; omega), if_neg (by show ¬ k = 6; omega)]
    unfold markB
    rw [if_pos ha]
    rfl
  · unfold doE
    rw [if_pos hb, if_pos hc]
    unfold workE
    rw [if_neg (by show ¬ k = 1; omega), if_neg (by show ¬ k = 5; omega), if_neg (by show ¬ k = 6; omega)]
    unfold markE
    rw [if_pos ha]
theorem do_none (k u f : Nat) (hk : k = 3 ∨ k = 4) {b : Bx} (hb : okB b = true) (hf : ¬ f ≤ 31) : doB b ⟨k, [u], f, 0, 0, 0, eB⟩ = b ∧ doE b ⟨k, [u], f, 0, 0, 0, eB⟩ = 2 := by
  have hc : ¬ okC ⟨k, [u], f, 0, 0, 0, eB⟩ = true := by rw [okC_one k u f hk, decide_eq_false hf]; simp
  unfold doB doE
  rw [if_pos hb, if_neg hc, if_pos hb, if_neg hc]
  exact ⟨rfl, rfl⟩
/-- Flags that are added, and removed, are as they are told. -/
theorem places_yes {b : Bx} {u f : Nat} (hb : okB b = true) (hu : u ∈ uidsM b.ms) (hf : f ≤ 31) :
    doE b (cAdd u f) = 0 ∧ doE (doB b (cAdd u f)) (cRem u f) = 0 ∧ okB (doB b (cAdd u f)) = true ∧ whyB (doB b (cAdd u f)) u = 0 ∧ whyB (doB (doB b (cAdd u f)) (cRem u f)) u = 0 ∧
      (findB (doB b (cAdd u f)) u).fl &&& f = f ∧ (findB (doB (doB b (cAdd u f)) (cRem u f)) u).fl &&& f = 0 ∧ (findB (doB (doB b (cAdd u f)) (cRem u f)) u).raw = (findB (doB b (cAdd u f)) u).raw ∧ (findB (doB b (cAdd u f)) u).fl ≤ 31 ∧ (findB (doB (doB b (cAdd u f)) (cRem u f)) u).fl ≤ 31 := by
  obtain ⟨d1, d2⟩ := do_one 3 u f (Or.inl rfl) hb hu hf
  have hA := markM_but (cAdd u f)
  have hR := markM_but (cRem u f)
  have fA : ∀ m ∈ b.ms, m.fl ≤ 31 → (markM (cAdd u f) m).fl ≤ 31 := by
    intro m _ hm
    unfold markM
    split
    · exact (bits_a m.fl f hm hf).1
    · exact hm
  have ok1 := okB_map hA fA hb
  have hu1 : u ∈ uidsM (mapB (markM (cAdd u f)) b).ms := by show u ∈ uidsM (b.ms.map _); rw [uidsM_map hA]; exact hu
  obtain ⟨d3, d4⟩ := do_one 4 u f (Or.inr rfl) ok1 hu1 hf
  have fR : ∀ m ∈ (mapB (markM (cAdd u f)) b).ms, m.fl ≤ 31 → (markM (cRem u f) m).fl ≤ 31 := by
    intro m _ hm
    unfold markM
    split
    · exact bits_b m.fl f hm hf
    · exact hm
  have ok2 := okB_map hR fR ok1
  have hu2 : u ∈ uidsM (mapB (markM (cRem u f)) (mapB (markM (cAdd u f)) b)).ms := by show u ∈ uidsM (List.map _ _); rw [uidsM_map hR]; exact hu1
  have e1 : doB b (cAdd u f) = mapB (markM (cAdd u f)) b := d1
  have e2 : doB (mapB (markM (cAdd u f)) b) (cRem u f) = mapB (markM (cRem u f)) (mapB (markM (cAdd u f)) b) := d3
  rw [e1, e2]
  obtain ⟨hm1, hm2⟩ := findL_mem hu
  have hfine := ((mailsOk_all (okB_mails hb)).1 _ hm1).2.2.1
  have f1 : findB (mapB (markM (cAdd u f)) b) u = mkM (cAdd u f) (findL b.ms u) := by
    unfold findB
    rw [if_pos ok1]
    show findL (b.ms.map _) u = _
    rw [findL_map hA hu]
    unfold markM
    rw [if_pos (by rw [hm2]; show u ∈ [u]; simp)]
  have f2 : findB (mapB (markM (cRem u f)) (mapB (markM (cAdd u f)) b)) u = mkM (cRem u f) (mkM (cAdd u f) (findL b.ms u)) := by
    unfold findB
    rw [if_pos ok2]
    show findL ((mapB (markM (cAdd u f)) b).ms.map _) u = _
    rw [findL_map hR hu1]
    have : findL (mapB (markM (cAdd u f)) b).ms u = mkM (cAdd u f) (findL b.ms u) := by
      have := f1; unfold findB at this; rw [if_pos ok1] at this; exact this
    rw [this]
    unfold markM
    rw [if_pos (by show (findL b.ms u).uid ∈ [u]; rw [hm2]; simp)]
  rw [f1, f2]
  have w1 : whyB (mapB (markM (cAdd u f)) b) u = 0 := by unfold whyB; rw [if_pos ok1, if_pos hu1]
  have w2 : whyB (mapB (markM (cRem u f)) (mapB (markM (cAdd u f)) b)) u = 0 := by unfold whyB; rw [if_pos ok2, if_pos hu2]
  have hb4 := bits_a (findL b.ms u).fl f hfine hf
  exact ⟨d2, d4, ok1, w1, w2, hb4.2.1, hb4.2.2.2, rfl, hb4.1, hb4.2.2.1⟩
theorem mapB_fit {g : Msg → Msg} {b : Bx} (h : FitB b) : FitB (mapB g b) := h
theorem doB_fit1 (k u f : Nat) (hk : k = 3 ∨ k = 4) {b : Bx} (h : FitB b) : FitB (doB b ⟨k, [u], f, 0, 0, 0, eB⟩) := by
  unfold doB
  split
  · split
    · unfold workB markB
      rw [if_neg (by show ¬ k = 1; omega), if_neg (by show ¬ k = 5; omega), if_neg (by show ¬ k = 6; omega)]
      split
      · exact h
      · exact h
    · exact h
  · exact ⟨by decide, by decide, by decide, by decide⟩
end Go.Proofs.YthpjogfclklefaaDoor

/-
  A change of some mails leaves all others as they were (plain mathematics).
-/
set_option linter.unusedVariables false
set_option linter.unusedSimpArgs false
namespace Go.Proofs.YthpjogfclklefaaDoor
open Go.RowKit

theorem mailsOk_mono {nx : Nat} : ∀ {le le' : Nat} {l : List Msg}, le' ≤ le → mailsOk nx le l = true → mailsOk nx le' l = true
  | _, _, [], _, _ => rfl
  | le, le', m :: r, hle, h => by
    simp only [mailsOk, Bool.and_eq_true, decide_eq_true_eq] at h ⊢
    exact ⟨⟨⟨by omega, h.1.1.2⟩, h.1.2⟩, h.2⟩
theorem mailsOk_filter (p : Msg → Bool) {nx : Nat} : ∀ {le : Nat} {l : List Msg}, mailsOk nx le l = true → mailsOk nx le (l.filter p) = true
  | _, [], _ => rfl
  | le, m :: r, h => by
    have h0 := h
    simp only [mailsOk, Bool.and_eq_true, decide_eq_true_eq] at h
    have ih := mailsOk_filter p h.2
    by_cases hp : p m = true
    · rw [List.filter_cons_of_pos hp]
      simp only [mailsOk, Bool.and_eq_true, decide_eq_true_eq]
      exact ⟨h.1, ih⟩
    · rw [List.filter_cons_of_neg hp]
      exact mailsOk_mono (by omega) ih
/-- The box behind a change of some mails. -/
theorem apart_box {b : Bx} {c : Chg} (he : doE b c = 0) (h1 : c.kd ≠ 1) :
    okB b = true ∧ okC c = true ∧ okB (doB b c) = true ∧ (doB b c).nx = b.nx ∧ (∀ n ∈ doT b c, n ∈ c.us) ∧ ∀ u, u ∉ c.us → findB (doB b c) u = findB b u ∧ whyB (doB b c) u = whyB b u := by
  have hb : okB b = true := by
    cases h : okB b with
    | true => rfl
    | false => unfold doE at he; rw [h] at he; simp at he
  have hc : okC c = true := by
    cases h : okC c with
    | true => rfl
    | false => unfold doE at he; rw [hb, h] at he; simp at he
  have eE : doE b c = workE b c := by unfold doE; rw [if_pos hb, if_pos hc]
  have eB' : doB b c = workB b c := by unfold doB; rw [if_pos hb, if_pos hc]
  have eT : doT b c = workT b c := by unfold doT; rw [if_pos hb, if_pos hc]
  rw [eB', eT]
  rw [eE] at he
  refine ⟨hb, hc, ?_⟩
  have hkey : ∀ (X : Bx), okB X = true → X.nx = b.nx → (∀ u, u ∉ c.us → (u ∈ uidsM X.ms ↔ u ∈ uidsM b.ms) ∧ findL X.ms u = findL b.ms u) → okB X = true ∧ X.nx = b.nx ∧ ∀ u, u ∉ c.us → findB X u = findB b u ∧ whyB X u = whyB b u := by
    intro X hX hx hu
    refine ⟨hX, hx, fun u hn => ?_⟩
    obtain ⟨q1, q2⟩ := hu u hn
    unfold findB whyB
    rw [if_pos hX, if_pos hb, if_pos hX, if_pos hb, q2]
    refine ⟨rfl, ?_⟩
    by_cases hin : u ∈ uidsM b.ms
    · rw [if_pos hin, if_pos (q1.2 hin)]
    · rw [if_neg hin, if_neg (fun h => hin (q1.1 h))]
  by_cases h5 : c.kd = 5
  · have e1 : workB b c = ⟨b.va, b.nx, b.mr, b.la, stayL c.us b.ms⟩ := by unfold workB; rw [if_neg h1, if_pos h5]
    have e2 : workT b c = goneL c.us b.ms := by unfold workT; rw [if_neg h1, if_pos h5]
    rw [e1, e2]
    have hok : okB ⟨b.va, b.nx, b.mr, b.la, stayL c.us b.ms⟩ = true := by
      have h := hb
      unfold okB at h ⊢
      simp only [Bool.and_eq_true, decide_eq_true_eq] at h ⊢
      exact ⟨h.1, by have := stayL_len c.us b.ms; omega, mailsOk_filter _ h.2.2⟩
    obtain ⟨k1, k2, k3⟩ := hkey _ hok rfl (fun u hn => by
      constructor
      · unfold uidsM stayL
        constructor
        · intro h
          obtain ⟨m, hm, hu⟩ := List.mem_map.1 h
          exact List.mem_map.2 ⟨m, (List.mem_filter.1 hm).1, hu⟩
        · intro h
          obtain ⟨m, hm, hu⟩ := List.mem_map.1 h
          refine List.mem_map.2 ⟨m, List.mem_filter.2 ⟨hm, ?_⟩, hu⟩
          unfold goneP
          rw [hu, decide_eq_false hn]
          rfl
      · unfold findL stayL
        rw [List.find?_filter]
        congr 2
        funext m
        cases hmu : (m.uid == u) with
        | false => simp
        | true =>
          have : m.uid = u := by simpa using hmu
          unfold goneP
          rw [this, decide_eq_false hn]
          simp)
    refine ⟨k1, k2, fun n hn => ?_, k3⟩
    unfold goneL uidsM at hn
    obtain ⟨m, hm, rfl⟩ := List.mem_map.1 hn
    have := (List.mem_filter.1 hm).2
    unfold goneP at this
    simp only [Bool.and_eq_true, decide_eq_true_eq] at this
    exact this.1
  · by_cases h6 : c.kd = 6
    · have e1 : workB b c = ⟨b.va, b.nx, b.la, b.nx - 1, b.ms⟩ := by unfold workB; rw [if_neg h1, if_neg h5, if_pos h6]
      have e2 : workT b c = [] := by unfold workT; rw [if_neg h1, if_neg h5, if_pos h6]
      rw [e1, e2]
      have hok : okB ⟨b.va, b.nx, b.la, b.nx - 1, b.ms⟩ = true := by
        have h := hb
        unfold okB at h ⊢
        simp only [Bool.and_eq_true, decide_eq_true_eq] at h ⊢
        exact ⟨by omega, h.2⟩
      obtain ⟨k1, k2, k3⟩ := hkey _ hok rfl (fun u hn => ⟨Iff.rfl, rfl⟩)
      exact ⟨k1, k2, (fun n hn => by cases hn), k3⟩
    · have hall : allIn b c = true := by
        cases h : allIn b c with
        | true => rfl
        | false => unfold workE markE at he; rw [if_neg h1, if_neg h5, if_neg h6, h] at he; simp at he
      have e1 : workB b c = mapB (markM c) b := by unfold workB markB; rw [if_neg h1, if_neg h5, if_neg h6, if_pos hall]; rfl
      have e2 : workT b c = c.us := by unfold workT markT; rw [if_neg h1, if_neg h5, if_neg h6, if_pos hall]
      rw [e1, e2]
      have hA := markM_but c
      have hcf : c.fl ≤ 31 := by
        unfold okC at hc
        rw [if_neg h1] at hc
        simp only [Bool.and_eq_true, decide_eq_true_eq] at hc
        exact hc.2.2.2.2.1
      have hok : okB (mapB (markM c) b) = true := okB_map hA (fun m _ hm => by
        unfold markM
        split
        · show markF c.kd m.fl c.fl ≤ 31
          unfold markF
          split
          · exact (bits_a m.fl c.fl hm hcf).1
          · split
            · exact bits_b m.fl c.fl hm hcf
            · exact hcf
        · exact hm) hb
      obtain ⟨k1, k2, k3⟩ := hkey _ hok rfl (fun u hn => by
        have hu := uidsM_map hA b.ms
        constructor
        · show u ∈ uidsM (b.ms.map (markM c)) ↔ _
          rw [hu]
        · show findL (b.ms.map (markM c)) u = _
          by_cases hin : u ∈ uidsM b.ms
          · rw [findL_map hA hin]
            unfold markM
            rw [if_neg (by rw [(findL_mem hin).2]; exact hn)]
          · rw [findL_none hin, findL_none (by rw [hu]; exact hin)])
      exact ⟨k1, k2, fun n hn => hn, k3⟩
theorem doB_fit {b : Bx} {c : Chg} (h : FitB b) : FitB (doB b c) := by
  unfold doB
  by_cases hb : okB b = true
  · rw [if_pos hb]
    by_cases hc : okC c = true
    · rw [if_pos hc]
      have hh := okB_head hb
      unfold workB
      split
      · unfold putB
        split
        · exact h
        · exact ⟨h.1, by show b.nx + 1 ≤ _; omega, h.2.2⟩
      · split
        · exact h
        · split
          · exact ⟨h.1, h.2.1, h.2.2.2, by show b.nx - 1 ≤ _; omega⟩
          · unfold markB
            split <;> exact h
    · rw [if_neg hc]; exact h
  · rw [if_neg hb]
    exact ⟨by decide, by decide, by decide, by decide⟩
end Go.Proofs.YthpjogfclklefaaDoor

/-
  Two mails that are one, compared; over this seat's program.
-/
set_option linter.unusedVariables false
set_option linter.unusedSimpArgs false
namespace Go.Proofs.YthpjogfclklefaaDoor
open Go.RowKit
theorem held_msg : Tryd.prog.stoodInHeld 47 = false := by kernel_rfl
theorem fields_msg : Tryd.prog.underlying 47 = some (.struct (Tryd.prog.fieldsOf 47)) := by
  unfold Program.fieldsOf; rw [Tryd.underlying47]
set_option maxHeartbeats 2000000 in
set_option maxRecDepth 100000 in
theorem neqM_same (u f : Int) (d s z : Int) (raw : ByteArray) (W : World) :
    (binOp .neq 47 (.agg #[.int .u32 u, .int .u8 f, .int .i64 d, .int .i64 s, .int .i64 z, .string raw]) (.agg #[.int .u32 u, .int .u8 f, .int .i64 d, .int .i64 s, .int .i64 z, .string raw])).run Tryd.prog W = .ok (.bool false) W := by
  have q : ∀ (k : Nat) (W : World), (Op.equalIn (k + 1 + 1) 31 (.agg #[.int .i64 d, .int .i64 s, .int .i64 z]) (.agg #[.int .i64 d, .int .i64 s, .int .i64 z])).run Tryd.prog W = .ok true W := by
    intro k W
    rw [run_equalIn_struct W (k + 1) _ _ _ fields_time held_time]
    simp only [Program.fieldsOf, Tryd.underlying31]
    have b1 : (d == d) = true := by simp
    have b2 : (s == s) = true := by simp
    have b3 : (z == z) = true := by simp
    go_simp
  rw [run_neq_struct, run_equalIn_struct W 9999 _ _ _ fields_msg held_msg]
  simp only [Program.fieldsOf, Tryd.underlying47]
  have b1 : (u == u) = true := by simp
  have b2 : (f == f) = true := by simp
  have b3 : (raw.toList == raw.toList) = true := by simp
  have q2 := q 9997
  go_simp
end Go.Proofs.YthpjogfclklefaaDoor

/-
  What missiveref19.Same does with two boxes that are one, over this seat's program; a change of a right box leaves it right.
-/
set_option linter.unusedVariables false
set_option linter.unusedSimpArgs false
namespace Go.Proofs.YthpjogfclklefaaDoor
open Go.RowKit

theorem mailsOk_next {nx : Nat} : ∀ {le : Nat} {l : List Msg}, mailsOk nx le l = true → mailsOk (nx + 1) le l = true
  | _, [], _ => rfl
  | le, m :: r, h => by
    simp only [mailsOk, Bool.and_eq_true, decide_eq_true_eq] at h ⊢
    exact ⟨⟨⟨h.1.1.1, by omega⟩, h.1.2⟩, mailsOk_next h.2⟩
theorem mailsOk_snoc {nx : Nat} {p : Msg} (hp : p.uid + 1 = nx) (hf : FineM p) : ∀ {le : Nat} {l : List Msg}, le ≤ p.uid → mailsOk p.uid le l = true → mailsOk nx le (l ++ [p]) = true
  | le, [], hle, _ => by
    show mailsOk nx le [p] = true
    simp only [mailsOk, Bool.and_eq_true, decide_eq_true_eq]
    exact ⟨⟨⟨hle, by omega⟩, hf.1, hf.2.1, hf.2.2⟩, trivial⟩
  | le, m :: r, hle, h => by
    simp only [mailsOk, Bool.and_eq_true, decide_eq_true_eq, List.cons_append] at h ⊢
    exact ⟨⟨⟨h.1.1.1, by omega⟩, h.1.2⟩, mailsOk_snoc hp hf (by omega) h.2⟩
/-- A change that is done: the box stays right; a mail that comes has the next number. -/
theorem never_yes {b : Bx} {c : Chg} (hb : okB b = true) (he : doE b c = 0) : okB (doB b c) = true ∧ (doB b c).va = b.va ∧ b.nx ≤ (doB b c).nx ∧ (c.kd = 1 → doT b c = [b.nx] ∧ (doB b c).nx = b.nx + 1 ∧ b.nx ≤ 4294967295) := by
  by_cases h1 : c.kd = 1
  · have hc : okC c = true := by
      cases h : okC c with
      | true => rfl
      | false => unfold doE at he; rw [hb, h] at he; simp at he
    have eE : doE b c = workE b c := by unfold doE; rw [if_pos hb, if_pos hc]
    rw [eE] at he
    have hful : ¬ fullB b = true := by
      intro h
      unfold workE putE at he
      rw [if_pos h1, if_pos h] at he
      omega
    have e1 : doB b c = ⟨b.va, b.nx + 1, b.mr, b.la, b.ms ++ [newM b c]⟩ := by
      unfold doB; rw [if_pos hb, if_pos hc]; unfold workB; rw [if_pos h1]; unfold putB; rw [if_neg hful]
    have e2 : doT b c = [b.nx] := by
      unfold doT; rw [if_pos hb, if_pos hc]; unfold workT; rw [if_pos h1]; unfold putT; rw [if_neg hful]
    rw [e1, e2]
    have hfb := hful
    unfold fullB at hfb
    simp only [Bool.or_eq_true, decide_eq_true_eq, not_or] at hfb
    have hh := okB_head hb
    have hl := okB_len hb
    have hfine : FineM (newM b c) := by
      unfold okC at hc
      rw [if_pos h1] at hc
      simp only [Bool.and_eq_true, decide_eq_true_eq] at hc
      exact ⟨hc.2.1, hc.2.2.2, hc.2.2.1⟩
    refine ⟨?_, rfl, Nat.le_succ _, fun _ => ⟨rfl, rfl, by omega⟩⟩
    unfold okB
    simp only [Bool.and_eq_true, decide_eq_true_eq]
    refine ⟨by omega, by rw [List.length_append, List.length_singleton]; omega, ?_⟩
    exact mailsOk_snoc (p := newM b c) rfl hfine (by show 1 ≤ b.nx; omega) (okB_mails hb)
  · obtain ⟨_, _, p1, p2, _, _⟩ := apart_box he h1
    refine ⟨p1, ?_, by omega, fun h => absurd h h1⟩
    have hc : okC c = true := by
      cases h : okC c with
      | true => rfl
      | false => unfold doE at he; rw [hb, h] at he; simp at he
    unfold doB
    rw [if_pos hb, if_pos hc]
    unfold workB
    rw [if_neg h1]
    split
    · rfl
    · split
      · rfl
      · unfold markB; split <;> rfl
/-- A change that is not done leaves the box as it was, and tells nothing. -/
theorem never_no {b : Bx} {c : Chg} (hb : okB b = true) (he : doE b c ≠ 0) : doB b c = b ∧ doT b c = [] := by
  cases hc : okC c with
  | false => unfold doB doT; rw [if_pos hb, if_pos hb, hc]; exact ⟨rfl, rfl⟩
  | true =>
    have eE : doE b c = workE b c := by unfold doE; rw [if_pos hb, if_pos hc]
    have eB' : doB b c = workB b c := by unfold doB; rw [if_pos hb, if_pos hc]
    have eT : doT b c = workT b c := by unfold doT; rw [if_pos hb, if_pos hc]
    rw [eB', eT]
    rw [eE] at he
    unfold workE at he
    unfold workB workT
    by_cases h1 : c.kd = 1
    · rw [if_pos h1] at he ⊢
      rw [if_pos h1]
      unfold putE at he
      by_cases hf : fullB b = true
      · unfold putB putT; rw [if_pos hf, if_pos hf]; exact ⟨rfl, rfl⟩
      · rw [if_neg hf] at he; omega
    · rw [if_neg h1] at he ⊢
      rw [if_neg h1]
      by_cases h5 : c.kd = 5
      · rw [if_pos h5] at he; omega
      · rw [if_neg h5] at he ⊢
        rw [if_neg h5]
        by_cases h6 : c.kd = 6
        · rw [if_pos h6] at he; omega
        · rw [if_neg h6] at he ⊢
          rw [if_neg h6]
          unfold markE at he
          cases ha : allIn b c with
          | true => rw [ha] at he; simp at he
          | false => unfold markB markT; rw [ha]; exact ⟨rfl, rfl⟩

set_option maxHeartbeats 8000000 in
set_option maxRecDepth 100000 in
theorem sameB_one (b : Bx) (v v' : Value) (w : World) (h : RowM w v b.ms) (h' : RowM w v' b.ms) :
    Calls Tryd.prog 11 #[bxV b v, bxV b v'] w fun e w' => e = .returned (.bool true) ∧ Below w.heap.size w w' := by
  have hb1 := ((Below.refl _ w).alloc (Nat.le_refl _) (Obj.cells (bxC b v) 26)).alloc (by simp) (Obj.cells (bxC b v') 26)
  have k0 := (Blk.new w 26 (bxC b v)).below ((Below.refl _ _).alloc (Nat.le_refl _) (Obj.cells (bxC b v') 26))
  have k1 := Blk.new (w.alloc (Obj.cells (bxC b v) 26)) 26 (bxC b v')
  rw [World.size_alloc] at k1
  have HR := hide (h.below hb1)
  have HR' := hide (h'.below hb1)
  have HA := hide hb1
  have K0 := hide k0
  have K1 := hide k1
  obtain ⟨a, cap, rfl, hl, _, _⟩ := h
  obtain ⟨a', cap', rfl, hl', _, _⟩ := h'
  clear hb1 k0 k1
  obtain ⟨va, nx, mr, la, ms⟩ := b
  simp only [bxV, bxC] at *
  obtain ⟨n, hnn⟩ : ∃ n, ms.length = n := ⟨_, rfl⟩
  rw [hnn] at HR HR' HA K0 K1 hl ⊢
  have HN := hide hnn
  clear hnn hl'
  have d0 : ((va : Int) != (va : Int)) = false := by simp
  have d1 : ((nx : Int) != (nx : Int)) = false := by simp
  have d2 : ((mr : Int) != (mr : Int)) = false := by simp
  have d3 : ((la : Int) != (la : Int)) = false := by simp
  have d4 : ((n : Int) != (n : Int)) = false := by simp
  go_enter Tryd.func11, Tryd.ntmps11
  go_wp2
  generalize hV : (w.alloc (Obj.cells #[.int .u32 (va : Int), .int .u64 (nx : Int), .int .u32 (mr : Int), .int .u32 (la : Int), .slice a n cap] 26)).alloc (Obj.cells #[.int .u32 (va : Int), .int .u64 (nx : Int), .int .u32 (mr : Int), .int .u32 (la : Int), .slice a' n cap'] 26) = V at HR HR' HA K0 K1 ⊢
  clear hV
  go_loopw [5, 44] (fun _ z wr => ∃ k q : Nat, z = .int .i64 k ∧ k ≤ n ∧ Hid (wr = V.drewN q)) (fun _ z _ => n - (intOf z).toNat)
  case atStart => exact ⟨0, 0, rfl, Nat.zero_le _, hide rfl⟩
  case round =>
    obtain ⟨k, q, rfl, hk, HW⟩ := hrel
    have hbw : Below V.heap.size V wr := by rw [unhide HW]; exact below_drewN (Below.refl _ _) q
    by_cases hlt : k < n
    · have hlt1 : (k : Int) < (n : Int) := by omega
      have hkl : k < ms.length := by rw [unhide HN]; exact hlt
      obtain ⟨g, off, rfl, hg, hft, c0, c1, c2, c3, c4, c5⟩ := RowM.mail (unhide HR) hbw hkl
      obtain ⟨g', off', rfl, hg', hft', e0, e1, e2, e3, e4, e5⟩ := RowM.mail (unhide HR') hbw hkl
      have p4 := ((unhide K0).below hbw).cell 4
      have q4 := ((unhide K1).below hbw).cell 4
      simp only [List.getElem?_toArray, List.getElem?_cons_succ, List.getElem?_cons_zero] at p4 q4
      clear hft hft' hbw
      generalize ms[k] = m at c0 c1 c2 c3 c4 c5 e0 e1 e2 e3 e4 e5
      obtain ⟨mu, mf, md, msc, mz, mraw⟩ := m
      simp only at c0 c1 c2 c3 c4 c5 e0 e1 e2 e3 e4 e5
      have hnq := fun W => neqM_same (mu : Int) (mf : Int) md msc mz mraw W
      go_wp2
      go_quiet (fail)
      go_wp2
      exact ⟨⟨k + 1, q + nq, by go_num, by omega, hide (by rw [unhide HW]; simp)⟩, by simp [intOf]; omega⟩
    · have hlt1 : ¬ (k : Int) < (n : Int) := by omega
      have HF := hide (belows' (unhide HA) hbw)
      clear hbw
      go_wp2
      go_ret
      exact ⟨rfl, unhide HF⟩
end Go.Proofs.YthpjogfclklefaaDoor
