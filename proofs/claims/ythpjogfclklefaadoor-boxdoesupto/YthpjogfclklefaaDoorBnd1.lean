/-
  What is kept where a box at work is changed: blocks, rows of one's own, and worlds that differ at one block alone.
-/
import Derived.Test.YthpjogfclklefaaDoorBma
import Derived.Deep.RegionHeld3
import Derived.OrdersHeld
set_option linter.unusedVariables false
set_option linter.unusedSimpArgs false
namespace Go.Proofs.YthpjogfclklefaaDoor
open Go.RowKit

theorem own_drewB {w : World} {B : Nat} {e : TypeId} {size : Nat} {v : Value} {n : Nat} {xs : List Value} (h : w.ownsRow B e size v n xs) : w.drew.ownsRow B e size v n xs := ⟨h.1, h.2⟩
theorem blk_drewB {w : World} {P t : Nat} {cs : Array Value} (h : Blk w P t cs) : Blk w.drew P t cs := h
theorem own_two {w : World} {C C' e e' k k' n n' : Nat} {v v' : Value} {xs xs' : List Value} (h : w.ownsRow C e k v n xs) (h' : w.ownsRow C' e' k' v' n' xs') (hne : e ≠ e') : v.ownBlock = none ∨ v.ownBlock ≠ v'.ownBlock := by
  rcases h.2 with ⟨rfl, _⟩ | ⟨g, cap, cur, rfl, _, hg, _⟩
  · exact Or.inl rfl
  · right
    have hb : Blk w g e cur := hg
    exact fun he => own_neT h' hb hne he.symm
theorem own_grownT {w w' : World} {C C' e e' k k' n n' : Nat} {v v' : Value} {xs xs' : List Value} (h : w.ownsRow C e k v n xs) (h' : w.ownsRow C' e' k' v' n' xs') (hne : e ≠ e') (hg : w.grownBy w' v'.ownBlock) : w'.ownsRow C e k v n xs :=
  h.kept hg (own_two h h' hne)

/-- All blocks that there were are as they were, but one. -/
def Exc (W : World) (P : Nat) (V : World) : Prop := W.grownBy V (some P)
theorem Exc.refl (W : World) (P : Nat) : Exc W P W := ⟨rfl, rfl, rfl, Nat.le_refl _, fun _ _ _ => rfl⟩
theorem Exc.below {W V X : World} {P : Nat} (h : Exc W P V) (hb : Below V.heap.size V X) : Exc W P X :=
  ⟨hb.os.trans h.os, hb.tape.trans h.tape, hb.output.trans h.output, Nat.le_trans h.size hb.size, fun k hk hne => (hb.block k (Nat.lt_of_lt_of_le hk h.size)).trans (h.block k hk hne)⟩
theorem Exc.grown {W V X : World} {P : Nat} {o : Option Nat} (h : Exc W P V) (hg : V.grownBy X o) (ho : ∀ k, o = some k → W.heap.size ≤ k) : Exc W P X :=
  ⟨hg.os.trans h.os, hg.tape.trans h.tape, hg.output.trans h.output, Nat.le_trans h.size hg.size, fun k hk hne => (hg.block k (Nat.lt_of_lt_of_le hk h.size) (fun e => by have := ho k e.symm; omega)).trans (h.block k hk hne)⟩
theorem Exc.set {W V : World} {P : Nat} (h : Exc W P V) (i : Nat) (u : Value) : Exc W P (V.setCell ⟨P, i, none⟩ u) :=
  ⟨h.os, h.tape, h.output, by have := h.size; simpa using this, fun k hk hne => (Below.heap_setCell _ _ _ _ (fun e => hne (by rw [e]))).trans (h.block k hk hne)⟩
theorem Exc.drewB {W V : World} {P : Nat} (h : Exc W P V) : Exc W P V.drew := ⟨h.os, h.tape, h.output, h.size, h.block⟩
theorem Exc.to {W V : World} {P B : Nat} (h : Exc W P V) (hP : B ≤ P) (hB : B ≤ W.heap.size) : Below B W V :=
  ⟨h.os, h.tape, h.output, h.size, fun k hk => h.block k (by omega) (fun e => by injection e with e; omega)⟩
theorem own_lt' {w : World} {C e k n : Nat} {v : Value} {xs : List Value} (h : w.ownsRow C e k v n xs) : ∀ g, v.ownBlock = some g → C ≤ g := fun g hg => (h.lt g hg).1

/-- A box at work. -/
def wkC (b : Bx) (vm vt : Value) : Array Value := #[.int .u32 (b.va : Int), .int .u64 (b.nx : Int), .int .u32 (b.mr : Int), .int .u32 (b.la : Int), vm, vt]
theorem told_app {W V : World} {P C : Nat} {b : Bx} {vm vt y : Value} {tl : List Nat} {sl : List Msg} (u : Nat) (ty : TypeId)
    (KP : Blk V P 57 (wkC b vm vt)) (OT : V.ownsRow C 22 1 vt tl.length (flatG cells32 tl)) (OS : V.ownsRow C 47 6 y sl.length (flatG msC sl)) (G : Exc W P V) (hC : C = W.heap.size) (hl : tl.length ≤ 4194304) :
    ∃ v' Y2, (Builtin.append_ #[28, 28] ty #[vt, .slice (some ⟨V.heap.size, 0, none⟩) 1 1]).run Tryd.prog (V.alloc (.cells #[.int .u32 (u : Int)] 22)) = .ok v' Y2 ∧ Y2.cell? ⟨P, 5, none⟩ = some vt ∧ Y2.frozen? ⟨P, 5, none⟩ = false ∧
      Blk (Y2.setCell ⟨P, 5, none⟩ v') P 57 (wkC b vm v') ∧ (Y2.setCell ⟨P, 5, none⟩ v').ownsRow C 22 1 v' (tl ++ [u]).length (flatG cells32 (tl ++ [u])) ∧ (Y2.setCell ⟨P, 5, none⟩ v').ownsRow C 47 6 y sl.length (flatG msC sl) ∧ Exc W P (Y2.setCell ⟨P, 5, none⟩ v') ∧ (∀ Q t cs, Blk V Q t cs → t ≠ 22 → Blk Y2 Q t cs) := by
  have hA : Below V.heap.size V (V.alloc (.cells #[.int .u32 (u : Int)] 22)) := (Below.refl _ V).alloc (Nat.le_refl _) _
  have KP1 := KP.below hA
  have OT1 := own_below OT hA
  have OS1 := own_below OS hA
  have hs := G.size
  obtain ⟨v', Y2, hr, own2, bb2, gr2⟩ := run_app32g (V.alloc (.cells #[.int .u32 (u : Int)] 22)) C V.heap.size vt tl u ty OT1 hl (by rw [World.size_alloc]; omega) (Blk.new V 22 #[.int .u32 (u : Int)])
  have KP2 := blk_grownT KP1 gr2 (own_neT OT1 KP1 (by decide))
  have OS2 := own_grownT OS1 OT1 (by decide) gr2
  refine ⟨v', Y2, hr, ?_, KP2.frozen 5, ?_, own_setT own2 KP2 (by decide), own_setT OS2 KP2 (by decide), ((G.below hA).grown gr2 (fun k hk => by have := own_lt' OT1 k hk; omega)).set 5 v', fun Q t cs hq hne => blk_grownT (hq.below hA) gr2 (own_neT OT1 (hq.below hA) hne)⟩
  · rw [KP2.cell 5]; rfl
  · exact KP2.set 5 v'
theorem stay_app {W V : World} {P C : Nat} {b : Bx} {vm vt y : Value} {tl : List Nat} {sl : List Msg} (p : Msg) (ty : TypeId)
    (KP : Blk V P 57 (wkC b vm vt)) (OT : V.ownsRow C 22 1 vt tl.length (flatG cells32 tl)) (OS : V.ownsRow C 47 6 y sl.length (flatG msC sl)) (G : Exc W P V) (hC : C = W.heap.size) (hl : sl.length ≤ 4194304) :
    ∃ v' Y2, (Builtin.append_ #[24, 24] ty #[y, .slice (some ⟨V.heap.size, 0, none⟩) 1 1]).run Tryd.prog (V.alloc (.cells #[.int .u32 (p.uid : Int), .int .u8 (p.fl : Int), .int .i64 p.dy, .int .i64 p.sc, .int .i64 p.zn, .string p.raw] 47)) = .ok v' Y2 ∧
      Blk Y2 P 57 (wkC b vm vt) ∧ Y2.ownsRow C 22 1 vt tl.length (flatG cells32 tl) ∧ Y2.ownsRow C 47 6 v' (sl ++ [p]).length (flatG msC (sl ++ [p])) ∧ Exc W P Y2 := by
  have hA : Below V.heap.size V (V.alloc (.cells #[.int .u32 (p.uid : Int), .int .u8 (p.fl : Int), .int .i64 p.dy, .int .i64 p.sc, .int .i64 p.zn, .string p.raw] 47)) := (Below.refl _ V).alloc (Nat.le_refl _) _
  have KP1 := KP.below hA
  have OT1 := own_below OT hA
  have OS1 := own_below OS hA
  have hs := G.size
  obtain ⟨v', Y2, hr, own2, bb2, gr2⟩ := run_appMg (V.alloc (.cells #[.int .u32 (p.uid : Int), .int .u8 (p.fl : Int), .int .i64 p.dy, .int .i64 p.sc, .int .i64 p.zn, .string p.raw] 47)) C V.heap.size y sl p ty OS1 hl (by rw [World.size_alloc]; omega) (Blk.new V 47 _)
  exact ⟨v', Y2, hr, blk_grownT KP1 gr2 (own_neT OS1 KP1 (by decide)), own_grownT OT1 OS1 (by decide) gr2, own2, (G.below hA).grown gr2 (fun k hk => by have := own_lt' OS1 k hk; omega)⟩

theorem OutM.set {w : World} {v u : Value} {l : List Msg} {P t i : Nat} {cs : Array Value} (h : OutM w v l) (hb : Blk w P t cs) (hne : t ≠ 47) : OutM (w.setCell ⟨P, i, none⟩ u) v l := ⟨own_setT h.1 hb hne, h.2⟩
theorem OutT.set {w : World} {v u : Value} {l : List Nat} {P t i : Nat} {cs : Array Value} (h : OutT w v l) (hb : Blk w P t cs) (hne : t ≠ 22) : OutT (w.setCell ⟨P, i, none⟩ u) v l := ⟨own_setT h.1 hb hne, h.2⟩
end Go.Proofs.YthpjogfclklefaaDoor

/-
  What (*box.work).expunge does, over this seat's program.
-/
set_option linter.unusedVariables false
set_option linter.unusedSimpArgs false
namespace Go.Proofs.YthpjogfclklefaaDoor
open Go.RowKit

/-- A mail that goes. -/
def goneP (us : List Nat) (m : Msg) : Bool := decide (m.uid ∈ us) && decide (m.fl &&& 8 ≠ 0)
def stayL (us : List Nat) (l : List Msg) : List Msg := l.filter (fun m => !goneP us m)
def goneL (us : List Nat) (l : List Msg) : List Nat := uidsM (l.filter (goneP us))
theorem stayL_take {us : List Nat} {l : List Msg} {j : Nat} (h : j < l.length) : stayL us (l.take (j + 1)) = stayL us (l.take j) ++ (if goneP us l[j] then [] else [l[j]]) := by
  unfold stayL
  rw [filterM_take h]
  congr 1
  cases goneP us l[j] <;> rfl
theorem goneL_take {us : List Nat} {l : List Msg} {j : Nat} (h : j < l.length) : goneL us (l.take (j + 1)) = goneL us (l.take j) ++ (if goneP us l[j] then [l[j].uid] else []) := by
  unfold goneL uidsM
  rw [filterM_take h, List.map_append]
  congr 1
  cases goneP us l[j] <;> rfl
theorem stayL_len (us : List Nat) (l : List Msg) : (stayL us l).length ≤ l.length := List.length_filter_le _ _
theorem goneL_len (us : List Nat) (l : List Msg) : (goneL us l).length ≤ l.length := by unfold goneL; rw [uidsM_len]; exact List.length_filter_le _ _

set_option maxHeartbeats 8000000 in
set_option maxRecDepth 100000 in
theorem expunge_any (P C0 B : Nat) (b : Bx) (vm vu : Value) (us : List Nat) (W : World)
    (KP : Blk W P 57 (wkC b vm (.slice none 0 0)))
    (OM : W.ownsRow C0 47 6 vm b.ms.length (flatG msC b.ms)) (hfm : ∀ m ∈ b.ms, FitM m) (hn : b.ms.length ≤ 4194304)
    (HU0 : ∀ X, Below B W X → Row32 X vu us) (hur : us.Pairwise (· < ·)) (hul : us.length ≤ 65536) (hP : B ≤ P) (hB : B ≤ W.heap.size) :
    Calls Tryd.prog 39 #[.pointer (some ⟨P, 0, none⟩), vu] W fun e W' => e = .returned (.tuple #[]) ∧ ∃ vm' vt', Blk W' P 57 (wkC b vm' vt') ∧ OutM W' vm' (stayL us b.ms) ∧ OutT W' vt' (goneL us b.ms) ∧ Exc W P W' := by
  have HRM := hide (fun X (hX : Exc W P X) => rowG_of_own (Fit := FitM) msC_len (OM.kept hX (Or.inr (own_neT OM KP (by decide)))) (by omega) hfm)
  have HU := hide (fun X (hX : Exc W P X) => HU0 X (hX.to hP hB))
  have HBS := hide (fun X u (hX : Exc W P X) (hu : u ≤ 4294967295) => bsearch_any vu us u X (HU0 X (hX.to hP hB)) hu hul hur)
  have HFM := hide hfm
  have hvu := HU0 W (Below.refl _ _)
  obtain ⟨au, cu, rfl, _, _, _⟩ := hvu
  obtain ⟨am, cm, rfl, _⟩ := own_sliceG OM
  obtain ⟨va, nx, mr, la, ms⟩ := b
  simp only [wkC] at KP HRM OM hn HFM ⊢
  obtain ⟨n, hnn⟩ : ∃ n, ms.length = n := ⟨_, rfl⟩
  have KP0 := hide KP
  have k4 := KP.cell 4
  simp only [List.getElem?_toArray, List.getElem?_cons_succ, List.getElem?_cons_zero] at k4
  rw [hnn] at HRM hn k4 KP0
  have hPW := KP.lt
  have HN := hide hnn
  clear hnn OM hfm HU0 hur KP
  go_enter Tryd.func39, Tryd.ntmps39
  go_wp2
  go_loopw [4, 6, 7, 8, 15] (fun y _ _ _ z wr => ∃ (j : Nat) (vt : Value), z = .int .i64 j ∧ j ≤ n ∧ Hid (Blk wr P 57 (wkC ⟨va, nx, mr, la, ms⟩ (.slice am n cm) vt)) ∧ Hid (wr.ownsRow W.heap.size 22 1 vt (goneL us (ms.take j)).length (flatG cells32 (goneL us (ms.take j)))) ∧ Hid (wr.ownsRow W.heap.size 47 6 y (stayL us (ms.take j)).length (flatG msC (stayL us (ms.take j)))) ∧ Hid (Exc W P wr)) (fun _ _ _ _ z _ => n - (intOf z).toNat)
  case atStart => exact ⟨0, .slice none 0 0, rfl, Nat.zero_le _, KP0, hide (World.ownsRow_nil _ _ _ _), hide (World.ownsRow_nil _ _ _ _), hide (Exc.refl _ _)⟩
  case round =>
    obtain ⟨j, vt, rfl, hj, KPJ, OT, OS, G⟩ := hrel
    clear KP0 k4
    by_cases hlt : j < n
    · have hlt1 : (j : Int) < (n : Int) := by omega
      have hjl : j < ms.length := by rw [unhide HN]; exact hlt
      obtain ⟨g, off, rfl, hg, hft, d0, d1, d2, d3, d4, d5⟩ := RowM.mail (unhide HRM wr (unhide G)) (Below.refl _ _) hjl
      have HTL := hide (goneL_take (us := us) hjl)
      have HSL := hide (stayL_take (us := us) hjl)
      have htl := goneL_len us (ms.take j)
      have hsl := stayL_len us (ms.take j)
      rw [List.length_take] at htl hsl
      obtain ⟨ay, cy, hy, _⟩ := own_sliceG (unhide OS)
      subst hy
      obtain ⟨at_, ct, hvt, _⟩ := own_sliceG (unhide OT)
      subst hvt
      obtain ⟨TL, hTL⟩ : ∃ TL, TL = goneL us (ms.take j) := ⟨_, rfl⟩
      obtain ⟨SL, hSL⟩ : ∃ SL, SL = stayL us (ms.take j) := ⟨_, rfl⟩
      rw [← hTL] at HTL OT KPJ htl
      rw [← hSL] at HSL OS hsl ⊢
      obtain ⟨m, hm⟩ : ∃ m, ms[j] = m := ⟨_, rfl⟩
      rw [hm] at d0 d1 d2 d3 d4 d5 HTL HSL hft
      clear hm hTL hSL
      have hA : Below wr.heap.size wr (wr.alloc (.cells #[.int .u32 (m.uid : Int), .int .u8 (m.fl : Int), .int .i64 m.dy, .int .i64 m.sc, .int .i64 m.zn, .string m.raw] 47)) := (Below.refl _ wr).alloc (Nat.le_refl _) _
      have KM := Blk.new wr 47 #[.int .u32 (m.uid : Int), .int .u8 (m.fl : Int), .int .i64 m.dy, .int .i64 m.sc, .int .i64 m.zn, .string m.raw]
      have KP1 := (unhide KPJ).below hA
      have OT1 := own_below (unhide OT) hA
      have OS1 := own_below (unhide OS) hA
      have G1 := (unhide G).below hA
      have hmB : wr.heap.size ≠ P := by have := (unhide G).size; omega
      have hu := hft.1
      have hfl := hft.2.1
      obtain ⟨Ms, hMs⟩ : ∃ q, m.fl &&& 8 = q := ⟨_, rfl⟩
      have hk8 : bits .and .u8 (m.fl : Int) 8 = (Ms : Int) := by
        have := u8_and_nat m.fl 8 (by omega) (by omega)
        rw [← hMs]
        simpa using this
      have hgone : goneP us m = (decide (m.uid ∈ us) && decide (Ms ≠ 0)) := by unfold goneP; rw [hMs]
      have HBS1 := hide (unhide HBS _ m.uid G1 hu)
      have HFT := hide hft
      have HGN := hide hgone
      have KPH := hide KP1
      have OTH := hide OT1
      have OSH := hide OS1
      have GH := hide G1
      have KMH := hide KM
      clear hft hgone KP1 OT1 OS1 G1 KM hMs KPJ OT OS G hfl hA
      obtain ⟨mu, mf, md, msc, mz, mraw⟩ := m
      simp only at d0 d1 d2 d3 d4 d5 HTL HSL hk8 HBS1 HGN hu KPH OTH OSH GH KMH HFT
      obtain ⟨asked, hask⟩ : ∃ q, decide (mu ∈ us) = q := ⟨_, rfl⟩
      rw [hask] at HBS1 HGN
      clear hask
      go_wp2_with fail
      refine (unhide HBS1).mono ?_
      rintro e w2 ⟨⟨iv, rfl⟩, hw2⟩
      subst hw2
      have z0 := (unhide KMH).cell 0
      have z1 := (unhide KMH).cell 1
      have z2 := (unhide KMH).cell 2
      have z3 := (unhide KMH).cell 3
      have z4 := (unhide KMH).cell 4
      have z5 := (unhide KMH).cell 5
      simp only [List.getElem?_toArray, List.getElem?_cons_succ, List.getElem?_cons_zero] at z0 z1 z2 z3 z4 z5
      clear d0 d1 d2 d3 d4 d5 HBS1
      cases asked with
      | false =>
        have hg0 : goneP us ⟨mu, mf, md, msc, mz, mraw⟩ = false := by rw [unhide HGN]; rfl
        rw [hg0] at HTL HSL
        simp only [Bool.false_eq_true, if_false] at HTL HSL
        clear hg0
        obtain ⟨v', Y2, hrun, q1, q2, q3, q4⟩ := stay_app (⟨mu, mf, md, msc, mz, mraw⟩ : Msg) 24 (unhide KPH) (unhide OTH) (unhide OSH) (unhide GH) rfl (by omega)
        have Q1 := hide q1
        have Q2 : Hid (Y2.ownsRow W.heap.size 22 1 (.slice at_ TL.length ct) (goneL us (ms.take (j + 1))).length (flatG cells32 (goneL us (ms.take (j + 1))))) := hide (by rw [unhide HTL]; simpa using q2)
        have Q3 : Hid (Y2.ownsRow W.heap.size 47 6 v' (stayL us (ms.take (j + 1))).length (flatG msC (stayL us (ms.take (j + 1))))) := hide (by rw [unhide HSL]; simpa using q3)
        have Q4 := hide q4
        clear q1 q2 q3 q4 HTL HSL KPH OTH OSH GH KMH HGN htl hsl
        simp only [World.size_alloc] at hrun
        generalize SL.length = SLn at hrun ⊢
        go_wp2_with (at_builtin; refine wpList_append_runB (by rfl) _ _ 24 rfl rfl rfl rfl hrun ?_)
        exact ⟨⟨j + 1, _, by go_num, by omega, Q1, Q2, Q3, Q4⟩, by simp [intOf]; omega⟩
      | true =>
        by_cases hM0 : Ms = 0
        · have hb8 : ((Ms : Int) != 0) = false := by simp; omega
          have hg0 : goneP us ⟨mu, mf, md, msc, mz, mraw⟩ = false := by rw [unhide HGN]; simp; omega
          clear hM0
          rw [hg0] at HTL HSL
          simp only [Bool.false_eq_true, if_false] at HTL HSL
          clear hg0
          obtain ⟨v', Y2, hrun, q1, q2, q3, q4⟩ := stay_app (⟨mu, mf, md, msc, mz, mraw⟩ : Msg) 24 (unhide KPH) (unhide OTH) (unhide OSH) (unhide GH) rfl (by omega)
          have Q1 := hide q1
          have Q2 : Hid (Y2.ownsRow W.heap.size 22 1 (.slice at_ TL.length ct) (goneL us (ms.take (j + 1))).length (flatG cells32 (goneL us (ms.take (j + 1))))) := hide (by rw [unhide HTL]; simpa using q2)
          have Q3 : Hid (Y2.ownsRow W.heap.size 47 6 v' (stayL us (ms.take (j + 1))).length (flatG msC (stayL us (ms.take (j + 1))))) := hide (by rw [unhide HSL]; simpa using q3)
          have Q4 := hide q4
          clear q1 q2 q3 q4 HTL HSL KPH OTH OSH GH KMH HGN htl hsl
          simp only [World.size_alloc] at hrun
          generalize SL.length = SLn at hrun ⊢
          go_wp2_with (at_builtin; refine wpList_append_runB (by rfl) _ _ 24 rfl rfl rfl rfl hrun ?_)
          exact ⟨⟨j + 1, _, by go_num, by omega, Q1, Q2, Q3, Q4⟩, by simp [intOf]; omega⟩
        · have hb8 : ((Ms : Int) != 0) = true := by simp; omega
          have hg1 : goneP us ⟨mu, mf, md, msc, mz, mraw⟩ = true := by rw [unhide HGN]; simp; omega
          rw [hg1] at HTL HSL
          simp only [if_true, List.append_nil] at HTL HSL
          go_upto_region 6 with (fail)
          generalize hV : wr.alloc (.cells #[.int .u32 (mu : Int), .int .u8 (mf : Int), .int .i64 md, .int .i64 msc, .int .i64 mz, .string mraw] 47) = V at z0 KPH OTH OSH GH KMH ⊢
          clear hV z1 z2 z3 z4 z5
          generalize wr.heap.size = mB at z0 KMH hmB ⊢
          obtain ⟨v', Y2, hr, y5, yf, q1, q2, q3, q4, q5⟩ := told_app (V := V.drew) mu 28 (blk_drewB (unhide KPH)) (own_drewB (unhide OTH)) (own_drewB (unhide OSH)) (unhide GH).drewB rfl (by omega)
          obtain ⟨av, cv, hv2, _⟩ := own_sliceG q2
          obtain ⟨n9, hn9⟩ : ∃ n9, (TL ++ [mu]).length = n9 := ⟨_, rfl⟩
          rw [hn9] at hv2
          subst hv2
          have HQ := hide (And.intro q1 q4)
          have Q2 : Hid ((Y2.setCell ⟨P, 5, none⟩ (.slice av n9 cv)).ownsRow W.heap.size 22 1 (.slice av n9 cv) (goneL us (ms.take (j + 1))).length (flatG cells32 (goneL us (ms.take (j + 1))))) := hide (by rw [unhide HTL]; exact q2)
          have Q3 : Hid ((Y2.setCell ⟨P, 5, none⟩ (.slice av n9 cv)).ownsRow W.heap.size 47 6 (.slice ay SL.length cy) (stayL us (ms.take (j + 1))).length (flatG msC (stayL us (ms.take (j + 1))))) := hide (by rw [unhide HSL]; exact q3)
          have zA : (V.drew.alloc (.cells #[.int .u32 (mu : Int)] 22)).cell? ⟨mB, 0, none⟩ = some (.int .u32 (mu : Int)) := by
            rw [((blk_drewB (unhide KMH)).below ((Below.refl _ V.drew).alloc (Nat.le_refl _) (.cells #[.int .u32 (mu : Int)] 22))).cell 0]; rfl
          have zB : Y2.cell? ⟨mB, 0, none⟩ = some (.int .u32 (mu : Int)) := by rw [(q5 _ _ _ (blk_drewB (unhide KMH)) (by decide)).cell 0]; rfl
          have zC : (Y2.setCell ⟨P, 5, none⟩ (.slice av n9 cv)).cell? ⟨mB, 0, none⟩ = some (.int .u32 (mu : Int)) := by rw [((q5 _ _ _ (blk_drewB (unhide KMH)) (by decide)).other (a := ⟨P, 5, none⟩) hmB (.slice av n9 cv)).cell 0]; rfl
          have HY5 := hide y5
          have HYF := hide yf
          have HKP5 : Hid (V.drew.cell? ⟨P, 5, none⟩ = some (.slice at_ TL.length ct)) := hide (by rw [(blk_drewB (unhide KPH)).cell 5]; rfl)
          have HKPA : Hid ((V.alloc (.cells #[.int .u32 (mu : Int)] 22)).cell? ⟨P, 5, none⟩ = some (.slice at_ TL.length ct)) := hide (by
            rw [((unhide KPH).below ((Below.refl _ V).alloc (Nat.le_refl _) (.cells #[.int .u32 (mu : Int)] 22))).cell 5]; rfl)
          clear hn9
          clear q1 q2 q3 q4 q5 y5 yf HTL HSL KPH OTH OSH GH KMH hmB hg1 HGN hk8 HFT htl hsl
          generalize SL.length = SLn at Q3 ⊢
          refine wp_region_held_drew (S := (fun w' => w'.cell? ⟨mB, 0, none⟩ = some (.int .u32 (mu : Int)))) (by kernel_rfl) ?_ (fun hHeld => ?_)
          · exact z0
          refine wpAnyH_take (i := 0) (v := .pointer (some ⟨P, 0, none⟩)) rfl (by kernel_rfl) (by kernel_rfl) (by kernel_rfl) (fun _ _ _ h => h) (Or.inl ⟨by kernel_rfl, fun wS hSw => ?_⟩) (by assumption) ?_
          · (try dsimp only at hSw); go_simp
          (try simp only [Act.put, List.setIfInBounds_toArray, List.set_cons_zero, List.set_cons_succ])
          refine wpAnyH_take (i := 1) (v := .pointer (some ⟨P, 0, none⟩)) rfl (by kernel_rfl) (by kernel_rfl) (by kernel_rfl) (fun _ _ _ h => h) (Or.inl ⟨by kernel_rfl, fun wS hSw => ?_⟩) (by assumption) ?_
          · (try dsimp only at hSw); go_simp
          (try simp only [Act.put, List.setIfInBounds_toArray, List.set_cons_zero, List.set_cons_succ])
          refine wpAnyH_take (i := 2) (v := .pointer (some ⟨P, 0, none⟩)) rfl (by kernel_rfl) (by kernel_rfl) (by kernel_rfl) (fun _ _ _ h => h) (Or.inl ⟨by kernel_rfl, fun wS hSw => ?_⟩) (by assumption) ?_
          · (try dsimp only at hSw); go_simp
          (try simp only [Act.put, List.setIfInBounds_toArray, List.set_cons_zero, List.set_cons_succ])
          refine wpAnyH_take (i := 3) (v := .pointer (some ⟨P, 5, none⟩)) rfl (by kernel_rfl) (by kernel_rfl) (by kernel_rfl) (fun _ _ _ h => h) (Or.inl ⟨by kernel_rfl, fun wS hSw => ?_⟩) (by assumption) ?_
          · (try dsimp only at hSw); go_simp
          (try simp only [Act.put, List.setIfInBounds_toArray, List.set_cons_zero, List.set_cons_succ])
          refine wpAnyH_take (i := 5) (v := .pointer (some ⟨mB, 0, none⟩)) rfl (by kernel_rfl) (by kernel_rfl) (by kernel_rfl) (fun _ _ _ h => h) (Or.inl ⟨by kernel_rfl, fun wS hSw => ?_⟩) (by assumption) ?_
          · (try dsimp only at hSw); go_simp
          (try simp only [Act.put, List.setIfInBounds_toArray, List.set_cons_zero, List.set_cons_succ])
          refine wpAnyH_take (i := 6) (v := .int .u32 (mu : Int)) rfl (by kernel_rfl) (by kernel_rfl) (by kernel_rfl) (fun _ _ _ h => h) (Or.inl ⟨by kernel_rfl, fun wS hSw => ?_⟩) (by assumption) ?_
          · (try dsimp only at hSw); go_simp
          (try simp only [Act.put, List.setIfInBounds_toArray, List.set_cons_zero, List.set_cons_succ])
          refine wpAnyH_ready (rs := [4, 7]) (by kernel_rfl) (by simp) ?_
          refine (AllReadyH.cons rfl (fun K hK => ?_) (AllReadyH.cons rfl (fun K hK => ?_) AllReadyH.nil))
          · have kp5 := unhide HKP5
            clear HKP5
            go_simp
            refine hK.out _ _ ?_ (fun hHeld => ?_)
            · exact z0
            clear hK K
            (try simp only [Act.put, List.setIfInBounds_toArray, List.set_cons_zero, List.set_cons_succ])
            refine wpAnyH_ready (rs := [7]) (by kernel_rfl) (by simp) ?_
            refine AllReadyH.cons rfl (fun K hK => ?_) AllReadyH.nil
            go_simp
            refine hK.out _ _ ?_ (fun hHeld => ?_)
            · exact zA
            clear hK K
            (try simp only [Act.put, List.setIfInBounds_toArray, List.set_cons_zero, List.set_cons_succ])
            refine wpAnyH_ready (rs := [8]) (by kernel_rfl) (by simp) ?_
            refine AllReadyH.cons rfl (fun K hK => ?_) AllReadyH.nil
            refine step_append_runB rfl (.tmp 37) (.tmp 40) 28 28 rfl _ _ _ (by simp [Act.eval]) (by simp [Act.eval]) hr ?_
            refine hK.out _ _ ?_ (fun hHeld => ?_)
            · exact zB
            clear hK K
            (try simp only [Act.put, List.setIfInBounds_toArray, List.set_cons_zero, List.set_cons_succ])
            refine wpAnyH_take (i := 9) (v := .pointer (some ⟨P, 0, none⟩)) rfl (by kernel_rfl) (by kernel_rfl) (by kernel_rfl) (fun _ _ _ h => h) (Or.inl ⟨by kernel_rfl, fun wS hSw => ?_⟩) (by assumption) ?_
            · (try dsimp only at hSw); go_simp
            (try simp only [Act.put, List.setIfInBounds_toArray, List.set_cons_zero, List.set_cons_succ])
            refine wpAnyH_take (i := 10) (v := .pointer (some ⟨P, 5, none⟩)) rfl (by kernel_rfl) (by kernel_rfl) (by kernel_rfl) (fun _ _ _ h => h) (Or.inl ⟨by kernel_rfl, fun wS hSw => ?_⟩) (by assumption) ?_
            · (try dsimp only at hSw); go_simp
            (try simp only [Act.put, List.setIfInBounds_toArray, List.set_cons_zero, List.set_cons_succ])
            refine wpAnyH_ready (rs := [11]) (by kernel_rfl) (by simp) ?_
            refine AllReadyH.cons rfl (fun K hK => ?_) AllReadyH.nil
            have y5 := unhide HY5
            have yf := unhide HYF
            go_simp
            refine hK.out _ _ ?_ (fun hHeld => ?_)
            · exact zC
            clear hK K
            (try simp only [Act.put, List.setIfInBounds_toArray, List.set_cons_zero, List.set_cons_succ])
            refine wpAnyH_done (by kernel_rfl) ?_ _
            have Q1 := hide (unhide HQ).1
            have Q4 := hide (unhide HQ).2
            clear hHeld HY5 HYF HQ
            go_wp2
            exact ⟨⟨j + 1, _, by go_num, by omega, Q1, Q2, Q3, Q4⟩, by simp [intOf]; omega⟩
          · go_simp
            refine hK.out _ _ ?_ (fun hHeld => ?_)
            · exact zA
            clear hK K
            (try simp only [Act.put, List.setIfInBounds_toArray, List.set_cons_zero, List.set_cons_succ])
            refine wpAnyH_ready (rs := [4]) (by kernel_rfl) (by simp) ?_
            refine AllReadyH.cons rfl (fun K hK => ?_) AllReadyH.nil
            have kpA := unhide HKPA
            go_simp
            refine hK.out _ _ ?_ (fun hHeld => ?_)
            · exact zA
            clear hK K
            (try simp only [Act.put, List.setIfInBounds_toArray, List.set_cons_zero, List.set_cons_succ])
            refine wpAnyH_ready (rs := [8]) (by kernel_rfl) (by simp) ?_
            refine AllReadyH.cons rfl (fun K hK => ?_) AllReadyH.nil
            refine step_append_runB rfl (.tmp 37) (.tmp 40) 28 28 rfl _ _ _ (by simp [Act.eval]) (by simp [Act.eval]) hr ?_
            refine hK.out _ _ ?_ (fun hHeld => ?_)
            · exact zB
            clear hK K
            (try simp only [Act.put, List.setIfInBounds_toArray, List.set_cons_zero, List.set_cons_succ])
            refine wpAnyH_take (i := 9) (v := .pointer (some ⟨P, 0, none⟩)) rfl (by kernel_rfl) (by kernel_rfl) (by kernel_rfl) (fun _ _ _ h => h) (Or.inl ⟨by kernel_rfl, fun wS hSw => ?_⟩) (by assumption) ?_
            · (try dsimp only at hSw); go_simp
            (try simp only [Act.put, List.setIfInBounds_toArray, List.set_cons_zero, List.set_cons_succ])
            refine wpAnyH_take (i := 10) (v := .pointer (some ⟨P, 5, none⟩)) rfl (by kernel_rfl) (by kernel_rfl) (by kernel_rfl) (fun _ _ _ h => h) (Or.inl ⟨by kernel_rfl, fun wS hSw => ?_⟩) (by assumption) ?_
            · (try dsimp only at hSw); go_simp
            (try simp only [Act.put, List.setIfInBounds_toArray, List.set_cons_zero, List.set_cons_succ])
            refine wpAnyH_ready (rs := [11]) (by kernel_rfl) (by simp) ?_
            refine AllReadyH.cons rfl (fun K hK => ?_) AllReadyH.nil
            have y5 := unhide HY5
            have yf := unhide HYF
            go_simp
            refine hK.out _ _ ?_ (fun hHeld => ?_)
            · exact zC
            clear hK K
            (try simp only [Act.put, List.setIfInBounds_toArray, List.set_cons_zero, List.set_cons_succ])
            refine wpAnyH_done (by kernel_rfl) ?_ _
            have Q1 := hide (unhide HQ).1
            have Q4 := hide (unhide HQ).2
            clear hHeld HY5 HYF HQ
            go_wp2
            exact ⟨⟨j + 1, _, by go_num, by omega, Q1, Q2, Q3, Q4⟩, by simp [intOf]; omega⟩
    · have hlt1 : ¬ (j : Int) < (n : Int) := by omega
      have htk : ms.take j = ms := List.take_of_length_le (by rw [unhide HN]; omega)
      obtain ⟨ay, cy, hy, _⟩ := own_sliceG (unhide OS)
      subst hy
      rw [htk] at OS OT ⊢
      clear htk
      have hls := stayL_len us ms
      have hlg := goneL_len us ms
      rw [unhide HN] at hls hlg
      obtain ⟨sn, hsn⟩ : ∃ sn, (stayL us ms).length = sn := ⟨_, rfl⟩
      rw [hsn] at OS ⊢
      have kq := unhide KPJ
      have p0 := kq.cell 4
      have p1 := kq.frozen 4
      simp only [wkC, List.getElem?_toArray, List.getElem?_cons_succ, List.getElem?_cons_zero] at p0
      have oS := unhide OS
      have oT := unhide OT
      rw [← hsn] at oS
      have R1 := hide (show OutM _ _ (stayL us ms) from ⟨own_zero (own_setT (i := 4) (u := .slice ay sn cy) oS kq (by decide)), (fun m hm => unhide HFM m (List.mem_filter.1 hm).1), by omega⟩)
      have R2 := hide (show OutT _ _ (goneL us ms) from ⟨own_zero (own_setT (i := 4) (u := .slice ay sn cy) oT kq (by decide)), by
        intro x hx
        unfold goneL uidsM at hx
        obtain ⟨m, hm, rfl⟩ := List.mem_map.1 hx
        exact (unhide HFM m (List.mem_filter.1 hm).1).1, by omega⟩)
      have R3 := hide (kq.set 4 (.slice ay sn cy))
      have R4 := hide ((unhide G).set 4 (.slice ay sn cy))
      rw [hsn] at R1
      clear oS oT kq OS OT KPJ G hls hlg hsn
      go_wp2
      go_end0
      exact ⟨rfl, _, _, unhide R3, unhide R1, unhide R2, unhide R4⟩
end Go.Proofs.YthpjogfclklefaaDoor

/-
  What (*box.work).put does, over this seat's program.
-/
set_option linter.unusedVariables false
set_option linter.unusedSimpArgs false
namespace Go.Proofs.YthpjogfclklefaaDoor
open Go.RowKit

def fullB (b : Bx) : Bool := decide (4294967295 < b.nx) || decide (b.ms.length = 4096)
def newM (b : Bx) (c : Chg) : Msg := ⟨b.nx, c.fl, c.dy, c.sc, c.zn, c.raw⟩
def putB (b : Bx) (c : Chg) : Bx := if fullB b = true then b else ⟨b.va, b.nx + 1, b.mr, b.la, b.ms ++ [newM b c]⟩
def putT (b : Bx) : List Nat := if fullB b = true then [] else [b.nx]
def putE (b : Bx) : Nat := if fullB b = true then 8 else 0
theorem row32_lit (W : World) (B u : Nat) (hu : u ≤ 4294967295) (hB : B ≤ W.heap.size) : (W.alloc (.cells #[.int .u32 (u : Int)] 22)).ownsRow B 22 1 (.slice (some ⟨W.heap.size, 0, none⟩) 1 1) [u].length (flatG cells32 [u]) :=
  World.ownsRow_lit W (cells32 u).toArray 1 hB (by unfold maxLen; omega) rfl

set_option maxHeartbeats 8000000 in
set_option maxRecDepth 100000 in
theorem put_any (P C0 B : Nat) (b : Bx) (c : Chg) (vm vc : Value) (W : World)
    (KP : Blk W P 57 (wkC b vm (.slice none 0 0)))
    (OM : W.ownsRow C0 47 6 vm b.ms.length (flatG msC b.ms)) (hfm : ∀ m ∈ b.ms, FitM m) (hn : b.ms.length ≤ 4096)
    (hnx : 1 ≤ b.nx ∧ b.nx ≤ 4294967296) (hfc : FitC c) (hvc : ∃ a n cap, vc = .slice a n cap) (hP : B ≤ P) (hC : B ≤ C0) (hC2 : C0 ≤ W.heap.size) :
    Calls Tryd.prog 38 #[.pointer (some ⟨P, 0, none⟩), chV c vc] W fun e W' => e = .returned (.int .i64 (putE b : Int)) ∧ ∃ vm' vt', Blk W' P 57 (wkC (putB b c) vm' vt') ∧ OutM W' vm' (putB b c).ms ∧ OutT W' vt' (putT b) ∧ Below B W W' := by
  obtain ⟨kd, us, fl, dy, sc, zn, raw⟩ := c
  obtain ⟨au, un, cu, rfl⟩ := hvc
  obtain ⟨va, nx, mr, la, ms⟩ := b
  simp only [FitC] at hfc
  simp only at hn hnx
  obtain ⟨hkd, hfl, hd1, hs1, hz1, hraw⟩ := hfc
  obtain ⟨am, cm, rfl, hcm⟩ := own_sliceG OM
  have hPW := KP.lt
  have hA : Below W.heap.size W (W.alloc (.cells #[.int .u8 (kd : Int), .slice au un cu, .int .u8 (fl : Int), .int .i64 dy, .int .i64 sc, .int .i64 zn, .string raw] 33)) := (Below.refl _ W).alloc (Nat.le_refl _) _
  have KQ := Blk.new W 33 #[.int .u8 (kd : Int), .slice au un cu, .int .u8 (fl : Int), .int .i64 dy, .int .i64 sc, .int .i64 zn, .string raw]
  have KP1 := KP.below hA
  have OM1 := own_below OM hA
  have HAA := hide hA
  obtain ⟨n, hnn⟩ : ∃ n, ms.length = n := ⟨_, rfl⟩
  simp only at OM OM1 hfm
  have k1 := KP1.cell 1
  have k4 := KP1.cell 4
  simp only [wkC, List.getElem?_toArray, List.getElem?_cons_succ, List.getElem?_cons_zero] at k1 k4
  rw [hnn] at hn k4
  have HKP := hide KP1
  have HKQ := hide KQ
  have HOM := hide OM1
  have HFM := hide hfm
  simp only [chV, chC]
  by_cases hful : fullB ⟨va, nx, mr, la, ms⟩ = true
  · have e1 : putE ⟨va, nx, mr, la, ms⟩ = 8 := by unfold putE; rw [if_pos hful]
    have e2 : putT ⟨va, nx, mr, la, ms⟩ = [] := by unfold putT; rw [if_pos hful]
    have e3 : putB ⟨va, nx, mr, la, ms⟩ ⟨kd, us, fl, dy, sc, zn, raw⟩ = ⟨va, nx, mr, la, ms⟩ := by unfold putB; rw [if_pos hful]
    rw [e1, e2, e3]
    have R1 := hide (show OutM _ _ ms from ⟨own_zero OM1, hfm, by omega⟩)
    rw [hnn] at OM1
    unfold fullB at hful
    simp only [Bool.or_eq_true, decide_eq_true_eq, hnn] at hful
    rw [show (Value.slice am ms.length cm) = Value.slice am n cm by rw [hnn]] at R1 HKP
    have HB := hide (hA.mono (show B ≤ W.heap.size by omega))
    clear e1 e2 e3 hfm hnn KP1 KQ OM1 hd1 hs1 hz1 HOM HKQ hA OM KP HFM HAA
    by_cases h1 : 4294967295 < nx
    · have d1 : decide ((nx : Int) > 4294967295) = true := decide_eq_true (by omega)
      clear hful h1 hnx
      go_enter Tryd.func38, Tryd.ntmps38
      go_wp2
      go_ret
      exact ⟨rfl, _, _, unhide HKP, unhide R1, OutT.nil _, unhide HB⟩
    · have d1 : decide ((nx : Int) > 4294967295) = false := decide_eq_false (by omega)
      have d2 : ((n : Int) == 4096) = true := by simp; omega
      clear hful h1 hnx
      go_enter Tryd.func38, Tryd.ntmps38
      go_wp2
      go_ret
      exact ⟨rfl, _, _, unhide HKP, unhide R1, OutT.nil _, unhide HB⟩
  · have e1 : putE ⟨va, nx, mr, la, ms⟩ = 0 := by unfold putE; rw [if_neg hful]
    have e2 : putT ⟨va, nx, mr, la, ms⟩ = [nx] := by unfold putT; rw [if_neg hful]
    have e3 : putB ⟨va, nx, mr, la, ms⟩ ⟨kd, us, fl, dy, sc, zn, raw⟩ = ⟨va, nx + 1, mr, la, ms ++ [Msg.mk nx fl dy sc zn raw]⟩ := by unfold putB; rw [if_neg hful]; rfl
    rw [e1, e2, e3]
    unfold fullB at hful
    simp only [Bool.or_eq_true, decide_eq_true_eq, hnn, not_or] at hful
    obtain ⟨h1, h2⟩ := hful
    have d1 : decide ((nx : Int) > 4294967295) = false := decide_eq_false (by omega)
    have d2 : ((n : Int) == 4096) = false := by simp; omega
    have hnx4 : nx ≤ 4294967295 := by omega
    have hwr : IntKind.u32.wrap (nx : Int) = (nx : Int) := by rw [IntKind.wrap_u32']; omega
    have hfn : FitM ⟨nx, fl, dy, sc, zn, raw⟩ := ⟨hnx4, hfl, hd1, hs1, hz1, hraw⟩
    have HFN := hide hfn
    have HCL := hide (fun X => bclone_any raw X (by omega))
    clear e1 e2 e3 hd1 hs1 hz1 KP1 KQ OM1 hfm hfn hA h1 h2
    go_enter Tryd.func38, Tryd.ntmps38
    go_upto_region 4 with (fail)
    generalize hV : W.alloc (.cells #[.int .u8 (kd : Int), .slice au un cu, .int .u8 (fl : Int), .int .i64 dy, .int .i64 sc, .int .i64 zn, .string raw] 33) = V at k1 k4 HKP HKQ HOM HAA ⊢
    have hVs : V.heap.size = W.heap.size + 1 := by rw [← hV, World.size_alloc]
    generalize hQ : W.heap.size = Q at HKQ HAA hVs hC2 hPW ⊢
    have HS := hide (fun X (hX : Blk X Q 33 #[.int .u8 (kd : Int), .slice au un cu, .int .u8 (fl : Int), .int .i64 dy, .int .i64 sc, .int .i64 zn, .string raw]) => (show (X.cell? ⟨Q, 2, none⟩ = some (.int .u8 (fl : Int)) ∧ X.cell? ⟨Q, 3, none⟩ = some (.int .i64 dy) ∧ X.cell? ⟨Q, 4, none⟩ = some (.int .i64 sc) ∧ X.cell? ⟨Q, 5, none⟩ = some (.int .i64 zn) ∧ X.cell? ⟨Q, 6, none⟩ = some (.string raw)) from ⟨hX.cell 2, hX.cell 3, hX.cell 4, hX.cell 5, hX.cell 6⟩))
    rw [hnn] at HKP
    have HKP4 : Hid (∀ X, Below V.heap.size V X → X.cell? ⟨P, 4, none⟩ = some (.slice am n cm)) := hide (fun X hX => by rw [((unhide HKP).below hX).cell 4]; rfl)
    have HKQS : Hid (∀ X, Below V.heap.size V X → (X.cell? ⟨Q, 2, none⟩ = some (.int .u8 (fl : Int)) ∧ X.cell? ⟨Q, 3, none⟩ = some (.int .i64 dy) ∧ X.cell? ⟨Q, 4, none⟩ = some (.int .i64 sc) ∧ X.cell? ⟨Q, 5, none⟩ = some (.int .i64 zn) ∧ X.cell? ⟨Q, 6, none⟩ = some (.string raw))) := hide (fun X hX => unhide HS _ ((unhide HKQ).below hX))
    have HFI : Hid (∀ X, Below V.heap.size V X → ∃ (av : Option Addr) (nv cv : Nat) (Y2 : World), (Builtin.append_ #[24, 24] 24 #[.slice am n cm, .slice (some ⟨X.heap.size, 0, none⟩) 1 1]).run Tryd.prog (X.alloc (.cells #[.int .u32 (nx : Int), .int .u8 (fl : Int), .int .i64 dy, .int .i64 sc, .int .i64 zn, .string raw] 47)) = .ok (.slice av nv cv) Y2 ∧ Y2.cell? ⟨P, 4, none⟩ = some (.slice am n cm) ∧ Y2.frozen? ⟨P, 4, none⟩ = false ∧ (Y2.cell? ⟨Q, 2, none⟩ = some (.int .u8 (fl : Int)) ∧ Y2.cell? ⟨Q, 3, none⟩ = some (.int .i64 dy) ∧ Y2.cell? ⟨Q, 4, none⟩ = some (.int .i64 sc) ∧ Y2.cell? ⟨Q, 5, none⟩ = some (.int .i64 zn) ∧ Y2.cell? ⟨Q, 6, none⟩ = some (.string raw)) ∧ ((Y2.setCell ⟨P, 4, none⟩ (.slice av nv cv)).cell? ⟨Q, 2, none⟩ = some (.int .u8 (fl : Int)) ∧ (Y2.setCell ⟨P, 4, none⟩ (.slice av nv cv)).cell? ⟨Q, 3, none⟩ = some (.int .i64 dy) ∧ (Y2.setCell ⟨P, 4, none⟩ (.slice av nv cv)).cell? ⟨Q, 4, none⟩ = some (.int .i64 sc) ∧ (Y2.setCell ⟨P, 4, none⟩ (.slice av nv cv)).cell? ⟨Q, 5, none⟩ = some (.int .i64 zn) ∧ (Y2.setCell ⟨P, 4, none⟩ (.slice av nv cv)).cell? ⟨Q, 6, none⟩ = some (.string raw)) ∧ Hid (Blk (Y2.setCell ⟨P, 4, none⟩ (.slice av nv cv)) P 57 (wkC ⟨va, nx, mr, la, ms⟩ (.slice av nv cv) (.slice none 0 0)) ∧ (Y2.setCell ⟨P, 4, none⟩ (.slice av nv cv)).ownsRow C0 47 6 (.slice av nv cv) (ms ++ [Msg.mk nx fl dy sc zn raw]).length (flatG msC (ms ++ [Msg.mk nx fl dy sc zn raw])) ∧ Below B W (Y2.setCell ⟨P, 4, none⟩ (.slice av nv cv)))) := hide (by
      intro X hX
      have hA2 : Below X.heap.size X (X.alloc (.cells #[.int .u32 (nx : Int), .int .u8 (fl : Int), .int .i64 dy, .int .i64 sc, .int .i64 zn, .string raw] 47)) := (Below.refl _ X).alloc (Nat.le_refl _) _
      have hs := hX.size
      have K1 := ((unhide HKP).below hX).below hA2
      have K2 := ((unhide HKQ).below hX).below hA2
      have O1 := own_below (own_below (unhide HOM) hX) hA2
      obtain ⟨v', Y2, hr, own2, bb2, gr2⟩ := run_appMg (X.alloc (.cells #[.int .u32 (nx : Int), .int .u8 (fl : Int), .int .i64 dy, .int .i64 sc, .int .i64 zn, .string raw] 47)) C0 X.heap.size (.slice am ms.length cm) ms ⟨nx, fl, dy, sc, zn, raw⟩ 24 O1 (by omega) (by rw [World.size_alloc]; omega) (Blk.new X 47 _)
      obtain ⟨av, cv, rfl, _⟩ := own_sliceG own2
      have K3 := blk_grownT K1 gr2 (own_neT O1 K1 (by decide))
      have K4 := blk_grownT K2 gr2 (own_neT O1 K2 (by decide))
      rw [hnn] at hr
      refine ⟨av, _, cv, Y2, hr, by rw [K3.cell 4]; rfl, K3.frozen 4, unhide HS _ K4, unhide HS _ (K4.other (a := ⟨P, 4, none⟩) (by simp; omega) _), ?_⟩
      refine hide ⟨K3.set 4 _, own_setT own2 K3 (by decide), ?_⟩
      have b1 : Below B W X := ((unhide HAA).mono (by omega)).trans (hX.mono (by omega))
      exact ((b1.trans (hA2.mono (by omega))).trans (bb2.mono hC)).setCell (p := ⟨P, 4, none⟩) hP _)
    have HN := hide hnn
    have HQE := hide hQ
    clear HS hV hQ k1 k4 HKQ HOM hnn
    refine wp_region_held_drew (S := (fun w' => (w'.cell? ⟨Q, 2, none⟩ = some (.int .u8 (fl : Int)) ∧ w'.cell? ⟨Q, 3, none⟩ = some (.int .i64 dy) ∧ w'.cell? ⟨Q, 4, none⟩ = some (.int .i64 sc) ∧ w'.cell? ⟨Q, 5, none⟩ = some (.int .i64 zn) ∧ w'.cell? ⟨Q, 6, none⟩ = some (.string raw)))) (by kernel_rfl) ?_ (fun hHeld => ?_)
    · exact unhide HKQS V (Below.refl _ _)
    refine wpAnyH_take (i := 0) (v := .pointer (some ⟨P, 0, none⟩)) rfl (by kernel_rfl) (by kernel_rfl) (by kernel_rfl) (fun _ _ _ h => h) (Or.inl ⟨by kernel_rfl, fun wS hSw => ?_⟩) (by assumption) ?_
    · (try dsimp only at hSw); go_simp
    (try simp only [Act.put, List.setIfInBounds_toArray, List.set_cons_zero, List.set_cons_succ])
    refine wpAnyH_take (i := 1) (v := .pointer (some ⟨P, 0, none⟩)) rfl (by kernel_rfl) (by kernel_rfl) (by kernel_rfl) (fun _ _ _ h => h) (Or.inl ⟨by kernel_rfl, fun wS hSw => ?_⟩) (by assumption) ?_
    · (try dsimp only at hSw); go_simp
    (try simp only [Act.put, List.setIfInBounds_toArray, List.set_cons_zero, List.set_cons_succ])
    refine wpAnyH_take (i := 2) (v := .pointer (some ⟨P, 0, none⟩)) rfl (by kernel_rfl) (by kernel_rfl) (by kernel_rfl) (fun _ _ _ h => h) (Or.inl ⟨by kernel_rfl, fun wS hSw => ?_⟩) (by assumption) ?_
    · (try dsimp only at hSw); go_simp
    (try simp only [Act.put, List.setIfInBounds_toArray, List.set_cons_zero, List.set_cons_succ])
    refine wpAnyH_take (i := 3) (v := .pointer (some ⟨P, 0, none⟩)) rfl (by kernel_rfl) (by kernel_rfl) (by kernel_rfl) (fun _ _ _ h => h) (Or.inl ⟨by kernel_rfl, fun wS hSw => ?_⟩) (by assumption) ?_
    · (try dsimp only at hSw); go_simp
    (try simp only [Act.put, List.setIfInBounds_toArray, List.set_cons_zero, List.set_cons_succ])
    refine wpAnyH_take (i := 4) (v := .pointer (some ⟨P, 4, none⟩)) rfl (by kernel_rfl) (by kernel_rfl) (by kernel_rfl) (fun _ _ _ h => h) (Or.inl ⟨by kernel_rfl, fun wS hSw => ?_⟩) (by assumption) ?_
    · (try dsimp only at hSw); go_simp
    (try simp only [Act.put, List.setIfInBounds_toArray, List.set_cons_zero, List.set_cons_succ])
    refine wpAnyH_take (i := 6) (v := .int .u32 (nx : Int)) rfl (by kernel_rfl) (by kernel_rfl) (by kernel_rfl) (fun _ _ _ h => h) (Or.inl ⟨by kernel_rfl, fun wS hSw => ?_⟩) (by assumption) ?_
    · (try dsimp only at hSw); go_simp
    (try simp only [Act.put, List.setIfInBounds_toArray, List.set_cons_zero, List.set_cons_succ])
    refine wpAnyH_take (i := 7) (v := .pointer (some ⟨Q, 2, none⟩)) rfl (by kernel_rfl) (by kernel_rfl) (by kernel_rfl) (fun _ _ _ h => h) (Or.inl ⟨by kernel_rfl, fun wS hSw => ?_⟩) (by assumption) ?_
    · (try dsimp only at hSw); go_simp
    (try simp only [Act.put, List.setIfInBounds_toArray, List.set_cons_zero, List.set_cons_succ])
    refine wpAnyH_take (i := 8) (v := .int .u8 (fl : Int)) rfl (by kernel_rfl) (by kernel_rfl) (by kernel_rfl) (fun _ _ _ h => h) (Or.inl ⟨by kernel_rfl, fun wS hSw => ?_⟩) (by assumption) ?_
    · (try dsimp only at hSw); go_simp
    (try simp only [Act.put, List.setIfInBounds_toArray, List.set_cons_zero, List.set_cons_succ])
    refine wpAnyH_take (i := 9) (v := .pointer (some ⟨Q, 3, none⟩)) rfl (by kernel_rfl) (by kernel_rfl) (by kernel_rfl) (fun _ _ _ h => h) (Or.inl ⟨by kernel_rfl, fun wS hSw => ?_⟩) (by assumption) ?_
    · (try dsimp only at hSw); go_simp
    (try simp only [Act.put, List.setIfInBounds_toArray, List.set_cons_zero, List.set_cons_succ])
    refine wpAnyH_take (i := 10) (v := .agg #[.int .i64 dy, .int .i64 sc, .int .i64 zn]) rfl (by kernel_rfl) (by kernel_rfl) (by kernel_rfl) (fun _ _ _ h => h) (Or.inl ⟨by kernel_rfl, fun wS hSw => ?_⟩) (by assumption) ?_
    · (try dsimp only at hSw); go_simp
    (try simp only [Act.put, List.setIfInBounds_toArray, List.set_cons_zero, List.set_cons_succ])
    refine wpAnyH_take (i := 11) (v := .pointer (some ⟨Q, 6, none⟩)) rfl (by kernel_rfl) (by kernel_rfl) (by kernel_rfl) (fun _ _ _ h => h) (Or.inl ⟨by kernel_rfl, fun wS hSw => ?_⟩) (by assumption) ?_
    · (try dsimp only at hSw); go_simp
    (try simp only [Act.put, List.setIfInBounds_toArray, List.set_cons_zero, List.set_cons_succ])
    refine wpAnyH_take (i := 12) (v := .string raw) rfl (by kernel_rfl) (by kernel_rfl) (by kernel_rfl) (fun _ _ _ h => h) (Or.inl ⟨by kernel_rfl, fun wS hSw => ?_⟩) (by assumption) ?_
    · (try dsimp only at hSw); go_simp
    (try simp only [Act.put, List.setIfInBounds_toArray, List.set_cons_zero, List.set_cons_succ])
    refine wpAnyH_ready (rs := [5, 13]) (by kernel_rfl) (by simp) ?_
    refine (AllReadyH.cons rfl (fun K hK => ?_) (AllReadyH.cons rfl (fun K hK => ?_) AllReadyH.nil))
    · have x4 := unhide HKP4 V (Below.refl _ _)
      go_simp
      refine hK.out _ _ ?_ (fun hHeld => ?_)
      · exact unhide HKQS V (Below.refl _ _)
      clear hK K
      (try simp only [Act.put, List.setIfInBounds_toArray, List.set_cons_zero, List.set_cons_succ])
      refine wpAnyH_ready (rs := [13]) (by kernel_rfl) (by simp) ?_
      refine AllReadyH.cons rfl (fun K hK => ?_) AllReadyH.nil
      go_simp
      refine (unhide HCL _).mono ?_
      rintro e X1 ⟨rfl, b13⟩
      have bX : Below V.heap.size V X1 := ⟨b13.os, b13.tape, b13.output, b13.size, b13.block⟩
      clear b13
      obtain ⟨av, nv, cv, Y2, hr, y4, yf, s2, s3, HEND⟩ := unhide HFI _ bX
      go_wp2_with fail
      refine hK.out _ _ ?_ (fun hHeld => ?_)
      · exact unhide HKQS _ bX
      clear hK K
      (try simp only [Act.put, List.setIfInBounds_toArray, List.set_cons_zero, List.set_cons_succ])
      refine wpAnyH_take (i := 14) (v := .agg #[.int .u32 (nx : Int), .int .u8 (fl : Int), .int .i64 dy, .int .i64 sc, .int .i64 zn, .string raw]) rfl (by kernel_rfl) (by kernel_rfl) (by kernel_rfl) (fun _ _ _ h => h) (Or.inl ⟨by kernel_rfl, fun wS hSw => ?_⟩) (by assumption) ?_
      · (try dsimp only at hSw); go_simp
      (try simp only [Act.put, List.setIfInBounds_toArray, List.set_cons_zero, List.set_cons_succ])
      refine wpAnyH_ready (rs := [15]) (by kernel_rfl) (by simp) ?_
      refine AllReadyH.cons rfl (fun K hK => ?_) AllReadyH.nil
      go_simp
      refine hK.out _ _ ?_ (fun hHeld => ?_)
      · exact unhide HKQS _ (bX.alloc bX.size _)
      clear hK K
      (try simp only [Act.put, List.setIfInBounds_toArray, List.set_cons_zero, List.set_cons_succ])
      refine wpAnyH_ready (rs := [16]) (by kernel_rfl) (by simp) ?_
      refine AllReadyH.cons rfl (fun K hK => ?_) AllReadyH.nil
      refine step_append_runB rfl (.tmp 32) (.tmp 42) 24 24 rfl _ _ _ (by simp [Act.eval]) (by simp [Act.eval]) hr ?_
      refine hK.out _ _ ?_ (fun hHeld => ?_)
      · exact s2
      clear hK K
      (try simp only [Act.put, List.setIfInBounds_toArray, List.set_cons_zero, List.set_cons_succ])
      refine wpAnyH_take (i := 17) (v := .pointer (some ⟨P, 0, none⟩)) rfl (by kernel_rfl) (by kernel_rfl) (by kernel_rfl) (fun _ _ _ h => h) (Or.inl ⟨by kernel_rfl, fun wS hSw => ?_⟩) (by assumption) ?_
      · (try dsimp only at hSw); go_simp
      (try simp only [Act.put, List.setIfInBounds_toArray, List.set_cons_zero, List.set_cons_succ])
      refine wpAnyH_take (i := 18) (v := .pointer (some ⟨P, 0, none⟩)) rfl (by kernel_rfl) (by kernel_rfl) (by kernel_rfl) (fun _ _ _ h => h) (Or.inl ⟨by kernel_rfl, fun wS hSw => ?_⟩) (by assumption) ?_
      · (try dsimp only at hSw); go_simp
      (try simp only [Act.put, List.setIfInBounds_toArray, List.set_cons_zero, List.set_cons_succ])
      refine wpAnyH_take (i := 19) (v := .pointer (some ⟨P, 4, none⟩)) rfl (by kernel_rfl) (by kernel_rfl) (by kernel_rfl) (fun _ _ _ h => h) (Or.inl ⟨by kernel_rfl, fun wS hSw => ?_⟩) (by assumption) ?_
      · (try dsimp only at hSw); go_simp
      (try simp only [Act.put, List.setIfInBounds_toArray, List.set_cons_zero, List.set_cons_succ])
      refine wpAnyH_ready (rs := [20]) (by kernel_rfl) (by simp) ?_
      refine AllReadyH.cons rfl (fun K hK => ?_) AllReadyH.nil
      go_simp
      refine hK.out _ _ ?_ (fun hHeld => ?_)
      · exact s3
      clear hK K
      (try simp only [Act.put, List.setIfInBounds_toArray, List.set_cons_zero, List.set_cons_succ])
      refine wpAnyH_done (by kernel_rfl) ?_ _
      clear hHeld y4 yf s2 s3 HFI HKQS HKP4 HCL hr bX HKP
      obtain ⟨q1, q2, q3⟩ := unhide HEND
      have g1 := q1.cell 1
      have gf1 := q1.frozen 1
      have g5 := q1.cell 5
      have gf5 := q1.frozen 5
      simp only [wkC, List.getElem?_toArray, List.getElem?_cons_succ, List.getElem?_cons_zero] at g1 g5
      have hq3 := q3.size
      generalize Y2.setCell ⟨P, 4, none⟩ (.slice av nv cv) = Z at q1 q2 q3 g1 gf1 g5 gf5 hq3 ⊢
      have hnw : IntKind.u64.wrap ((nx : Int) + 1) = ((nx + 1 : Nat) : Int) := by rw [IntKind.wrap_u64]; omega
      have w1 := q1.set 1 (.int .u64 ((nx + 1 : Nat) : Int))
      have hA9 : Below (Z.setCell ⟨P, 1, none⟩ (.int .u64 ((nx + 1 : Nat) : Int))).heap.size (Z.setCell ⟨P, 1, none⟩ (.int .u64 ((nx + 1 : Nat) : Int))) ((Z.setCell ⟨P, 1, none⟩ (.int .u64 ((nx + 1 : Nat) : Int))).alloc (.cells #[.int .u32 (nx : Int)] 22)) := (Below.refl _ _).alloc (Nat.le_refl _) _
      have w2 := w1.below hA9
      have o2 := own_below (own_setT (i := 1) (u := .int .u64 ((nx + 1 : Nat) : Int)) q2 q1 (by decide)) hA9
      have o3 := own_setT (i := 5) (u := .slice (some ⟨Z.heap.size, 0, none⟩) 1 1) o2 w2 (by decide)
      have t2 := row32_lit (Z.setCell ⟨P, 1, none⟩ (.int .u64 ((nx + 1 : Nat) : Int))) 0 nx hnx4 (Nat.zero_le _)
      simp only [World.size_setCell] at t2
      have hPZ : P < Z.heap.size := q1.lt
      have gf5b := w2.frozen 5
      have t3 := own_setT (i := 5) (u := .slice (some ⟨Z.heap.size, 0, none⟩) 1 1) t2 w2 (by decide)
      have R0 := hide (w2.set 5 (.slice (some ⟨Z.heap.size, 0, none⟩) 1 1))
      have R1 := hide (show OutM _ _ (ms ++ [Msg.mk nx fl dy sc zn raw]) from ⟨own_zero o3, by
        intro m hm
        rcases List.mem_append.1 hm with h | h
        · exact unhide HFM m h
        · rw [List.mem_singleton.1 h]; exact unhide HFN, by rw [List.length_append, List.length_singleton]; have := unhide HN; omega⟩)
      have R2 := hide (show OutT _ _ [nx] from ⟨own_zero t3, by simpa using hnx4, by simp⟩)
      have R3 := hide (((q3.setCell (p := ⟨P, 1, none⟩) hP (.int .u64 ((nx + 1 : Nat) : Int))).alloc (by have := hq3; have := unhide HQE; simp; omega) (.cells #[.int .u32 (nx : Int)] 22)).setCell (p := ⟨P, 5, none⟩) hP (.slice (some ⟨Z.heap.size, 0, none⟩) 1 1))
      have hcm9 : ((Z.setCell ⟨P, 1, none⟩ (.int .u64 ((nx + 1 : Nat) : Int))).alloc (.cells #[.int .u32 (nx : Int)] 22)).setCell ⟨P, 5, none⟩ (.slice (some ⟨Z.heap.size, 0, none⟩) 1 1) = ((Z.setCell ⟨P, 1, none⟩ (.int .u64 ((nx + 1 : Nat) : Int))).setCell ⟨P, 5, none⟩ (.slice (some ⟨Z.heap.size, 0, none⟩) 1 1)).alloc (.cells #[.int .u32 (nx : Int)] 22) := by
        exact World.setCell_alloc_past _ P 5 _ (by simpa using hPZ)
      rw [hcm9] at R0 R1 R2 R3
      clear hcm9
      clear q1 q2 q3 w1 w2 o2 o3 t2 t3 hA9 HEND HFM HFN
      go_wp2
      go_ret
      exact ⟨rfl, _, _, unhide R0, unhide R1, unhide R2, unhide R3⟩
    · go_simp
      refine (unhide HCL _).mono ?_
      rintro e X1 ⟨rfl, b13⟩
      have bX : Below V.heap.size V X1 := ⟨b13.os, b13.tape, b13.output, b13.size, b13.block⟩
      clear b13
      obtain ⟨av, nv, cv, Y2, hr, y4, yf, s2, s3, HEND⟩ := unhide HFI _ bX
      go_wp2_with fail
      refine hK.out _ _ ?_ (fun hHeld => ?_)
      · exact unhide HKQS _ bX
      clear hK K
      (try simp only [Act.put, List.setIfInBounds_toArray, List.set_cons_zero, List.set_cons_succ])
      refine wpAnyH_take (i := 14) (v := .agg #[.int .u32 (nx : Int), .int .u8 (fl : Int), .int .i64 dy, .int .i64 sc, .int .i64 zn, .string raw]) rfl (by kernel_rfl) (by kernel_rfl) (by kernel_rfl) (fun _ _ _ h => h) (Or.inl ⟨by kernel_rfl, fun wS hSw => ?_⟩) (by assumption) ?_
      · (try dsimp only at hSw); go_simp
      (try simp only [Act.put, List.setIfInBounds_toArray, List.set_cons_zero, List.set_cons_succ])
      refine wpAnyH_ready (rs := [5, 15]) (by kernel_rfl) (by simp) ?_
      refine (AllReadyH.cons rfl (fun K hK => ?_) (AllReadyH.cons rfl (fun K hK => ?_) AllReadyH.nil))
      · have x4 := unhide HKP4 X1 bX
        go_simp
        refine hK.out _ _ ?_ (fun hHeld => ?_)
        · exact unhide HKQS _ bX
        clear hK K
        (try simp only [Act.put, List.setIfInBounds_toArray, List.set_cons_zero, List.set_cons_succ])
        refine wpAnyH_ready (rs := [15]) (by kernel_rfl) (by simp) ?_
        refine AllReadyH.cons rfl (fun K hK => ?_) AllReadyH.nil
        go_simp
        refine hK.out _ _ ?_ (fun hHeld => ?_)
        · exact unhide HKQS _ (bX.alloc bX.size _)
        clear hK K
        (try simp only [Act.put, List.setIfInBounds_toArray, List.set_cons_zero, List.set_cons_succ])
        refine wpAnyH_ready (rs := [16]) (by kernel_rfl) (by simp) ?_
        refine AllReadyH.cons rfl (fun K hK => ?_) AllReadyH.nil
        refine step_append_runB rfl (.tmp 32) (.tmp 42) 24 24 rfl _ _ _ (by simp [Act.eval]) (by simp [Act.eval]) hr ?_
        refine hK.out _ _ ?_ (fun hHeld => ?_)
        · exact s2
        clear hK K
        (try simp only [Act.put, List.setIfInBounds_toArray, List.set_cons_zero, List.set_cons_succ])
        refine wpAnyH_take (i := 17) (v := .pointer (some ⟨P, 0, none⟩)) rfl (by kernel_rfl) (by kernel_rfl) (by kernel_rfl) (fun _ _ _ h => h) (Or.inl ⟨by kernel_rfl, fun wS hSw => ?_⟩) (by assumption) ?_
        · (try dsimp only at hSw); go_simp
        (try simp only [Act.put, List.setIfInBounds_toArray, List.set_cons_zero, List.set_cons_succ])
        refine wpAnyH_take (i := 18) (v := .pointer (some ⟨P, 0, none⟩)) rfl (by kernel_rfl) (by kernel_rfl) (by kernel_rfl) (fun _ _ _ h => h) (Or.inl ⟨by kernel_rfl, fun wS hSw => ?_⟩) (by assumption) ?_
        · (try dsimp only at hSw); go_simp
        (try simp only [Act.put, List.setIfInBounds_toArray, List.set_cons_zero, List.set_cons_succ])
        refine wpAnyH_take (i := 19) (v := .pointer (some ⟨P, 4, none⟩)) rfl (by kernel_rfl) (by kernel_rfl) (by kernel_rfl) (fun _ _ _ h => h) (Or.inl ⟨by kernel_rfl, fun wS hSw => ?_⟩) (by assumption) ?_
        · (try dsimp only at hSw); go_simp
        (try simp only [Act.put, List.setIfInBounds_toArray, List.set_cons_zero, List.set_cons_succ])
        refine wpAnyH_ready (rs := [20]) (by kernel_rfl) (by simp) ?_
        refine AllReadyH.cons rfl (fun K hK => ?_) AllReadyH.nil
        go_simp
        refine hK.out _ _ ?_ (fun hHeld => ?_)
        · exact s3
        clear hK K
        (try simp only [Act.put, List.setIfInBounds_toArray, List.set_cons_zero, List.set_cons_succ])
        refine wpAnyH_done (by kernel_rfl) ?_ _
        clear hHeld y4 yf s2 s3 HFI HKQS HKP4 HCL hr bX HKP
        obtain ⟨q1, q2, q3⟩ := unhide HEND
        have g1 := q1.cell 1
        have gf1 := q1.frozen 1
        have g5 := q1.cell 5
        have gf5 := q1.frozen 5
        simp only [wkC, List.getElem?_toArray, List.getElem?_cons_succ, List.getElem?_cons_zero] at g1 g5
        have hq3 := q3.size
        generalize Y2.setCell ⟨P, 4, none⟩ (.slice av nv cv) = Z at q1 q2 q3 g1 gf1 g5 gf5 hq3 ⊢
        have hnw : IntKind.u64.wrap ((nx : Int) + 1) = ((nx + 1 : Nat) : Int) := by rw [IntKind.wrap_u64]; omega
        have w1 := q1.set 1 (.int .u64 ((nx + 1 : Nat) : Int))
        have hA9 : Below (Z.setCell ⟨P, 1, none⟩ (.int .u64 ((nx + 1 : Nat) : Int))).heap.size (Z.setCell ⟨P, 1, none⟩ (.int .u64 ((nx + 1 : Nat) : Int))) ((Z.setCell ⟨P, 1, none⟩ (.int .u64 ((nx + 1 : Nat) : Int))).alloc (.cells #[.int .u32 (nx : Int)] 22)) := (Below.refl _ _).alloc (Nat.le_refl _) _
        have w2 := w1.below hA9
        have o2 := own_below (own_setT (i := 1) (u := .int .u64 ((nx + 1 : Nat) : Int)) q2 q1 (by decide)) hA9
        have o3 := own_setT (i := 5) (u := .slice (some ⟨Z.heap.size, 0, none⟩) 1 1) o2 w2 (by decide)
        have t2 := row32_lit (Z.setCell ⟨P, 1, none⟩ (.int .u64 ((nx + 1 : Nat) : Int))) 0 nx hnx4 (Nat.zero_le _)
        simp only [World.size_setCell] at t2
        have hPZ : P < Z.heap.size := q1.lt
        have gf5b := w2.frozen 5
        have t3 := own_setT (i := 5) (u := .slice (some ⟨Z.heap.size, 0, none⟩) 1 1) t2 w2 (by decide)
        have R0 := hide (w2.set 5 (.slice (some ⟨Z.heap.size, 0, none⟩) 1 1))
        have R1 := hide (show OutM _ _ (ms ++ [Msg.mk nx fl dy sc zn raw]) from ⟨own_zero o3, by
          intro m hm
          rcases List.mem_append.1 hm with h | h
          · exact unhide HFM m h
          · rw [List.mem_singleton.1 h]; exact unhide HFN, by rw [List.length_append, List.length_singleton]; have := unhide HN; omega⟩)
        have R2 := hide (show OutT _ _ [nx] from ⟨own_zero t3, by simpa using hnx4, by simp⟩)
        have R3 := hide (((q3.setCell (p := ⟨P, 1, none⟩) hP (.int .u64 ((nx + 1 : Nat) : Int))).alloc (by have := hq3; have := unhide HQE; simp; omega) (.cells #[.int .u32 (nx : Int)] 22)).setCell (p := ⟨P, 5, none⟩) hP (.slice (some ⟨Z.heap.size, 0, none⟩) 1 1))
        have hcm9 : ((Z.setCell ⟨P, 1, none⟩ (.int .u64 ((nx + 1 : Nat) : Int))).alloc (.cells #[.int .u32 (nx : Int)] 22)).setCell ⟨P, 5, none⟩ (.slice (some ⟨Z.heap.size, 0, none⟩) 1 1) = ((Z.setCell ⟨P, 1, none⟩ (.int .u64 ((nx + 1 : Nat) : Int))).setCell ⟨P, 5, none⟩ (.slice (some ⟨Z.heap.size, 0, none⟩) 1 1)).alloc (.cells #[.int .u32 (nx : Int)] 22) := by
          exact World.setCell_alloc_past _ P 5 _ (by simpa using hPZ)
        rw [hcm9] at R0 R1 R2 R3
        clear hcm9
        clear q1 q2 q3 w1 w2 o2 o3 t2 t3 hA9 HEND HFM HFN
        go_wp2
        go_ret
        exact ⟨rfl, _, _, unhide R0, unhide R1, unhide R2, unhide R3⟩
      · go_simp
        refine hK.out _ _ ?_ (fun hHeld => ?_)
        · exact unhide HKQS _ (bX.alloc bX.size _)
        clear hK K
        (try simp only [Act.put, List.setIfInBounds_toArray, List.set_cons_zero, List.set_cons_succ])
        refine wpAnyH_ready (rs := [5]) (by kernel_rfl) (by simp) ?_
        refine AllReadyH.cons rfl (fun K hK => ?_) AllReadyH.nil
        have x4 := unhide HKP4 (X1.alloc (.cells #[.int .u32 (nx : Int), .int .u8 (fl : Int), .int .i64 dy, .int .i64 sc, .int .i64 zn, .string raw] 47)) (bX.alloc bX.size _)
        go_simp
        refine hK.out _ _ ?_ (fun hHeld => ?_)
        · exact unhide HKQS _ (bX.alloc bX.size _)
        clear hK K
        (try simp only [Act.put, List.setIfInBounds_toArray, List.set_cons_zero, List.set_cons_succ])
        refine wpAnyH_ready (rs := [16]) (by kernel_rfl) (by simp) ?_
        refine AllReadyH.cons rfl (fun K hK => ?_) AllReadyH.nil
        refine step_append_runB rfl (.tmp 32) (.tmp 42) 24 24 rfl _ _ _ (by simp [Act.eval]) (by simp [Act.eval]) hr ?_
        refine hK.out _ _ ?_ (fun hHeld => ?_)
        · exact s2
        clear hK K
        (try simp only [Act.put, List.setIfInBounds_toArray, List.set_cons_zero, List.set_cons_succ])
        refine wpAnyH_take (i := 17) (v := .pointer (some ⟨P, 0, none⟩)) rfl (by kernel_rfl) (by kernel_rfl) (by kernel_rfl) (fun _ _ _ h => h) (Or.inl ⟨by kernel_rfl, fun wS hSw => ?_⟩) (by assumption) ?_
        · (try dsimp only at hSw); go_simp
        (try simp only [Act.put, List.setIfInBounds_toArray, List.set_cons_zero, List.set_cons_succ])
        refine wpAnyH_take (i := 18) (v := .pointer (some ⟨P, 0, none⟩)) rfl (by kernel_rfl) (by kernel_rfl) (by kernel_rfl) (fun _ _ _ h => h) (Or.inl ⟨by kernel_rfl, fun wS hSw => ?_⟩) (by assumption) ?_
        · (try dsimp only at hSw); go_simp
        (try simp only [Act.put, List.setIfInBounds_toArray, List.set_cons_zero, List.set_cons_succ])
        refine wpAnyH_take (i := 19) (v := .pointer (some ⟨P, 4, none⟩)) rfl (by kernel_rfl) (by kernel_rfl) (by kernel_rfl) (fun _ _ _ h => h) (Or.inl ⟨by kernel_rfl, fun wS hSw => ?_⟩) (by assumption) ?_
        · (try dsimp only at hSw); go_simp
        (try simp only [Act.put, List.setIfInBounds_toArray, List.set_cons_zero, List.set_cons_succ])
        refine wpAnyH_ready (rs := [20]) (by kernel_rfl) (by simp) ?_
        refine AllReadyH.cons rfl (fun K hK => ?_) AllReadyH.nil
        go_simp
        refine hK.out _ _ ?_ (fun hHeld => ?_)
        · exact s3
        clear hK K
        (try simp only [Act.put, List.setIfInBounds_toArray, List.set_cons_zero, List.set_cons_succ])
        refine wpAnyH_done (by kernel_rfl) ?_ _
        clear hHeld y4 yf s2 s3 HFI HKQS HKP4 HCL hr bX HKP
        obtain ⟨q1, q2, q3⟩ := unhide HEND
        have g1 := q1.cell 1
        have gf1 := q1.frozen 1
        have g5 := q1.cell 5
        have gf5 := q1.frozen 5
        simp only [wkC, List.getElem?_toArray, List.getElem?_cons_succ, List.getElem?_cons_zero] at g1 g5
        have hq3 := q3.size
        generalize Y2.setCell ⟨P, 4, none⟩ (.slice av nv cv) = Z at q1 q2 q3 g1 gf1 g5 gf5 hq3 ⊢
        have hnw : IntKind.u64.wrap ((nx : Int) + 1) = ((nx + 1 : Nat) : Int) := by rw [IntKind.wrap_u64]; omega
        have w1 := q1.set 1 (.int .u64 ((nx + 1 : Nat) : Int))
        have hA9 : Below (Z.setCell ⟨P, 1, none⟩ (.int .u64 ((nx + 1 : Nat) : Int))).heap.size (Z.setCell ⟨P, 1, none⟩ (.int .u64 ((nx + 1 : Nat) : Int))) ((Z.setCell ⟨P, 1, none⟩ (.int .u64 ((nx + 1 : Nat) : Int))).alloc (.cells #[.int .u32 (nx : Int)] 22)) := (Below.refl _ _).alloc (Nat.le_refl _) _
        have w2 := w1.below hA9
        have o2 := own_below (own_setT (i := 1) (u := .int .u64 ((nx + 1 : Nat) : Int)) q2 q1 (by decide)) hA9
        have o3 := own_setT (i := 5) (u := .slice (some ⟨Z.heap.size, 0, none⟩) 1 1) o2 w2 (by decide)
        have t2 := row32_lit (Z.setCell ⟨P, 1, none⟩ (.int .u64 ((nx + 1 : Nat) : Int))) 0 nx hnx4 (Nat.zero_le _)
        simp only [World.size_setCell] at t2
        have hPZ : P < Z.heap.size := q1.lt
        have gf5b := w2.frozen 5
        have t3 := own_setT (i := 5) (u := .slice (some ⟨Z.heap.size, 0, none⟩) 1 1) t2 w2 (by decide)
        have R0 := hide (w2.set 5 (.slice (some ⟨Z.heap.size, 0, none⟩) 1 1))
        have R1 := hide (show OutM _ _ (ms ++ [Msg.mk nx fl dy sc zn raw]) from ⟨own_zero o3, by
          intro m hm
          rcases List.mem_append.1 hm with h | h
          · exact unhide HFM m h
          · rw [List.mem_singleton.1 h]; exact unhide HFN, by rw [List.length_append, List.length_singleton]; have := unhide HN; omega⟩)
        have R2 := hide (show OutT _ _ [nx] from ⟨own_zero t3, by simpa using hnx4, by simp⟩)
        have R3 := hide (((q3.setCell (p := ⟨P, 1, none⟩) hP (.int .u64 ((nx + 1 : Nat) : Int))).alloc (by have := hq3; have := unhide HQE; simp; omega) (.cells #[.int .u32 (nx : Int)] 22)).setCell (p := ⟨P, 5, none⟩) hP (.slice (some ⟨Z.heap.size, 0, none⟩) 1 1))
        have hcm9 : ((Z.setCell ⟨P, 1, none⟩ (.int .u64 ((nx + 1 : Nat) : Int))).alloc (.cells #[.int .u32 (nx : Int)] 22)).setCell ⟨P, 5, none⟩ (.slice (some ⟨Z.heap.size, 0, none⟩) 1 1) = ((Z.setCell ⟨P, 1, none⟩ (.int .u64 ((nx + 1 : Nat) : Int))).setCell ⟨P, 5, none⟩ (.slice (some ⟨Z.heap.size, 0, none⟩) 1 1)).alloc (.cells #[.int .u32 (nx : Int)] 22) := by
          exact World.setCell_alloc_past _ P 5 _ (by simpa using hPZ)
        rw [hcm9] at R0 R1 R2 R3
        clear hcm9
        clear q1 q2 q3 w1 w2 o2 o3 t2 t3 hA9 HEND HFM HFN
        go_wp2
        go_ret
        exact ⟨rfl, _, _, unhide R0, unhide R1, unhide R2, unhide R3⟩
end Go.Proofs.YthpjogfclklefaaDoor

/-
  What marking does to a box's mails (plain mathematics); slices.Clone of numbers, appends of places, over this seat's program.
-/
set_option linter.unusedVariables false
set_option linter.unusedSimpArgs false
namespace Go.Proofs.YthpjogfclklefaaDoor
open Go.RowKit

def mkM (c : Chg) (m : Msg) : Msg := ⟨m.uid, markF c.kd m.fl c.fl, m.dy, m.sc, m.zn, m.raw⟩
def markM (c : Chg) (m : Msg) : Msg := if m.uid ∈ c.us then mkM c m else m
def allIn (b : Bx) (c : Chg) : Bool := c.us.all (fun u => decide (u ∈ uidsM b.ms))
def markB (b : Bx) (c : Chg) : Bx := if allIn b c = true then ⟨b.va, b.nx, b.mr, b.la, b.ms.map (markM c)⟩ else b
def markT (b : Bx) (c : Chg) : List Nat := if allIn b c = true then c.us else []
def markE (b : Bx) (c : Chg) : Nat := if allIn b c = true then 0 else 3
/-- The mails behind the first places' marking. -/
def mkL (c : Chg) (l : List Msg) : List Nat → List Msg
  | [] => l
  | i :: r => mkL c (l.modify i (mkM c)) r
theorem mkL_snoc (c : Chg) (r : List Nat) : ∀ (l : List Msg) (i : Nat), mkL c l (r ++ [i]) = (mkL c l r).modify i (mkM c) := by
  induction r with
  | nil => intro l i; rfl
  | cons x r ih => intro l i; exact ih _ i
theorem mkL_len (c : Chg) (r : List Nat) : ∀ l : List Msg, (mkL c l r).length = l.length := by
  induction r with
  | nil => intro l; rfl
  | cons x r ih => intro l; show (mkL c (l.modify x (mkM c)) r).length = _; rw [ih]; simp
theorem mkM_fit {c : Chg} {m : Msg} (hc : c.fl ≤ 255) (h : FitM m) : FitM (mkM c m) := ⟨h.1, markF_le h.2.1 hc, h.2.2⟩
theorem modify_mem {l : List Msg} {i : Nat} {f : Msg → Msg} {x : Msg} (h : x ∈ l.modify i f) : x ∈ l ∨ ∃ y ∈ l, x = f y := by
  obtain ⟨k, hk, rfl⟩ := List.getElem_of_mem h
  rw [List.getElem_modify]
  rw [List.length_modify] at hk
  split
  · exact Or.inr ⟨_, List.getElem_mem hk, rfl⟩
  · exact Or.inl (List.getElem_mem hk)
theorem mkL_fit {c : Chg} (hc : c.fl ≤ 255) (r : List Nat) : ∀ {l : List Msg}, (∀ m ∈ l, FitM m) → ∀ m ∈ mkL c l r, FitM m := by
  induction r with
  | nil => intro l h; exact h
  | cons x r ih =>
    intro l h
    refine ih (fun m hm => ?_)
    rcases modify_mem hm with h1 | ⟨y, hy, rfl⟩
    · exact h m h1
    · exact mkM_fit hc (h y hy)
/-- Where places do not come twice each is marked once. -/
theorem mkL_get (c : Chg) (r : List Nat) : ∀ (l : List Msg) (i : Nat), r.Nodup → (mkL c l r)[i]? = (l[i]?).map (fun m => if i ∈ r then mkM c m else m) := by
  induction r with
  | nil => intro l i _; simp [mkL]
  | cons x r ih =>
    intro l i hn
    rw [List.nodup_cons] at hn
    show (mkL c (l.modify x (mkM c)) r)[i]? = _
    rw [ih _ i hn.2, List.getElem?_modify]
    cases hl : l[i]? with
    | none => simp
    | some m =>
      by_cases hx : x = i
      · subst hx
        simp [hn.1]
      · have hx2 : ¬ i = x := fun e => hx e.symm
        simp [hx, hx2]
theorem AtU.inj {l : List Msg} {i u u' : Nat} (h : AtU l i u) (h' : AtU l i u') : u = u' := by
  obtain ⟨m, hm, hu⟩ := h
  obtain ⟨m', hm', hu'⟩ := h'
  rw [hm] at hm'
  injection hm' with e
  rw [← hu, ← hu', e]
/-- The places of all numbers, marked, are all mails, marked. -/
theorem mkL_all {c : Chg} {l : List Msg} {pl : List Nat} (hr : (uidsM l).Pairwise (· < ·)) (hus : c.us.Pairwise (· < ·)) (hlen : pl.length = c.us.length) (hat : ∀ i (h : i < pl.length), ∃ u, c.us[i]? = some u ∧ AtU l pl[i] u) : mkL c l pl = l.map (markM c) := by
  have hnd : pl.Nodup := by
    rw [List.nodup_iff_pairwise_ne, List.pairwise_iff_getElem]
    intro i j hi hj hij he
    obtain ⟨u, hu, h1⟩ := hat i hi
    obtain ⟨v, hv, h2⟩ := hat j hj
    rw [← he] at h2
    have := h1.inj h2
    subst this
    obtain ⟨a1, a2⟩ := List.getElem?_eq_some_iff.1 hu
    obtain ⟨b1, b2⟩ := List.getElem?_eq_some_iff.1 hv
    have := List.pairwise_iff_getElem.1 hus i j a1 b1 hij
    omega
  apply List.ext_getElem?
  intro i
  rw [mkL_get c pl l i hnd, List.getElem?_map]
  cases hl : l[i]? with
  | none => rfl
  | some m =>
    simp only [Option.map_some, Option.some.injEq]
    unfold markM
    have key : i ∈ pl ↔ m.uid ∈ c.us := by
      constructor
      · intro h
        obtain ⟨k, hk, rfl⟩ := List.getElem_of_mem h
        obtain ⟨u, hu, h1⟩ := hat k hk
        have := h1.inj ⟨m, hl, rfl⟩
        subst this
        exact List.mem_of_getElem? hu
      · intro h
        obtain ⟨k, hk, he⟩ := List.getElem_of_mem h
        obtain ⟨u, hu, h1⟩ := hat k (by omega)
        rw [List.getElem?_eq_getElem hk] at hu
        injection hu with hu
        have h2 : AtU l i u := ⟨m, hl, by rw [← he, hu]⟩
        have : pl[k]'(by omega) = i := (h1.idx hr).symm.trans (h2.idx hr)
        rw [← this]
        exact List.getElem_mem _
    by_cases hi : i ∈ pl
    · rw [if_pos hi, if_pos (key.1 hi)]
    · rw [if_neg hi, if_neg (fun h => hi (key.2 h))]

def cellsI (n : Nat) : List Value := [.int .i64 (n : Int)]
theorem cellsI_len (n : Nat) : (cellsI n).length = 1 := rfl
theorem intInfo : (Tryd.prog.info? 3).map (fun i => (i.zero, i.size, i.bytes)) = some (some (.int .i64 0), 1, 8) := by kernel_rfl
theorem run_appI (w : World) (B : Nat) (v : Value) (l : List Nat) (p : Nat) (ty : TypeId) (hown : w.ownsRow B 3 1 v l.length (flatG cellsI l)) (hl : l.length ≤ 4194304) (hB : B ≤ w.heap.size) :
    ∃ v' w', (Builtin.append_ #[77, 77] ty #[v, .slice (some ⟨w.heap.size, 0, none⟩) 1 1]).run Tryd.prog (w.alloc (.cells #[.int .i64 (p : Int)] 3)) = .ok v' w' ∧ w'.ownsRow B 3 1 v' (l ++ [p]).length (flatG cellsI (l ++ [p])) ∧ Below B w w' :=
  run_appG cellsI 1 8 cellsI_len 3 77 (.int .i64 0) Tryd.underlying77 intInfo rfl (by decide) (by decide) (by decide) (by intro x u hu; simp [cellsI] at hu; subst hu; rfl) w B v l p ty hown hl hB

set_option maxHeartbeats 2000000 in
set_option maxRecDepth 100000 in
theorem clone32_at (a : Addr) (n c : Nat) (news : List Value) (w : World) (hl : news.length = n * 1) (hn : n ≤ 4194304) (hc : ∀ j u, news[j]? = some u → w.cell? (a.add j) = some u) (h1 : ∀ u ∈ news, u.oneCell' = true) :
    Calls Tryd.prog 49 #[.slice (some a) n c] w fun e w' => ∃ v', e = .returned v' ∧ w'.ownsRow w.heap.size 22 1 v' n news ∧ Below w.heap.size w w' := by
  obtain ⟨i0, hi, hz0, hz1, hz2⟩ := info_parts u32Info
  have q22 : ∀ (w : World) (a : Option Addr) (n c n' c' : Nat), (binOp .eql 28 (.slice a n c) (.slice none n' c')).run Tryd.prog w = .ok (.bool a.isNone) w := fun w a n c n' c' => Lib.run_eql_slice_nil w _ _ a n c n' c' Tryd.underlying28
  have HC := hide hc
  clear hc
  go_enter Tryd.func49, Tryd.ntmps49
  go_wp2_with (at_builtin; refine wpList_append_own _ rfl _ _ 28 rfl w.heap.size 22 i0 _ 1 4 Tryd.underlying28 hi hz0 hz1 hz2 rfl (by decide) _ _ _ rfl (World.ownsRow_made w #[] 0 (Nat.le_refl _) (Nat.zero_le _) (by simp)) a n c news rfl ?qc1 ?qc2 ?qc3 ?qc4 ?qc5 ?qc6 ?_)
  case qc1 => exact hl
  case qc2 =>
    intro j u hj
    have := unhide HC j u hj
    rw [← this]
    exact ((Below.refl w.heap.size w).alloc (Nat.le_refl _) _).cell (World.block_lt_of_cell? w _ this)
  case qc3 => exact h1
  case qc4 => unfold maxLen; omega
  case qc5 => omega
  case qc6 => simp
  intro v' w1 hown hgrow hnil
  go_wp2
  go_ret
  refine ⟨v', rfl, by simpa using hown, ?_⟩
  exact ((Below.refl _ w).alloc (Nat.le_refl _) _).grown hgrow (by simp) (by intro k hk; simp [Value.ownBlock] at hk; omega)
theorem bclone32_any (v : Value) (l : List Nat) (w : World) (hn : l.length ≤ 4194304) (h : Row32 w v l) :
    Calls Tryd.prog 49 #[v] w fun e w' => ∃ v', e = .returned v' ∧ w'.ownsRow w.heap.size 22 1 v' l.length (flatG cells32 l) ∧ Below w.heap.size w w' := by
  obtain ⟨a, cap, rfl, _, _, hc⟩ := h
  rcases hc with rfl | ⟨b, off, rfl, hb, hc⟩
  · cases a with
    | none =>
      refine (Tryd.slices_Clone_nil 0 cap w).mono ?_
      rintro e w1 ⟨rfl, rfl⟩
      exact ⟨_, rfl, World.ownsRow_nil _ _ _ _, Below.refl _ _⟩
    | some a => exact clone32_at a 0 cap [] w rfl (by omega) (fun j u hj => by simp at hj) (fun u hu => by simp at hu)
  · refine clone32_at ⟨b, off, none⟩ l.length cap (flatG cells32 l) w (flatG_length cells32_len l) hn (fun j u hj => ?_) (fun u hu => ?_)
    · rw [Addr.add_lit]
      exact hc j u hj
    · obtain ⟨x, _, hx⟩ := List.mem_flatMap.1 hu
      simp [cells32] at hx
      subst hx
      rfl
end Go.Proofs.YthpjogfclklefaaDoor
