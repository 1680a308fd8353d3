/-
  What (*box.work).put does, over this seat's program.
-/
import Derived.Test.YtnhcpkcpgpobdaaDoorBxp
set_option linter.unusedVariables false
set_option linter.unusedSimpArgs false
namespace Go.Proofs.YtnhcpkcpgpobdaaDoor
open Go.RowKit

def fullB (b : Bx) : Bool := decide (4294967295 < b.nx) || decide (b.ms.length = 4096)
def newM (b : Bx) (c : Chg) : Msg := ⟨b.nx, c.fl, c.dy, c.sc, c.zn, c.raw⟩
def putB (b : Bx) (c : Chg) : Bx := if fullB b = true then b else ⟨b.va, b.nx + 1, b.mr, b.la, b.ms ++ [newM b c]⟩
def putT (b : Bx) : List Nat := if fullB b = true then [] else [b.nx]
def putE (b : Bx) : Nat := if fullB b = true then 8 else 0
theorem row32_lit (W : World) (B u : Nat) (hu : u ≤ 4294967295) (hB : B ≤ W.heap.size) : (W.alloc (.cells #[.int .u32 (u : Int)] 22)).ownsRow B 22 1 (.slice (some ⟨W.heap.size, 0, none⟩) 1 1) [u].length (flatG cells32 [u]) :=
  World.ownsRow_lit W (cells32 u).toArray 1 hB (by unfold maxLen; omega) rfl

set_option maxHeartbeats 8000000 in
set_option maxRecDepth 100000 in
theorem put_any (P C0 B : Nat) (b : Bx) (c : Chg) (vm vc : Value) (W : World)
    (KP : Blk W P 61 (wkC b vm (.slice none 0 0)))
    (OM : W.ownsRow C0 47 6 vm b.ms.length (flatG msC b.ms)) (hfm : ∀ m ∈ b.ms, FitM m) (hn : b.ms.length ≤ 4096)
    (hnx : 1 ≤ b.nx ∧ b.nx ≤ 4294967296) (hfc : FitC c) (hvc : ∃ a n cap, vc = .slice a n cap) (hP : B ≤ P) (hC : B ≤ C0) (hC2 : C0 ≤ W.heap.size) :
    Calls Tryd.prog 41 #[.pointer (some ⟨P, 0, none⟩), chV c vc] W fun e W' => e = .returned (.int .i64 (putE b : Int)) ∧ ∃ vm' vt', Blk W' P 61 (wkC (putB b c) vm' vt') ∧ OutM W' vm' (putB b c).ms ∧ OutT W' vt' (putT b) ∧ Below B W W' := by
  obtain ⟨kd, us, fl, dy, sc, zn, raw⟩ := c
  obtain ⟨au, un, cu, rfl⟩ := hvc
  obtain ⟨va, nx, mr, la, ms⟩ := b
  simp only [FitC] at hfc
  simp only at hn hnx
  obtain ⟨hkd, hfl, hd1, hs1, hz1, hraw⟩ := hfc
  obtain ⟨am, cm, rfl, hcm⟩ := own_sliceG OM
  have hPW := KP.lt
  have hA : Below W.heap.size W (W.alloc (.cells #[.int .u8 (kd : Int), .slice au un cu, .int .u8 (fl : Int), .int .i64 dy, .int .i64 sc, .int .i64 zn, .string raw] 33)) := (Below.refl _ W).alloc (Nat.le_refl _) _
  have KQ := Blk.new W 33 #[.int .u8 (kd : Int), .slice au un cu, .int .u8 (fl : Int), .int .i64 dy, .int .i64 sc, .int .i64 zn, .string raw]
  have KP1 := KP.below hA
  have OM1 := own_below OM hA
  have HAA := hide hA
  obtain ⟨n, hnn⟩ : ∃ n, ms.length = n := ⟨_, rfl⟩
  simp only at OM OM1 hfm
  have k1 := KP1.cell 1
  have k4 := KP1.cell 4
  simp only [wkC, List.getElem?_toArray, List.getElem?_cons_succ, List.getElem?_cons_zero] at k1 k4
  rw [hnn] at hn k4
  have HKP := hide KP1
  have HKQ := hide KQ
  have HOM := hide OM1
  have HFM := hide hfm
  simp only [chV, chC]
  by_cases hful : fullB ⟨va, nx, mr, la, ms⟩ = true
  · have e1 : putE ⟨va, nx, mr, la, ms⟩ = 8 := by unfold putE; rw [if_pos hful]
    have e2 : putT ⟨va, nx, mr, la, ms⟩ = [] := by unfold putT; rw [if_pos hful]
    have e3 : putB ⟨va, nx, mr, la, ms⟩ ⟨kd, us, fl, dy, sc, zn, raw⟩ = ⟨va, nx, mr, la, ms⟩ := by unfold putB; rw [if_pos hful]
    rw [e1, e2, e3]
    have R1 := hide (show OutM _ _ ms from ⟨own_zero OM1, hfm, by omega⟩)
    rw [hnn] at OM1
    unfold fullB at hful
    simp only [Bool.or_eq_true, decide_eq_true_eq, hnn] at hful
    rw [show (Value.slice am ms.length cm) = Value.slice am n cm by rw [hnn]] at R1 HKP
    have HB := hide (hA.mono (show B ≤ W.heap.size by omega))
    clear e1 e2 e3 hfm hnn KP1 KQ OM1 hd1 hs1 hz1 HOM HKQ hA OM KP HFM HAA
    by_cases h1 : 4294967295 < nx
    · have d1 : decide ((nx : Int) > 4294967295) = true := decide_eq_true (by omega)
      clear hful h1 hnx
      go_enter Tryd.func41, Tryd.ntmps41
      go_wp2
      go_ret
      exact ⟨rfl, _, _, unhide HKP, unhide R1, OutT.nil _, unhide HB⟩
    · have d1 : decide ((nx : Int) > 4294967295) = false := decide_eq_false (by omega)
      have d2 : ((n : Int) == 4096) = true := by simp; omega
      clear hful h1 hnx
      go_enter Tryd.func41, Tryd.ntmps41
      go_wp2
      go_ret
      exact ⟨rfl, _, _, unhide HKP, unhide R1, OutT.nil _, unhide HB⟩
  · have e1 : putE ⟨va, nx, mr, la, ms⟩ = 0 := by unfold putE; rw [if_neg hful]
    have e2 : putT ⟨va, nx, mr, la, ms⟩ = [nx] := by unfold putT; rw [if_neg hful]
    have e3 : putB ⟨va, nx, mr, la, ms⟩ ⟨kd, us, fl, dy, sc, zn, raw⟩ = ⟨va, nx + 1, mr, la, ms ++ [Msg.mk nx fl dy sc zn raw]⟩ := by unfold putB; rw [if_neg hful]; rfl
    rw [e1, e2, e3]
    unfold fullB at hful
    simp only [Bool.or_eq_true, decide_eq_true_eq, hnn, not_or] at hful
    obtain ⟨h1, h2⟩ := hful
    have d1 : decide ((nx : Int) > 4294967295) = false := decide_eq_false (by omega)
    have d2 : ((n : Int) == 4096) = false := by simp; omega
    have hnx4 : nx ≤ 4294967295 := by omega
    have hwr : IntKind.u32.wrap (nx : Int) = (nx : Int) := by rw [IntKind.wrap_u32']; omega
    have hfn : FitM ⟨nx, fl, dy, sc, zn, raw⟩ := ⟨hnx4, hfl, hd1, hs1, hz1, hraw⟩
    have HFN := hide hfn
    have HCL := hide (fun X => bclone_any raw X (by omega))
    clear e1 e2 e3 hd1 hs1 hz1 KP1 KQ OM1 hfm hfn hA h1 h2
    go_enter Tryd.func41, Tryd.ntmps41
    go_upto_region 4 with (fail)
    generalize hV : W.alloc (.cells #[.int .u8 (kd : Int), .slice au un cu, .int .u8 (fl : Int), .int .i64 dy, .int .i64 sc, .int .i64 zn, .string raw] 33) = V at k1 k4 HKP HKQ HOM HAA ⊢
    have hVs : V.heap.size = W.heap.size + 1 := by rw [← hV, World.size_alloc]
    generalize hQ : W.heap.size = Q at HKQ HAA hVs hC2 hPW ⊢
    have HS := hide (fun X (hX : Blk X Q 33 #[.int .u8 (kd : Int), .slice au un cu, .int .u8 (fl : Int), .int .i64 dy, .int .i64 sc, .int .i64 zn, .string raw]) => (show (X.cell? ⟨Q, 2, none⟩ = some (.int .u8 (fl : Int)) ∧ X.cell? ⟨Q, 3, none⟩ = some (.int .i64 dy) ∧ X.cell? ⟨Q, 4, none⟩ = some (.int .i64 sc) ∧ X.cell? ⟨Q, 5, none⟩ = some (.int .i64 zn) ∧ X.cell? ⟨Q, 6, none⟩ = some (.string raw)) from ⟨hX.cell 2, hX.cell 3, hX.cell 4, hX.cell 5, hX.cell 6⟩))
    rw [hnn] at HKP
    have HKP4 : Hid (∀ X, Below V.heap.size V X → X.cell? ⟨P, 4, none⟩ = some (.slice am n cm)) := hide (fun X hX => by rw [((unhide HKP).below hX).cell 4]; rfl)
    have HKQS : Hid (∀ X, Below V.heap.size V X → (X.cell? ⟨Q, 2, none⟩ = some (.int .u8 (fl : Int)) ∧ X.cell? ⟨Q, 3, none⟩ = some (.int .i64 dy) ∧ X.cell? ⟨Q, 4, none⟩ = some (.int .i64 sc) ∧ X.cell? ⟨Q, 5, none⟩ = some (.int .i64 zn) ∧ X.cell? ⟨Q, 6, none⟩ = some (.string raw))) := hide (fun X hX => unhide HS _ ((unhide HKQ).below hX))
    have HFI : Hid (∀ X, Below V.heap.size V X → ∃ (av : Option Addr) (nv cv : Nat) (Y2 : World), (Builtin.append_ #[24, 24] 24 #[.slice am n cm, .slice (some ⟨X.heap.size, 0, none⟩) 1 1]).run Tryd.prog (X.alloc (.cells #[.int .u32 (nx : Int), .int .u8 (fl : Int), .int .i64 dy, .int .i64 sc, .int .i64 zn, .string raw] 47)) = .ok (.slice av nv cv) Y2 ∧ Y2.cell? ⟨P, 4, none⟩ = some (.slice am n cm) ∧ Y2.frozen? ⟨P, 4, none⟩ = false ∧ (Y2.cell? ⟨Q, 2, none⟩ = some (.int .u8 (fl : Int)) ∧ Y2.cell? ⟨Q, 3, none⟩ = some (.int .i64 dy) ∧ Y2.cell? ⟨Q, 4, none⟩ = some (.int .i64 sc) ∧ Y2.cell? ⟨Q, 5, none⟩ = some (.int .i64 zn) ∧ Y2.cell? ⟨Q, 6, none⟩ = some (.string raw)) ∧ ((Y2.setCell ⟨P, 4, none⟩ (.slice av nv cv)).cell? ⟨Q, 2, none⟩ = some (.int .u8 (fl : Int)) ∧ (Y2.setCell ⟨P, 4, none⟩ (.slice av nv cv)).cell? ⟨Q, 3, none⟩ = some (.int .i64 dy) ∧ (Y2.setCell ⟨P, 4, none⟩ (.slice av nv cv)).cell? ⟨Q, 4, none⟩ = some (.int .i64 sc) ∧ (Y2.setCell ⟨P, 4, none⟩ (.slice av nv cv)).cell? ⟨Q, 5, none⟩ = some (.int .i64 zn) ∧ (Y2.setCell ⟨P, 4, none⟩ (.slice av nv cv)).cell? ⟨Q, 6, none⟩ = some (.string raw)) ∧ Hid (Blk (Y2.setCell ⟨P, 4, none⟩ (.slice av nv cv)) P 61 (wkC ⟨va, nx, mr, la, ms⟩ (.slice av nv cv) (.slice none 0 0)) ∧ (Y2.setCell ⟨P, 4, none⟩ (.slice av nv cv)).ownsRow C0 47 6 (.slice av nv cv) (ms ++ [Msg.mk nx fl dy sc zn raw]).length (flatG msC (ms ++ [Msg.mk nx fl dy sc zn raw])) ∧ Below B W (Y2.setCell ⟨P, 4, none⟩ (.slice av nv cv)))) := hide (by
      intro X hX
      have hA2 : Below X.heap.size X (X.alloc (.cells #[.int .u32 (nx : Int), .int .u8 (fl : Int), .int .i64 dy, .int .i64 sc, .int .i64 zn, .string raw] 47)) := (Below.refl _ X).alloc (Nat.le_refl _) _
      have hs := hX.size
      have K1 := ((unhide HKP).below hX).below hA2
      have K2 := ((unhide HKQ).below hX).below hA2
      have O1 := own_below (own_below (unhide HOM) hX) hA2
      obtain ⟨v', Y2, hr, own2, bb2, gr2⟩ := run_appMg (X.alloc (.cells #[.int .u32 (nx : Int), .int .u8 (fl : Int), .int .i64 dy, .int .i64 sc, .int .i64 zn, .string raw] 47)) C0 X.heap.size (.slice am ms.length cm) ms ⟨nx, fl, dy, sc, zn, raw⟩ 24 O1 (by omega) (by rw [World.size_alloc]; omega) (Blk.new X 47 _)
      obtain ⟨av, cv, rfl, _⟩ := own_sliceG own2
      have K3 := blk_grownT K1 gr2 (own_neT O1 K1 (by decide))
      have K4 := blk_grownT K2 gr2 (own_neT O1 K2 (by decide))
      rw [hnn] at hr
      refine ⟨av, _, cv, Y2, hr, by rw [K3.cell 4]; rfl, K3.frozen 4, unhide HS _ K4, unhide HS _ (K4.other (a := ⟨P, 4, none⟩) (by simp; omega) _), ?_⟩
      refine hide ⟨K3.set 4 _, own_setT own2 K3 (by decide), ?_⟩
      have b1 : Below B W X := ((unhide HAA).mono (by omega)).trans (hX.mono (by omega))
      exact ((b1.trans (hA2.mono (by omega))).trans (bb2.mono hC)).setCell (p := ⟨P, 4, none⟩) hP _)
    have HN := hide hnn
    have HQE := hide hQ
    clear HS hV hQ k1 k4 HKQ HOM hnn
    refine wp_region_held_drew (S := (fun w' => (w'.cell? ⟨Q, 2, none⟩ = some (.int .u8 (fl : Int)) ∧ w'.cell? ⟨Q, 3, none⟩ = some (.int .i64 dy) ∧ w'.cell? ⟨Q, 4, none⟩ = some (.int .i64 sc) ∧ w'.cell? ⟨Q, 5, none⟩ = some (.int .i64 zn) ∧ w'.cell? ⟨Q, 6, none⟩ = some (.string raw)))) (by kernel_rfl) ?_ (fun hHeld => ?_)
    · exact unhide HKQS V (Below.refl _ _)
    refine wpAnyH_take (i := 0) (v := .pointer (some ⟨P, 0, none⟩)) rfl (by kernel_rfl) (by kernel_rfl) (by kernel_rfl) (fun _ _ _ h => h) (Or.inl ⟨by kernel_rfl, fun wS hSw => ?_⟩) (by assumption) ?_
    · (try dsimp only at hSw); go_simp
    (try simp only [Act.put, List.setIfInBounds_toArray, List.set_cons_zero, List.set_cons_succ])
    refine wpAnyH_take (i := 1) (v := .pointer (some ⟨P, 0, none⟩)) rfl (by kernel_rfl) (by kernel_rfl) (by kernel_rfl) (fun _ _ _ h => h) (Or.inl ⟨by kernel_rfl, fun wS hSw => ?_⟩) (by assumption) ?_
    · (try dsimp only at hSw); go_simp
    (try simp only [Act.put, List.setIfInBounds_toArray, List.set_cons_zero, List.set_cons_succ])
    refine wpAnyH_take (i := 2) (v := .pointer (some ⟨P, 0, none⟩)) rfl (by kernel_rfl) (by kernel_rfl) (by kernel_rfl) (fun _ _ _ h => h) (Or.inl ⟨by kernel_rfl, fun wS hSw => ?_⟩) (by assumption) ?_
    · (try dsimp only at hSw); go_simp
    (try simp only [Act.put, List.setIfInBounds_toArray, List.set_cons_zero, List.set_cons_succ])
    refine wpAnyH_take (i := 3) (v := .pointer (some ⟨P, 0, none⟩)) rfl (by kernel_rfl) (by kernel_rfl) (by kernel_rfl) (fun _ _ _ h => h) (Or.inl ⟨by kernel_rfl, fun wS hSw => ?_⟩) (by assumption) ?_
    · (try dsimp only at hSw); go_simp
    (try simp only [Act.put, List.setIfInBounds_toArray, List.set_cons_zero, List.set_cons_succ])
    refine wpAnyH_take (i := 4) (v := .pointer (some ⟨P, 4, none⟩)) rfl (by kernel_rfl) (by kernel_rfl) (by kernel_rfl) (fun _ _ _ h => h) (Or.inl ⟨by kernel_rfl, fun wS hSw => ?_⟩) (by assumption) ?_
    · (try dsimp only at hSw); go_simp
    (try simp only [Act.put, List.setIfInBounds_toArray, List.set_cons_zero, List.set_cons_succ])
    refine wpAnyH_take (i := 6) (v := .int .u32 (nx : Int)) rfl (by kernel_rfl) (by kernel_rfl) (by kernel_rfl) (fun _ _ _ h => h) (Or.inl ⟨by kernel_rfl, fun wS hSw => ?_⟩) (by assumption) ?_
    · (try dsimp only at hSw); go_simp
    (try simp only [Act.put, List.setIfInBounds_toArray, List.set_cons_zero, List.set_cons_succ])
    refine wpAnyH_take (i := 7) (v := .pointer (some ⟨Q, 2, none⟩)) rfl (by kernel_rfl) (by kernel_rfl) (by kernel_rfl) (fun _ _ _ h => h) (Or.inl ⟨by kernel_rfl, fun wS hSw => ?_⟩) (by assumption) ?_
    · (try dsimp only at hSw); go_simp
    (try simp only [Act.put, List.setIfInBounds_toArray, List.set_cons_zero, List.set_cons_succ])
    refine wpAnyH_take (i := 8) (v := .int .u8 (fl : Int)) rfl (by kernel_rfl) (by kernel_rfl) (by kernel_rfl) (fun _ _ _ h => h) (Or.inl ⟨by kernel_rfl, fun wS hSw => ?_⟩) (by assumption) ?_
    · (try dsimp only at hSw); go_simp
    (try simp only [Act.put, List.setIfInBounds_toArray, List.set_cons_zero, List.set_cons_succ])
    refine wpAnyH_take (i := 9) (v := .pointer (some ⟨Q, 3, none⟩)) rfl (by kernel_rfl) (by kernel_rfl) (by kernel_rfl) (fun _ _ _ h => h) (Or.inl ⟨by kernel_rfl, fun wS hSw => ?_⟩) (by assumption) ?_
    · (try dsimp only at hSw); go_simp
    (try simp only [Act.put, List.setIfInBounds_toArray, List.set_cons_zero, List.set_cons_succ])
    refine wpAnyH_take (i := 10) (v := .agg #[.int .i64 dy, .int .i64 sc, .int .i64 zn]) rfl (by kernel_rfl) (by kernel_rfl) (by kernel_rfl) (fun _ _ _ h => h) (Or.inl ⟨by kernel_rfl, fun wS hSw => ?_⟩) (by assumption) ?_
    · (try dsimp only at hSw); go_simp
    (try simp only [Act.put, List.setIfInBounds_toArray, List.set_cons_zero, List.set_cons_succ])
    refine wpAnyH_take (i := 11) (v := .pointer (some ⟨Q, 6, none⟩)) rfl (by kernel_rfl) (by kernel_rfl) (by kernel_rfl) (fun _ _ _ h => h) (Or.inl ⟨by kernel_rfl, fun wS hSw => ?_⟩) (by assumption) ?_
    · (try dsimp only at hSw); go_simp
    (try simp only [Act.put, List.setIfInBounds_toArray, List.set_cons_zero, List.set_cons_succ])
    refine wpAnyH_take (i := 12) (v := .string raw) rfl (by kernel_rfl) (by kernel_rfl) (by kernel_rfl) (fun _ _ _ h => h) (Or.inl ⟨by kernel_rfl, fun wS hSw => ?_⟩) (by assumption) ?_
    · (try dsimp only at hSw); go_simp
    (try simp only [Act.put, List.setIfInBounds_toArray, List.set_cons_zero, List.set_cons_succ])
    refine wpAnyH_ready (rs := [5, 13]) (by kernel_rfl) (by simp) ?_
    refine (AllReadyH.cons rfl (fun K hK => ?_) (AllReadyH.cons rfl (fun K hK => ?_) AllReadyH.nil))
    · have x4 := unhide HKP4 V (Below.refl _ _)
      go_simp
      refine hK.out _ _ ?_ (fun hHeld => ?_)
      · exact unhide HKQS V (Below.refl _ _)
      clear hK K
      (try simp only [Act.put, List.setIfInBounds_toArray, List.set_cons_zero, List.set_cons_succ])
      refine wpAnyH_ready (rs := [13]) (by kernel_rfl) (by simp) ?_
      refine AllReadyH.cons rfl (fun K hK => ?_) AllReadyH.nil
      go_simp
      refine (unhide HCL _).mono ?_
      rintro e X1 ⟨rfl, b13⟩
      have bX : Below V.heap.size V X1 := ⟨b13.os, b13.tape, b13.output, b13.size, b13.block⟩
      clear b13
      obtain ⟨av, nv, cv, Y2, hr, y4, yf, s2, s3, HEND⟩ := unhide HFI _ bX
      go_wp2_with fail
      refine hK.out _ _ ?_ (fun hHeld => ?_)
      · exact unhide HKQS _ bX
      clear hK K
      (try simp only [Act.put, List.setIfInBounds_toArray, List.set_cons_zero, List.set_cons_succ])
      refine wpAnyH_take (i := 14) (v := .agg #[.int .u32 (nx : Int), .int .u8 (fl : Int), .int .i64 dy, .int .i64 sc, .int .i64 zn, .string raw]) rfl (by kernel_rfl) (by kernel_rfl) (by kernel_rfl) (fun _ _ _ h => h) (Or.inl ⟨by kernel_rfl, fun wS hSw => ?_⟩) (by assumption) ?_
      · (try dsimp only at hSw); go_simp
      (try simp only [Act.put, List.setIfInBounds_toArray, List.set_cons_zero, List.set_cons_succ])
      refine wpAnyH_ready (rs := [15]) (by kernel_rfl) (by simp) ?_
      refine AllReadyH.cons rfl (fun K hK => ?_) AllReadyH.nil
      go_simp
      refine hK.out _ _ ?_ (fun hHeld => ?_)
      · exact unhide HKQS _ (bX.alloc bX.size _)
      clear hK K
      (try simp only [Act.put, List.setIfInBounds_toArray, List.set_cons_zero, List.set_cons_succ])
      refine wpAnyH_ready (rs := [16]) (by kernel_rfl) (by simp) ?_
      refine AllReadyH.cons rfl (fun K hK => ?_) AllReadyH.nil
      refine step_append_runB rfl (.tmp 32) (.tmp 42) 24 24 rfl _ _ _ (by simp [Act.eval]) (by simp [Act.eval]) hr ?_
      refine hK.out _ _ ?_ (fun hHeld => ?_)
      · exact s2
      clear hK K
      (try simp only [Act.put, List.setIfInBounds_toArray, List.set_cons_zero, List.set_cons_succ])
      refine wpAnyH_take (i := 17) (v := .pointer (some ⟨P, 0, none⟩)) rfl (by kernel_rfl) (by kernel_rfl) (by kernel_rfl) (fun _ _ _ h => h) (Or.inl ⟨by kernel_rfl, fun wS hSw => ?_⟩) (by assumption) ?_
      · (try dsimp only at hSw); go_simp
      (try simp only [Act.put, List.setIfInBounds_toArray, List.set_cons_zero, List.set_cons_succ])
      refine wpAnyH_take (i := 18) (v := .pointer (some ⟨P, 0, none⟩)) rfl (by kernel_rfl) (by kernel_rfl) (by kernel_rfl) (fun _ _ _ h => h) (Or.inl ⟨by kernel_rfl, fun wS hSw => ?_⟩) (by assumption) ?_
      · (try dsimp only at hSw); go_simp
      (try simp only [Act.put, List.setIfInBounds_toArray, List.set_cons_zero, List.set_cons_succ])
      refine wpAnyH_take (i := 19) (v := .pointer (some ⟨P, 4, none⟩)) rfl (by kernel_rfl) (by kernel_rfl) (by kernel_rfl) (fun _ _ _ h => h) (Or.inl ⟨by kernel_rfl, fun wS hSw => ?_⟩) (by assumption) ?_
      · (try dsimp only at hSw); go_simp
      (try simp only [Act.put, List.setIfInBounds_toArray, List.set_cons_zero, List.set_cons_succ])
      refine wpAnyH_ready (rs := [20]) (by kernel_rfl) (by simp) ?_
      refine AllReadyH.cons rfl (fun K hK => ?_) AllReadyH.nil
      go_simp
      refine hK.out _ _ ?_ (fun hHeld => ?_)
      · exact s3
      clear hK K
      (try simp only [Act.put, List.setIfInBounds_toArray, List.set_cons_zero, List.set_cons_succ])
      refine wpAnyH_done (by kernel_rfl) ?_ _
      clear hHeld y4 yf s2 s3 HFI HKQS HKP4 HCL hr bX HKP
      obtain ⟨q1, q2, q3⟩ := unhide HEND
      have g1 := q1.cell 1
      have gf1 := q1.frozen 1
      have g5 := q1.cell 5
      have gf5 := q1.frozen 5
      simp only [wkC, List.getElem?_toArray, List.getElem?_cons_succ, List.getElem?_cons_zero] at g1 g5
      have hq3 := q3.size
      generalize Y2.setCell ⟨P, 4, none⟩ (.slice av nv cv) = Z at q1 q2 q3 g1 gf1 g5 gf5 hq3 ⊢
      have hnw : IntKind.u64.wrap ((nx : Int) + 1) = ((nx + 1 : Nat) : Int) := by rw [IntKind.wrap_u64]; omega
      have w1 := q1.set 1 (.int .u64 ((nx + 1 : Nat) : Int))
      have hA9 : Below (Z.setCell ⟨P, 1, none⟩ (.int .u64 ((nx + 1 : Nat) : Int))).heap.size (Z.setCell ⟨P, 1, none⟩ (.int .u64 ((nx + 1 : Nat) : Int))) ((Z.setCell ⟨P, 1, none⟩ (.int .u64 ((nx + 1 : Nat) : Int))).alloc (.cells #[.int .u32 (nx : Int)] 22)) := (Below.refl _ _).alloc (Nat.le_refl _) _
      have w2 := w1.below hA9
      have o2 := own_below (own_setT (i := 1) (u := .int .u64 ((nx + 1 : Nat) : Int)) q2 q1 (by decide)) hA9
      have o3 := own_setT (i := 5) (u := .slice (some ⟨Z.heap.size, 0, none⟩) 1 1) o2 w2 (by decide)
      have t2 := row32_lit (Z.setCell ⟨P, 1, none⟩ (.int .u64 ((nx + 1 : Nat) : Int))) 0 nx hnx4 (Nat.zero_le _)
      simp only [World.size_setCell] at t2
      have hPZ : P < Z.heap.size := q1.lt
      have gf5b := w2.frozen 5
      have t3 := own_setT (i := 5) (u := .slice (some ⟨Z.heap.size, 0, none⟩) 1 1) t2 w2 (by decide)
      have R0 := hide (w2.set 5 (.slice (some ⟨Z.heap.size, 0, none⟩) 1 1))
      have R1 := hide (show OutM _ _ (ms ++ [Msg.mk nx fl dy sc zn raw]) from ⟨own_zero o3, by
        intro m hm
        rcases List.mem_append.1 hm with h | h
        · exact unhide HFM m h
        · rw [List.mem_singleton.1 h]; exact unhide HFN, by rw [List.length_append, List.length_singleton]; have := unhide HN; omega⟩)
      have R2 := hide (show OutT _ _ [nx] from ⟨own_zero t3, by simpa using hnx4, by simp⟩)
      have R3 := hide (((q3.setCell (p := ⟨P, 1, none⟩) hP (.int .u64 ((nx + 1 : Nat) : Int))).alloc (by have := hq3; have := unhide HQE; simp; omega) (.cells #[.int .u32 (nx : Int)] 22)).setCell (p := ⟨P, 5, none⟩) hP (.slice (some ⟨Z.heap.size, 0, none⟩) 1 1))
      have hcm9 : ((Z.setCell ⟨P, 1, none⟩ (.int .u64 ((nx + 1 : Nat) : Int))).alloc (.cells #[.int .u32 (nx : Int)] 22)).setCell ⟨P, 5, none⟩ (.slice (some ⟨Z.heap.size, 0, none⟩) 1 1) = ((Z.setCell ⟨P, 1, none⟩ (.int .u64 ((nx + 1 : Nat) : Int))).setCell ⟨P, 5, none⟩ (.slice (some ⟨Z.heap.size, 0, none⟩) 1 1)).alloc (.cells #[.int .u32 (nx : Int)] 22) := by
        exact World.setCell_alloc_past _ P 5 _ (by simpa using hPZ)
      rw [hcm9] at R0 R1 R2 R3
      clear hcm9
      clear q1 q2 q3 w1 w2 o2 o3 t2 t3 hA9 HEND HFM HFN
      go_wp2
      go_ret
      exact ⟨rfl, _, _, unhide R0, unhide R1, unhide R2, unhide R3⟩
    · go_simp
      refine (unhide HCL _).mono ?_
      rintro e X1 ⟨rfl, b13⟩
      have bX : Below V.heap.size V X1 := ⟨b13.os, b13.tape, b13.output, b13.size, b13.block⟩
      clear b13
      obtain ⟨av, nv, cv, Y2, hr, y4, yf, s2, s3, HEND⟩ := unhide HFI _ bX
      go_wp2_with fail
      refine hK.out _ _ ?_ (fun hHeld => ?_)
      · exact unhide HKQS _ bX
      clear hK K
      (try simp only [Act.put, List.setIfInBounds_toArray, List.set_cons_zero, List.set_cons_succ])
      refine wpAnyH_take (i := 14) (v := .agg #[.int .u32 (nx : Int), .int .u8 (fl : Int), .int .i64 dy, .int .i64 sc, .int .i64 zn, .string raw]) rfl (by kernel_rfl) (by kernel_rfl) (by kernel_rfl) (fun _ _ _ h => h) (Or.inl ⟨by kernel_rfl, fun wS hSw => ?_⟩) (by assumption) ?_
      · (try dsimp only at hSw); go_simp
      (try simp only [Act.put, List.setIfInBounds_toArray, List.set_cons_zero, List.set_cons_succ])
      refine wpAnyH_ready (rs := [5, 15]) (by kernel_rfl) (by simp) ?_
      refine (AllReadyH.cons rfl (fun K hK => ?_) (AllReadyH.cons rfl (fun K hK => ?_) AllReadyH.nil))
      · have x4 := unhide HKP4 X1 bX
        go_simp
        refine hK.out _ _ ?_ (fun hHeld => ?_)
        · exact unhide HKQS _ bX
        clear hK K
        (try simp only [Act.put, List.setIfInBounds_toArray, List.set_cons_zero, List.set_cons_succ])
        refine wpAnyH_ready (rs := [15]) (by kernel_rfl) (by simp) ?_
        refine AllReadyH.cons rfl (fun K hK => ?_) AllReadyH.nil
        go_simp
        refine hK.out _ _ ?_ (fun hHeld => ?_)
        · exact unhide HKQS _ (bX.alloc bX.size _)
        clear hK K
        (try simp only [Act.put, List.setIfInBounds_toArray, List.set_cons_zero, List.set_cons_succ])
        refine wpAnyH_ready (rs := [16]) (by kernel_rfl) (by simp) ?_
        refine AllReadyH.cons rfl (fun K hK => ?_) AllReadyH.nil
        refine step_append_runB rfl (.tmp 32) (.tmp 42) 24 24 rfl _ _ _ (by simp [Act.eval]) (by simp [Act.eval]) hr ?_
        refine hK.out _ _ ?_ (fun hHeld => ?_)
        · exact s2
        clear hK K
        (try simp only [Act.put, List.setIfInBounds_toArray, List.set_cons_zero, List.set_cons_succ])
        refine wpAnyH_take (i := 17) (v := .pointer (some ⟨P, 0, none⟩)) rfl (by kernel_rfl) (by kernel_rfl) (by kernel_rfl) (fun _ _ _ h => h) (Or.inl ⟨by kernel_rfl, fun wS hSw => ?_⟩) (by assumption) ?_
        · (try dsimp only at hSw); go_simp
        (try simp only [Act.put, List.setIfInBounds_toArray, List.set_cons_zero, List.set_cons_succ])
        refine wpAnyH_take (i := 18) (v := .pointer (some ⟨P, 0, none⟩)) rfl (by kernel_rfl) (by kernel_rfl) (by kernel_rfl) (fun _ _ _ h => h) (Or.inl ⟨by kernel_rfl, fun wS hSw => ?_⟩) (by assumption) ?_
        · (try dsimp only at hSw); go_simp
        (try simp only [Act.put, List.setIfInBounds_toArray, List.set_cons_zero, List.set_cons_succ])
        refine wpAnyH_take (i := 19) (v := .pointer (some ⟨P, 4, none⟩)) rfl (by kernel_rfl) (by kernel_rfl) (by kernel_rfl) (fun _ _ _ h => h) (Or.inl ⟨by kernel_rfl, fun wS hSw => ?_⟩) (by assumption) ?_
        · (try dsimp only at hSw); go_simp
        (try simp only [Act.put, List.setIfInBounds_toArray, List.set_cons_zero, List.set_cons_succ])
        refine wpAnyH_ready (rs := [20]) (by kernel_rfl) (by simp) ?_
        refine AllReadyH.cons rfl (fun K hK => ?_) AllReadyH.nil
        go_simp
        refine hK.out _ _ ?_ (fun hHeld => ?_)
        · exact s3
        clear hK K
        (try simp only [Act.put, List.setIfInBounds_toArray, List.set_cons_zero, List.set_cons_succ])
        refine wpAnyH_done (by kernel_rfl) ?_ _
        clear hHeld y4 yf s2 s3 HFI HKQS HKP4 HCL hr bX HKP
        obtain ⟨q1, q2, q3⟩ := unhide HEND
        have g1 := q1.cell 1
        have gf1 := q1.frozen 1
        have g5 := q1.cell 5
        have gf5 := q1.frozen 5
        simp only [wkC, List.getElem?_toArray, List.getElem?_cons_succ, List.getElem?_cons_zero] at g1 g5
        have hq3 := q3.size
        generalize Y2.setCell ⟨P, 4, none⟩ (.slice av nv cv) = Z at q1 q2 q3 g1 gf1 g5 gf5 hq3 ⊢
        have hnw : IntKind.u64.wrap ((nx : Int) + 1) = ((nx + 1 : Nat) : Int) := by rw [IntKind.wrap_u64]; omega
        have w1 := q1.set 1 (.int .u64 ((nx + 1 : Nat) : Int))
        have hA9 : Below (Z.setCell ⟨P, 1, none⟩ (.int .u64 ((nx + 1 : Nat) : Int))).heap.size (Z.setCell ⟨P, 1, none⟩ (.int .u64 ((nx + 1 : Nat) : Int))) ((Z.setCell ⟨P, 1, none⟩ (.int .u64 ((nx + 1 : Nat) : Int))).alloc (.cells #[.int .u32 (nx : Int)] 22)) := (Below.refl _ _).alloc (Nat.le_refl _) _
        have w2 := w1.below hA9
        have o2 := own_below (own_setT (i := 1) (u := .int .u64 ((nx + 1 : Nat) : Int)) q2 q1 (by decide)) hA9
        have o3 := own_setT (i := 5) (u := .slice (some ⟨Z.heap.size, 0, none⟩) 1 1) o2 w2 (by decide)
        have t2 := row32_lit (Z.setCell ⟨P, 1, none⟩ (.int .u64 ((nx + 1 : Nat) : Int))) 0 nx hnx4 (Nat.zero_le _)
        simp only [World.size_setCell] at t2
        have hPZ : P < Z.heap.size := q1.lt
        have gf5b := w2.frozen 5
        have t3 := own_setT (i := 5) (u := .slice (some ⟨Z.heap.size, 0, none⟩) 1 1) t2 w2 (by decide)
        have R0 := hide (w2.set 5 (.slice (some ⟨Z.heap.size, 0, none⟩) 1 1))
        have R1 := hide (show OutM _ _ (ms ++ [Msg.mk nx fl dy sc zn raw]) from ⟨own_zero o3, by
          intro m hm
          rcases List.mem_append.1 hm with h | h
          · exact unhide HFM m h
          · rw [List.mem_singleton.1 h]; exact unhide HFN, by rw [List.length_append, List.length_singleton]; have := unhide HN; omega⟩)
        have R2 := hide (show OutT _ _ [nx] from ⟨own_zero t3, by simpa using hnx4, by simp⟩)
        have R3 := hide (((q3.setCell (p := ⟨P, 1, none⟩) hP (.int .u64 ((nx + 1 : Nat) : Int))).alloc (by have := hq3; have := unhide HQE; simp; omega) (.cells #[.int .u32 (nx : Int)] 22)).setCell (p := ⟨P, 5, none⟩) hP (.slice (some ⟨Z.heap.size, 0, none⟩) 1 1))
        have hcm9 : ((Z.setCell ⟨P, 1, none⟩ (.int .u64 ((nx + 1 : Nat) : Int))).alloc (.cells #[.int .u32 (nx : Int)] 22)).setCell ⟨P, 5, none⟩ (.slice (some ⟨Z.heap.size, 0, none⟩) 1 1) = ((Z.setCell ⟨P, 1, none⟩ (.int .u64 ((nx + 1 : Nat) : Int))).setCell ⟨P, 5, none⟩ (.slice (some ⟨Z.heap.size, 0, none⟩) 1 1)).alloc (.cells #[.int .u32 (nx : Int)] 22) := by
          exact World.setCell_alloc_past _ P 5 _ (by simpa using hPZ)
        rw [hcm9] at R0 R1 R2 R3
        clear hcm9
        clear q1 q2 q3 w1 w2 o2 o3 t2 t3 hA9 HEND HFM HFN
        go_wp2
        go_ret
        exact ⟨rfl, _, _, unhide R0, unhide R1, unhide R2, unhide R3⟩
      · go_simp
        refine hK.out _ _ ?_ (fun hHeld => ?_)
        · exact unhide HKQS _ (bX.alloc bX.size _)
        clear hK K
        (try simp only [Act.put, List.setIfInBounds_toArray, List.set_cons_zero, List.set_cons_succ])
        refine wpAnyH_ready (rs := [5]) (by kernel_rfl) (by simp) ?_
        refine AllReadyH.cons rfl (fun K hK => ?_) AllReadyH.nil
        have x4 := unhide HKP4 (X1.alloc (.cells #[.int .u32 (nx : Int), .int .u8 (fl : Int), .int .i64 dy, .int .i64 sc, .int .i64 zn, .string raw] 47)) (bX.alloc bX.size _)
        go_simp
        refine hK.out _ _ ?_ (fun hHeld => ?_)
        · exact unhide HKQS _ (bX.alloc bX.size _)
        clear hK K
        (try simp only [Act.put, List.setIfInBounds_toArray, List.set_cons_zero, List.set_cons_succ])
        refine wpAnyH_ready (rs := [16]) (by kernel_rfl) (by simp) ?_
        refine AllReadyH.cons rfl (fun K hK => ?_) AllReadyH.nil
        refine step_append_runB rfl (.tmp 32) (.tmp 42) 24 24 rfl _ _ _ (by simp [Act.eval]) (by simp [Act.eval]) hr ?_
        refine hK.out _ _ ?_ (fun hHeld => ?_)
        · exact s2
        clear hK K
        (try simp only [Act.put, List.setIfInBounds_toArray, List.set_cons_zero, List.set_cons_succ])
        refine wpAnyH_take (i := 17) (v := .pointer (some ⟨P, 0, none⟩)) rfl (by kernel_rfl) (by kernel_rfl) (by kernel_rfl) (fun _ _ _ h => h) (Or.inl ⟨by kernel_rfl, fun wS hSw => ?_⟩) (by assumption) ?_
        · (try dsimp only at hSw); go_simp
        (try simp only [Act.put, List.setIfInBounds_toArray, List.set_cons_zero, List.set_cons_succ])
        refine wpAnyH_take (i := 18) (v := .pointer (some ⟨P, 0, none⟩)) rfl (by kernel_rfl) (by kernel_rfl) (by kernel_rfl) (fun _ _ _ h => h) (Or.inl ⟨by kernel_rfl, fun wS hSw => ?_⟩) (by assumption) ?_
        · (try dsimp only at hSw); go_simp
        (try simp only [Act.put, List.setIfInBounds_toArray, List.set_cons_zero, List.set_cons_succ])
        refine wpAnyH_take (i := 19) (v := .pointer (some ⟨P, 4, none⟩)) rfl (by kernel_rfl) (by kernel_rfl) (by kernel_rfl) (fun _ _ _ h => h) (Or.inl ⟨by kernel_rfl, fun wS hSw => ?_⟩) (by assumption) ?_
        · (try dsimp only at hSw); go_simp
        (try simp only [Act.put, List.setIfInBounds_toArray, List.set_cons_zero, List.set_cons_succ])
        refine wpAnyH_ready (rs := [20]) (by kernel_rfl) (by simp) ?_
        refine AllReadyH.cons rfl (fun K hK => ?_) AllReadyH.nil
        go_simp
        refine hK.out _ _ ?_ (fun hHeld => ?_)
        · exact s3
        clear hK K
        (try simp only [Act.put, List.setIfInBounds_toArray, List.set_cons_zero, List.set_cons_succ])
        refine wpAnyH_done (by kernel_rfl) ?_ _
        clear hHeld y4 yf s2 s3 HFI HKQS HKP4 HCL hr bX HKP
        obtain ⟨q1, q2, q3⟩ := unhide HEND
        have g1 := q1.cell 1
        have gf1 := q1.frozen 1
        have g5 := q1.cell 5
        have gf5 := q1.frozen 5
        simp only [wkC, List.getElem?_toArray, List.getElem?_cons_succ, List.getElem?_cons_zero] at g1 g5
        have hq3 := q3.size
        generalize Y2.setCell ⟨P, 4, none⟩ (.slice av nv cv) = Z at q1 q2 q3 g1 gf1 g5 gf5 hq3 ⊢
        have hnw : IntKind.u64.wrap ((nx : Int) + 1) = ((nx + 1 : Nat) : Int) := by rw [IntKind.wrap_u64]; omega
        have w1 := q1.set 1 (.int .u64 ((nx + 1 : Nat) : Int))
        have hA9 : Below (Z.setCell ⟨P, 1, none⟩ (.int .u64 ((nx + 1 : Nat) : Int))).heap.size (Z.setCell ⟨P, 1, none⟩ (.int .u64 ((nx + 1 : Nat) : Int))) ((Z.setCell ⟨P, 1, none⟩ (.int .u64 ((nx + 1 : Nat) : Int))).alloc (.cells #[.int .u32 (nx : Int)] 22)) := (Below.refl _ _).alloc (Nat.le_refl _) _
        have w2 := w1.below hA9
        have o2 := own_below (own_setT (i := 1) (u := .int .u64 ((nx + 1 : Nat) : Int)) q2 q1 (by decide)) hA9
        have o3 := own_setT (i := 5) (u := .slice (some ⟨Z.heap.size, 0, none⟩) 1 1) o2 w2 (by decide)
        have t2 := row32_lit (Z.setCell ⟨P, 1, none⟩ (.int .u64 ((nx + 1 : Nat) : Int))) 0 nx hnx4 (Nat.zero_le _)
        simp only [World.size_setCell] at t2
        have hPZ : P < Z.heap.size := q1.lt
        have gf5b := w2.frozen 5
        have t3 := own_setT (i := 5) (u := .slice (some ⟨Z.heap.size, 0, none⟩) 1 1) t2 w2 (by decide)
        have R0 := hide (w2.set 5 (.slice (some ⟨Z.heap.size, 0, none⟩) 1 1))
        have R1 := hide (show OutM _ _ (ms ++ [Msg.mk nx fl dy sc zn raw]) from ⟨own_zero o3, by
          intro m hm
          rcases List.mem_append.1 hm with h | h
          · exact unhide HFM m h
          · rw [List.mem_singleton.1 h]; exact unhide HFN, by rw [List.length_append, List.length_singleton]; have := unhide HN; omega⟩)
        have R2 := hide (show OutT _ _ [nx] from ⟨own_zero t3, by simpa using hnx4, by simp⟩)
        have R3 := hide (((q3.setCell (p := ⟨P, 1, none⟩) hP (.int .u64 ((nx + 1 : Nat) : Int))).alloc (by have := hq3; have := unhide HQE; simp; omega) (.cells #[.int .u32 (nx : Int)] 22)).setCell (p := ⟨P, 5, none⟩) hP (.slice (some ⟨Z.heap.size, 0, none⟩) 1 1))
        have hcm9 : ((Z.setCell ⟨P, 1, none⟩ (.int .u64 ((nx + 1 : Nat) : Int))).alloc (.cells #[.int .u32 (nx : Int)] 22)).setCell ⟨P, 5, none⟩ (.slice (some ⟨Z.heap.size, 0, none⟩) 1 1) = ((Z.setCell ⟨P, 1, none⟩ (.int .u64 ((nx + 1 : Nat) : Int))).setCell ⟨P, 5, none⟩ (.slice (some ⟨Z.heap.size, 0, none⟩) 1 1)).alloc (.cells #[.int .u32 (nx : Int)] 22) := by
          exact World.setCell_alloc_past _ P 5 _ (by simpa using hPZ)
        rw [hcm9] at R0 R1 R2 R3
        clear hcm9
        clear q1 q2 q3 w1 w2 o2 o3 t2 t3 hA9 HEND HFM HFN
        go_wp2
        go_ret
        exact ⟨rfl, _, _, unhide R0, unhide R1, unhide R2, unhide R3⟩
end Go.Proofs.YtnhcpkcpgpobdaaDoor
