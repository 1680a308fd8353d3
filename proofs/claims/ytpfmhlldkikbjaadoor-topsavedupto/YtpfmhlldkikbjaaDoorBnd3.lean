/-
  What slices.Insert does to a row of files, over this seat's program.
-/
import Derived.Test.YtpfmhlldkikbjaaDoorBnd2
import Derived.Shelf.Spec.SlicesInsert
import Derived.Lib.AppendZerosOnto
import Derived.Laws.NewBlocks
import Derived.Deep.RegionHeld3
set_option linter.unusedVariables false
set_option linter.unusedSimpArgs false
namespace Go.Proofs.YtpfmhlldkikbjaaDoor
open Go.RowKit Go.Proofs.Dsk Go.Lib

theorem run_copyF (w : World) (ty : TypeId) (b o dLen dCap : Nat) (a : Addr) (sLen sCap : Nat) (cs : List Value) (k : Nat) (hk : Nat.min sLen dLen = k) (hn : cs.length = k * 3)
    (hsrc : ∀ j v, cs[j]? = some v → w.cell? (a.add j) = some v) (hc : ∀ j, j < cs.length → (w.cell? ⟨b, o + j, none⟩).isSome = true) (hf : ∀ j, j < cs.length → w.frozen? ⟨b, o + j, none⟩ = false) (h1 : ∀ v ∈ cs, v.oneCell' = true) :
    (Builtin.copy_ #[29, 29] ty #[.slice (some ⟨b, o, none⟩) dLen dCap, .slice (some a) sLen sCap]).run Tryd.prog w = .ok (goInt k) (w.setCells b o cs) := by
  obtain ⟨i0, hi, hz0, hz1, hz2⟩ := info_parts fileInfo
  have hl := run_loadCells_list (P := Tryd.prog) w a cs hsrc
  have hst := run_storeCells_cells (P := Tryd.prog) b o cs 0 w (by simpa using hc) (by simpa using hf) h1
  simp [Builtin.copy_, run_underlying Tryd.underlying29, Builtin.lenOf, Builtin.firstCells, sizeOf, typeInfo, hi, hz1, hk, ← hn, hl, hst]

set_option maxHeartbeats 4000000 in
set_option maxRecDepth 100000 in
theorem insF_shift (g n c i vb m vc : Nat) (cs vs : List Value) (w : World) (hi : i < n) (hm : 0 < m) (hroom : n + m ≤ c) (hc63 : c ≤ 9223372036854775807) (hvb : vb ≠ g)
    (hcl : cs.length = n * 3) (hvl : vs.length = m * 3)
    (hcs : ∀ j v, cs[j]? = some v → w.cell? ⟨g, j, none⟩ = some v) (hsp : ∀ j, j < (n + m) * 3 → (w.cell? ⟨g, j, none⟩).isSome = true) (hfz : ∀ j, w.frozen? ⟨g, j, none⟩ = false)
    (hvs : ∀ j v, vs[j]? = some v → w.cell? ⟨vb, j, none⟩ = some v) (h1c : ∀ v ∈ cs, v.oneCell' = true) (h1v : ∀ v ∈ vs, v.oneCell' = true)
    (tA tB : TypeId) (kA kB : Nat) (hsa : w.shape? vb = some (tA, kA)) (hsb : w.shape? g = some (tB, kB)) (hkB : kB ≠ 0) (hfa : w.frozen? ⟨vb, 0, none⟩ = false) (hfe : w.frozen? ⟨vb, kA, none⟩ = false) :
    Calls Tryd.prog 26 #[.slice (some ⟨g, 0, none⟩) n c, .int .i64 i, .slice (some ⟨vb, 0, none⟩) m vc] w fun e w' =>
      e = .returned (.slice (some ⟨g, 0, none⟩) (n + m) c) ∧ w' = (w.drew.setCells g ((i + m) * 3) (cs.drop (i * 3))).setCells g (i * 3) vs := by
  have hz1 : ¬ ((m : Int) = 0) := by omega
  have hz2 : ¬ ((i : Int) = (n : Int)) := by omega
  have hz1b : ((m : Int) == 0) = false := by simp; omega
  have hz2b : ((i : Int) == (n : Int)) = false := by simp; omega
  have hov : ∀ lb cb, (callFunc 46 #[.slice (some ⟨vb, 0, none⟩) m vc, .slice (some ⟨g, (i + m) * 3, none⟩) lb cb]).run Tryd.prog w = .ok (.value (.bool false)) w := fun lb cb => by
    rw [run_callFunc_extern Tryd.func46 (by kernel_rfl) (by kernel_rfl) (by kernel_rfl) (e := Extern.SlicesOverlaps.overlaps #[29, 29] #[4]) (by kernel_rfl),
      Lib.run_overlaps_apart w 29 4 69 Tryd.underlying29 3 Tryd.sizeOf69 ⟨vb, 0, none⟩ ⟨g, (i + m) * 3, none⟩ m vc lb cb hvb tA tB kA kB hsa hsb hkB hfa hfe]
    rfl
  have hdl : (cs.drop (i * 3)).length = (n - i) * 3 := by rw [List.length_drop, hcl]; omega
  have hw1 : IntKind.i64.wrap ((i : Int) + (m : Int)) = (i : Int) + (m : Int) := by rw [IntKind.wrap_i64]; omega
  have hb1 : (0 : Int) ≤ (i : Int) + (m : Int) := by omega
  have hin : i ≤ n := by omega
  have htn : ((i : Int) + (m : Int)).toNat = i + m := by omega
  have hb2 : ¬ (c = i + m) := by omega
  have hb3 : (i : Int) ≤ (n : Int) + (m : Int) := by omega
  have hb4 : ¬ (c = i) := by omega
  have hcp1 : ∀ ty dc sc, (Builtin.copy_ #[29, 29] ty #[.slice (some ⟨g, (i + m) * 3, none⟩) (n + m - (i + m)) dc, .slice (some ⟨g, i * 3, none⟩) (n + m - i) sc]).run Tryd.prog w.drew = .ok (goInt ((n - i : Nat) : Int)) (w.drew.setCells g ((i + m) * 3) (cs.drop (i * 3))) := fun ty dc sc =>
    run_copyF w.drew ty g ((i + m) * 3) (n + m - (i + m)) dc ⟨g, i * 3, none⟩ (n + m - i) sc (cs.drop (i * 3)) (n - i) (by simp only [Nat.min_def]; split <;> omega) hdl
      (fun j v hj => by rw [Addr.add_lit]; exact hcs (i * 3 + j) v (by rwa [List.getElem?_drop] at hj))
      (fun j hj => hsp _ (by omega)) (fun j hj => hfz _) (fun v hv => h1c v (List.mem_of_mem_drop hv))
  obtain ⟨W1, hW1⟩ : ∃ W1, W1 = w.drew.setCells g ((i + m) * 3) (cs.drop (i * 3)) := ⟨_, rfl⟩
  have hsp1 : ∀ k, k < (n + m) * 3 → (W1.cell? ⟨g, k, none⟩).isSome = true := fun k hk => by
    rw [hW1]
    exact isSome_setCells g (cs.drop (i * 3)) ((i + m) * 3) w.drew (fun j hj => hsp _ (by rw [hdl] at hj; omega)) k (hsp k hk)
  have hcp2 : ∀ (W : World), (∀ x, W.cell? x = W1.cell? x) → (∀ x, W.frozen? x = W1.frozen? x) → ∀ ty dc, (Builtin.copy_ #[29, 29] ty #[.slice (some ⟨g, i * 3, none⟩) (n + m - i) dc, .slice (some ⟨vb, 0, none⟩) m vc]).run Tryd.prog W = .ok (goInt m) (W.setCells g (i * 3) vs) := fun W hWc hWf ty dc =>
    run_copyF W ty g (i * 3) (n + m - i) dc ⟨vb, 0, none⟩ m vc vs m (by simp only [Nat.min_def]; split <;> omega) hvl
      (fun j v hj => by
        rw [Addr.add_lit, hWc, hW1, World.cell?_setCells_out g _ _ _ _ (fun h _ => absurd h hvb), Nat.zero_add]
        exact hvs j v hj)
      (fun j hj => by rw [hWc]; exact hsp1 _ (by omega)) (fun j hj => by rw [hWf, hW1, World.frozen?_setCells]; exact hfz _) h1v
  rw [← hW1] at hcp1
  clear hsp1 hsp hcs hvs h1c h1v hsa hsb hfa hfe hfz
  go_enter Tryd.func26, Tryd.ntmps26
  go_wp2_with (simp only [hov])
  go_region_law (refine step_copy_runI rfl _ _ 29 29 rfl _ _ (by simp [Act.eval, Act.put]) (by simp [Act.eval, Act.put]) (hcp1 _ _ _) ?_)
  go_wp2_with (at_builtin; refine wpList_copy_runI _ rfl _ _ 29 29 rfl _ _ rfl rfl (hcp2 _ (fun _ => rfl) (fun _ => rfl) _ _) ?_)
  go_ret
  first | exact ⟨rfl, rfl⟩ | exact ⟨rfl, by rw [hW1]⟩
end Go.Proofs.YtpfmhlldkikbjaaDoor

/-
  What slices.Insert does to a row of files where there is no room, over this seat's program.
-/
set_option linter.unusedVariables false
set_option linter.unusedSimpArgs false
namespace Go.Proofs.YtpfmhlldkikbjaaDoor
open Go.RowKit Go.Proofs.Dsk Go.Lib

def zF : Value := .agg #[.string ByteArray.empty, .string ByteArray.empty, .int .i64 0]
set_option maxHeartbeats 4000000 in
set_option maxRecDepth 100000 in
theorem insF_grow (b n c i vb m vc : Nat) (cs vs : List Value) (w : World) (hi : i < n) (hm : 0 < m) (hnc : n ≤ c) (hroom : c < n + m) (hbig : (n + m) * 40 ≤ 140737488355328)
    (hcl : cs.length = n * 3) (hvl : vs.length = m * 3)
    (hcs : ∀ j v, cs[j]? = some v → w.cell? ⟨b, j, none⟩ = some v)
    (hvs : ∀ j v, vs[j]? = some v → w.cell? ⟨vb, j, none⟩ = some v) (h1c : ∀ v ∈ cs, v.oneCell' = true) (h1v : ∀ v ∈ vs, v.oneCell' = true) :
    Calls Tryd.prog 26 #[.slice (some ⟨b, 0, none⟩) n c, .int .i64 i, .slice (some ⟨vb, 0, none⟩) m vc] w fun e w' =>
      ∃ G : Nat, n + m ≤ G ∧ G ≤ maxLen ∧ e = .returned (.slice (some ⟨w.heap.size, 0, none⟩) (n + m) G) ∧
      w' = (((w.alloc (.cells ((cs.take (i * 3)).toArray ++ Builtin.zeroCells zF.cells (n + m - i) ++ Builtin.zeroCells zF.cells (G - (n + m))) 69)).drew.setCells w.heap.size (i * 3) vs).drew).setCells w.heap.size ((i + m) * 3) (cs.drop (i * 3)) := by
  obtain ⟨i0, hi0, hz0, hzs, hzb⟩ := info_parts fileInfo
  have hz1 : ¬ ((m : Int) = 0) := by omega
  have hz2 : ¬ ((i : Int) = (n : Int)) := by omega
  have hz1b : ((m : Int) == 0) = false := by simp; omega
  have hz2b : ((i : Int) == (n : Int)) = false := by simp; omega
  have hz3 : (c : Int) < (n : Int) + (m : Int) := by omega
  have hbw : b < w.heap.size := block_lt_of_cell (hcs 0 _ (List.getElem?_eq_getElem (by omega)))
  have hvw : vb < w.heap.size := block_lt_of_cell (hvs 0 _ (List.getElem?_eq_getElem (by omega)))
  have hkk : (n : Int) + (m : Int) - (i : Int) = ((n + m - i : Nat) : Int) := by omega
  have hik : i + (n + m - i) = n + m := by omega
  have hold : (Builtin.firstCells i0.size i (.slice (some ⟨b, 0, none⟩) i c)).run Tryd.prog w.drew = .ok (cs.take (i * 3)).toArray w.drew := by
    rw [hzs]
    exact run_firstCells_some w.drew 3 i ⟨b, 0, none⟩ i c (cs.take (i * 3)) (by rw [List.length_take]; omega) (fun j v hj => by
      rw [Addr.add_lit, Nat.zero_add]
      rw [List.getElem?_take] at hj
      split at hj
      · exact hcs j v hj
      · cases hj)
  have hrz : ∀ ty, (Builtin.append_ #[29, 3] ty #[.slice (some ⟨b, 0, none⟩) i c, .int .i64 ((n : Int) + (m : Int) - (i : Int))]).run Tryd.prog w =
      .ok (.slice (some ⟨w.heap.size, 0, none⟩) (n + m) (grownCap w (n + m) c 69)) (w.drew.alloc (.cells ((cs.take (i * 3)).toArray ++ Builtin.zeroCells zF.cells (n + m - i) ++ Builtin.zeroCells zF.cells (grownCap w (n + m) c 69 - (n + m))) 69)) := fun ty => by
    have h := Lib.run_append_grow_zeros w 29 3 ty 69 i0 _ .i64 .i64 Tryd.underlying29 Tryd.underlying3 hi0 hz0 (some ⟨b, 0, none⟩) i c (cs.take (i * 3)) hold (n + m - i) (by omega) (by omega) (by omega) (by omega) (by rw [hzb]; omega) (by rw [hzb, hik]; exact growslice_fits hroom hbig)
    rw [hik] at h
    rw [hkk]
    exact h
  obtain ⟨G, hG⟩ : ∃ G, G = grownCap w (n + m) c 69 := ⟨_, rfl⟩
  obtain ⟨ROW, hROW⟩ : ∃ ROW : Array Value, ROW = (cs.take (i * 3)).toArray ++ Builtin.zeroCells zF.cells (n + m - i) ++ Builtin.zeroCells zF.cells (G - (n + m)) := ⟨_, rfl⟩
  rw [← hG] at hrz
  rw [← hROW] at hrz
  have hRl : (n + m) * 3 ≤ ROW.size := by
    rw [hROW]
    simp [Builtin.zeroCells, Value.cells, zF]
    omega
  obtain ⟨W1, hW1⟩ : ∃ W1, W1 = w.drew.alloc (.cells ROW 69) := ⟨_, rfl⟩
  rw [← hW1] at hrz
  have hN : ∀ j, j < (n + m) * 3 → (W1.cell? ⟨w.heap.size, j, none⟩).isSome = true := fun j hj => by
    rw [hW1, World.cell?_alloc_at (w := w.drew) ROW _ w.heap.size j rfl, Array.getElem?_eq_getElem (by omega)]; rfl
  have hNf : ∀ j, W1.frozen? ⟨w.heap.size, j, none⟩ = false := fun j => by rw [hW1]; exact World.frozen?_alloc_at (w := w.drew) ROW _ w.heap.size j rfl
  have hOb : ∀ j v, w.cell? ⟨b, j, none⟩ = some v → W1.cell? ⟨b, j, none⟩ = some v := fun j v h => by rw [hW1, World.cell?_alloc_past (w := w.drew) _ b j hbw]; exact h
  have hOv : ∀ j v, w.cell? ⟨vb, j, none⟩ = some v → W1.cell? ⟨vb, j, none⟩ = some v := fun j v h => by rw [hW1, World.cell?_alloc_past (w := w.drew) _ vb j hvw]; exact h
  have hcpA : ∀ (W : World), (∀ x, W.cell? x = W1.cell? x) → (∀ x, W.frozen? x = W1.frozen? x) → ∀ ty dc, (Builtin.copy_ #[29, 29] ty #[.slice (some ⟨w.heap.size, i * 3, none⟩) (n + m - i) dc, .slice (some ⟨vb, 0, none⟩) m vc]).run Tryd.prog W = .ok (goInt m) (W.setCells w.heap.size (i * 3) vs) := fun W hWc hWf ty dc =>
    run_copyF W ty w.heap.size (i * 3) (n + m - i) dc ⟨vb, 0, none⟩ m vc vs m (by simp only [Nat.min_def]; split <;> omega) hvl
      (fun j v hj => by rw [Addr.add_lit, hWc, Nat.zero_add]; exact hOv _ v (hvs j v hj))
      (fun j hj => by rw [hWc]; exact hN _ (by omega)) (fun j hj => by rw [hWf]; exact hNf _) h1v
  have hGn : n + m ≤ G := by rw [hG]; exact grownCap_ge w _ _ _
  have hGM : G ≤ maxLen := by
    have := grownCap_le_maxLen w (n + m) c 69 (by unfold maxLen; omega)
    rw [← hG] at this
    exact this
  have hG63 : G ≤ 9223372036854775807 := by unfold maxLen at hGM; omega
  have hGi : ¬ (G = i) := by omega
  have hGim : ¬ (G = i + m) := by omega
  have hci : ¬ (c = i) := by omega
  have hbN : b ≠ w.heap.size := by omega
  have hdl : (cs.drop (i * 3)).length = (n - i) * 3 := by rw [List.length_drop, hcl]; omega
  have hcpB : ∀ (W : World), (∀ x, W.cell? x = (W1.setCells w.heap.size (i * 3) vs).cell? x) → (∀ x, W.frozen? x = (W1.setCells w.heap.size (i * 3) vs).frozen? x) → ∀ ty dc sc, (Builtin.copy_ #[29, 29] ty #[.slice (some ⟨w.heap.size, (i + m) * 3, none⟩) (n + m - (i + m)) dc, .slice (some ⟨b, i * 3, none⟩) (n - i) sc]).run Tryd.prog W = .ok (goInt ((n - i : Nat) : Int)) (W.setCells w.heap.size ((i + m) * 3) (cs.drop (i * 3))) := fun W hWc hWf ty dc sc =>
    run_copyF W ty w.heap.size ((i + m) * 3) (n + m - (i + m)) dc ⟨b, i * 3, none⟩ (n - i) sc (cs.drop (i * 3)) (n - i) (by simp only [Nat.min_def]; split <;> omega) hdl
      (fun j v hj => by
        rw [Addr.add_lit, hWc, World.cell?_setCells_out _ _ _ _ _ (fun h _ => absurd h hbN)]
        exact hOb _ v (hcs (i * 3 + j) v (by rwa [List.getElem?_drop] at hj)))
      (fun j hj => by rw [hWc]; exact isSome_setCells w.heap.size vs (i * 3) W1 (fun t ht => hN _ (by rw [hvl] at ht; have : (i + m) * 3 ≤ (n + m) * 3 := Nat.mul_le_mul_right 3 (by omega); omega)) _ (hN _ (by rw [hdl] at hj; omega)))
      (fun j hj => by rw [hWf, World.frozen?_setCells]; exact hNf _) (fun v hv => h1c v (List.mem_of_mem_drop hv))
  subst hW1
  have hE1 : ∀ x, ((w.alloc (.cells ROW 69)).drew).cell? x = (w.drew.alloc (.cells ROW 69)).cell? x := fun x => rfl
  have hE2 : ∀ x, ((w.alloc (.cells ROW 69)).drew).frozen? x = (w.drew.alloc (.cells ROW 69)).frozen? x := fun x => rfl
  have hF1 : ∀ x, (((w.alloc (.cells ROW 69)).drew.setCells w.heap.size (i * 3) vs).drew).cell? x = ((w.drew.alloc (.cells ROW 69)).setCells w.heap.size (i * 3) vs).cell? x := fun x => rfl
  have hF2 : ∀ x, (((w.alloc (.cells ROW 69)).drew.setCells w.heap.size (i * 3) vs).drew).frozen? x = ((w.drew.alloc (.cells ROW 69)).setCells w.heap.size (i * 3) vs).frozen? x := fun x => rfl
  have hw1 : IntKind.i64.wrap ((i : Int) + (m : Int)) = (i : Int) + (m : Int) := by rw [IntKind.wrap_i64]; omega
  have hb1 : (0 : Int) ≤ (i : Int) + (m : Int) := by omega
  have hin : i ≤ n := by omega
  have htn : ((i : Int) + (m : Int)).toNat = i + m := by omega
  have hb3 : (i : Int) ≤ (n : Int) := by omega
  have HFIN : Hid (∃ G : Nat, n + m ≤ G ∧ G ≤ maxLen ∧ Ending.returned (.slice (some ⟨w.heap.size, 0, none⟩) (n + m) G) = Ending.returned (.slice (some ⟨w.heap.size, 0, none⟩) (n + m) G) ∧ ROW = (cs.take (i * 3)).toArray ++ Builtin.zeroCells zF.cells (n + m - i) ++ Builtin.zeroCells zF.cells (G - (n + m))) := hide ⟨G, hGn, hGM, rfl, hROW⟩
  have HR := hide hROW
  have HG1 := hide hGn
  have HG2 := hide hGM
  clear hkk hik hold hROW hG hRl hGM hN hNf hOb hOv hcs hvs h1c h1v
  go_enter Tryd.func26, Tryd.ntmps26
  go_wp2_with (first
    | (at_builtin; refine Lib.wpList_append_run _ rfl _ _ _ _ rfl _ _ rfl rfl _ _ (hrz _) ?_)
    | (at_builtin; refine wpList_copy_runI _ rfl _ _ 29 29 rfl _ _ rfl rfl (hcpA _ hE1 hE2 _ _) ?_)
    | (at_builtin; refine wpList_copy_runI _ rfl _ _ 29 29 rfl _ _ rfl rfl (hcpB _ (fun _ => rfl) (fun _ => rfl) _ _ _) ?_))
  go_region_law (refine step_copy_runI rfl _ _ 29 29 rfl (.slice (some ⟨w.heap.size, (i + m) * 3, none⟩) (n + m - (i + m)) (G - (i + m))) (.slice (some ⟨b, i * 3, none⟩) (n - i) (c - i)) (by simp [Act.eval, Act.put]) (by simp [Act.eval, Act.put]) (hcpB _ hF1 hF2 3 (G - (i + m)) (c - i)) ?_)
  go_wp2
  go_ret
  exact ⟨G, unhide HG1, unhide HG2, rfl, by rw [← unhide HR]⟩
end Go.Proofs.YtpfmhlldkikbjaaDoor

/-
  What slices.Insert does to a row of files of its own, over this seat's program.
-/
set_option linter.unusedVariables false
set_option linter.unusedSimpArgs false
namespace Go.Proofs.YtpfmhlldkikbjaaDoor
open Go.RowKit Go.Proofs.Dsk Go.Lib

theorem below_alloc'' (w : World) (o : Obj) : Below w.heap.size w (w.alloc o) := (Below.refl _ w).alloc (Nat.le_refl _) _
theorem insertIdx_eq (f : File) : ∀ (l : List File) (i : Nat), i ≤ l.length → l.insertIdx i f = l.take i ++ f :: l.drop i
  | l, 0, _ => by simp
  | [], i + 1, h => by simp at h
  | x :: l, i + 1, h => by rw [List.insertIdx_succ_cons, insertIdx_eq f l i (by simpa using h)]; simp
theorem flatF_insert (l : List File) (i : Nat) (f : File) (h : i ≤ l.length) : flatF (l.insertIdx i f) = (flatF l).take (i * 3) ++ (cellsF f ++ (flatF l).drop (i * 3)) := by
  rw [insertIdx_eq f l i h, flatF_append, flatF_cons, flatF_take, flatF_drop]
theorem insert_len (l : List File) (i : Nat) (f : File) (h : i ≤ l.length) : (l.insertIdx i f).length = l.length + 1 := by
  rw [insertIdx_eq f l i h]; simp; omega
/-- The cells that are to come, place by place. -/
theorem ins_get {l : List File} {i : Nat} {f : File} (h : i ≤ l.length) (t : Nat) (ht : t < (l.length + 1) * 3) : (flatF (l.insertIdx i f))[t]? = if t < i * 3 then (flatF l)[t]? else if t < (i + 1) * 3 then (cellsF f)[t - i * 3]? else (flatF l)[t - 3]? := by
  have hfl := flatF_length l
  rw [flatF_insert l i f h, List.getElem?_append]
  by_cases h1 : t < i * 3
  · rw [if_pos (by rw [List.length_take]; omega), if_pos h1, List.getElem?_take, if_pos h1]
  · rw [if_neg (by rw [List.length_take]; omega), if_neg h1, List.length_take, List.getElem?_append, show min (i * 3) (flatF l).length = i * 3 by omega]
    by_cases h2 : t < (i + 1) * 3
    · rw [if_pos (by show t - i * 3 < 3; omega), if_pos h2]
    · rw [if_neg (by show ¬ t - i * 3 < 3; omega), if_neg h2, List.getElem?_drop, show (cellsF f).length = 3 from rfl]
      congr 1
      omega
theorem own_ins {w' : World} {C g cap i : Nat} {l : List File} {f : File} {cur : Array Value} (hb : C ≤ g) (hg : w'.heap[g]? = some (.cells cur 69 (0, 0))) (hi : i ≤ l.length) (hcap : l.length + 1 ≤ cap) (hcm : cap ≤ maxLen) (hsz : cur.size = cap * 3)
    (hget : ∀ t, t < (l.length + 1) * 3 → cur[t]? = if t < i * 3 then (flatF l)[t]? else if t < (i + 1) * 3 then (cellsF f)[t - i * 3]? else (flatF l)[t - 3]?) :
    w'.ownsRow C 69 3 (.slice (some ⟨g, 0, none⟩) (l.length + 1) cap) (l.insertIdx i f).length (flatF (l.insertIdx i f)) := by
  have hil := insert_len l i f hi
  refine ⟨by rw [flatF_length, hil], Or.inr ⟨g, cap, cur, by rw [hil], hb, hg, by rw [hil]; exact hcap, hcm, hsz, ?_⟩⟩
  rw [hil]
  apply List.ext_getElem?
  intro t
  by_cases ht : t < (l.length + 1) * 3
  · rw [List.getElem?_take, if_pos ht, Array.getElem?_toList, hget t ht, ins_get hi t ht]
  · rw [List.getElem?_eq_none (by rw [List.length_take]; omega), List.getElem?_eq_none (by rw [flatF_length, hil]; omega)]

set_option maxRecDepth 100000 in
theorem fromF_run (a : Option Addr) (n cap : Nat) (f : Nat) (htl : f ≤ n) (w : World) :
    (Instr.slice 29 (.slice a n cap) (some (.int .i64 (f : Int))) none none).run Tryd.prog w = .ok (sliced a f n cap 3) w := by
  rw [run_slice_l (P := Tryd.prog) w 29 a n cap (by kernel_rfl) .i64 f (by omega) (by omega)]
  obtain ⟨i0, hi, hz0, hz1, hz2⟩ := info_parts fileInfo
  have he : Tryd.prog.elem 29 = 69 := by kernel_rfl
  rw [he]
  go_simp
set_option maxHeartbeats 2000000 in
set_option maxRecDepth 100000 in
theorem insF_end (C : Nat) (a : Option Addr) (cap vb : Nat) (l : List File) (f : File) (w : World) (hown : w.ownsRow C 69 3 (.slice a l.length cap) l.length (flatF l)) (hl : l.length ≤ 1024) (hv : Blk w vb 69 (cellsF f).toArray) (hC : C ≤ w.heap.size) :
    Calls Tryd.prog 26 #[.slice a l.length cap, .int .i64 (l.length : Nat), .slice (some ⟨vb, 0, none⟩) 1 1] w fun e w' => ∃ v', e = .returned v' ∧ w'.ownsRow C 69 3 v' (l.length + 1) (flatF l ++ cellsF f) ∧ w.grownBy w' (Value.slice a l.length cap).ownBlock := by
  obtain ⟨i0, hi, hz0, hz1, hz2⟩ := info_parts fileInfo
  obtain ⟨v', w', hrun, h2, h3, _⟩ := run_append_own (P := Tryd.prog) w C 29 29 69 i0 (.agg #[.string ByteArray.empty, .string ByteArray.empty, .int .i64 0]) 3 40 Tryd.underlying29 hi hz0 hz1 hz2 rfl (by decide) _ l.length (flatF l) hown ⟨vb, 0, none⟩ 1 1 (cellsF f) rfl (fun j u hj => by
    rw [Addr.add_lit, Nat.zero_add, hv.cell]
    simpa using hj) (by intro u hu; simp [cellsF] at hu; rcases hu with rfl | rfl | rfl <;> rfl) (by unfold maxLen; omega) (by omega) hC
  have H2 := hide h2
  have H3 := hide h3
  have hnc : l.length ≤ cap := by
    rcases hown.2 with ⟨h0, h1⟩ | ⟨g, cp, cur, hv, hb, hg, hn, _⟩
    · omega
    · injection hv with _ _ e; omega
  have hcm : cap ≤ 9223372036854775807 := by
    rcases hown.2 with ⟨h0, h1⟩ | ⟨g, cp, cur, hv, hb, hg, hn, hm, _⟩
    · injection h0 with _ _ e; omega
    · injection hv with _ _ e; unfold maxLen at hm; omega
  obtain ⟨n, hn⟩ : ∃ n, n = l.length := ⟨_, rfl⟩
  rw [← hn] at hrun H2 H3 hnc hl ⊢
  have hne : ((n : Int) == (n : Int)) = true := by simp
  have hle : (n : Int) ≤ (n : Int) := by omega
  have hsl := fun W => fromF_run a n cap n (Nat.le_refl _) W
  generalize sliced a n n cap 3 = P at hsl
  clear h2 h3 hown hv hn hi hz0 hz1 hz2
  go_enter Tryd.func26, Tryd.ntmps26
  go_wp2_with (at_builtin; refine Lib.wpList_append_run _ rfl _ _ _ _ rfl _ _ rfl rfl _ _ hrun ?_)
  go_ret
  exact ⟨v', rfl, unhide H2, unhide H3⟩

/-- slices.Insert puts one file into a row of its own. -/
theorem insertF_own (C : Nat) (v : Value) (l : List File) (i : Nat) (f : File) (vb : Nat) (w : World) (hown : w.ownsRow C 69 3 v l.length (flatF l)) (hi : i ≤ l.length) (hl : l.length ≤ 1024) (hv : Blk w vb 69 (cellsF f).toArray) (hne : v.ownBlock ≠ some vb) (hC : C ≤ w.heap.size) :
    Calls Tryd.prog 26 #[v, .int .i64 (i : Nat), .slice (some ⟨vb, 0, none⟩) 1 1] w fun e w' => ∃ v', e = .returned v' ∧ w'.ownsRow C 69 3 v' (l.insertIdx i f).length (flatF (l.insertIdx i f)) ∧ w.grownBy w' v.ownBlock := by
  by_cases he : i = l.length
  · subst he
    obtain ⟨a, cap, rfl⟩ := own_form hown
    refine (insF_end C a cap vb l f w hown hl hv hC).mono ?_
    rintro e w' ⟨v', rfl, h2, h3⟩
    refine ⟨v', rfl, ?_, h3⟩
    rw [insert_len l _ f (Nat.le_refl _), flatF_insert l _ f (Nat.le_refl _), List.take_of_length_le (by rw [flatF_length]; omega), List.drop_of_length_le (by rw [flatF_length]; omega), List.append_nil]
    exact h2
  · have hlt : i < l.length := by omega
    have hvs : ∀ j u, (cellsF f)[j]? = some u → w.cell? ⟨vb, j, none⟩ = some u := fun j u hj => by rw [hv.cell]; simpa using hj
    have h1v : ∀ u ∈ cellsF f, u.oneCell' = true := by intro u hu; simp [cellsF] at hu; rcases hu with rfl | rfl | rfl <;> rfl
    rcases hown.2 with ⟨_, h0⟩ | ⟨g, cap, cur, hv2, hb, hg, hnc, hcm, hcs, htake⟩
    · omega
    · subst hv2
      have hne' : vb ≠ g := fun e => hne (by rw [e]; rfl)
      have hfl := flatF_length l
      have hcell : ∀ j u, (flatF l)[j]? = some u → w.cell? ⟨g, j, none⟩ = some u := fun j u hj => by
        rw [Lib.cell_of_heap hg j]
        rw [← htake, List.getElem?_take] at hj
        split at hj
        · simpa using hj
        · cases hj
      have hcg : ∀ t, t < l.length * 3 → cur[t]? = (flatF l)[t]? := fun t ht => by rw [← htake, List.getElem?_take, if_pos ht, Array.getElem?_toList]
      by_cases hroom : l.length + 1 ≤ cap
      · refine (insF_shift g l.length cap i vb 1 1 (flatF l) (cellsF f) w hlt (by omega) hroom (by unfold maxLen at hcm; omega) hne' hfl rfl hcell (fun j hj => by rw [Lib.cell_of_heap hg j, Array.getElem?_eq_getElem (by omega)]; rfl) (fun j => Lib.frozen_of_heap hg j) hvs (flatF_one l) h1v 69 69 3 (cap * 3) (by unfold Blk at hv; simp [World.shape?, hv, cellsF]) (by simp [World.shape?, hg, hcs]) (by omega) (hv.frozen 0) (hv.frozen 3)).mono ?_
        rintro e w' ⟨rfl, rfl⟩
        have hg1 := heap_setCells g ((flatF l).drop (i * 3)) ((i + 1) * 3) w.drew cur _ _ hg
        have hg2 := heap_setCells g (cellsF f) (i * 3) _ _ _ _ hg1
        refine ⟨_, rfl, own_ins hb hg2 hi hroom hcm (by rw [laid_size, laid_size]; exact hcs) (fun t ht => ?_), ?_⟩
        · rw [laid_get, laid_size, laid_get, List.length_drop]
          by_cases h1 : t < i * 3
          · rw [if_neg (by omega), if_neg (by omega), if_pos h1]; exact hcg t (by omega)
          · rw [if_neg h1]
            by_cases h2 : t < (i + 1) * 3
            · rw [if_pos (by refine ⟨by omega, by show t < i * 3 + 3; omega, by omega⟩), if_pos h2]
            · rw [if_neg (by show ¬ (i * 3 ≤ t ∧ t < i * 3 + 3 ∧ t < cur.size); omega), if_neg h2, if_pos (by omega), List.getElem?_drop]
              congr 1
              omega
        · have a1 := grown_setCells g ((flatF l).drop (i * 3)) ((i + 1) * 3) w.drew
          have a2 := grown_trans a1 (grown_setCells g (cellsF f) (i * 3) _)
          exact ⟨a2.os, a2.tape, a2.output, a2.size, a2.block⟩
      · refine (insF_grow g l.length cap i vb 1 1 (flatF l) (cellsF f) w hlt (by omega) hnc (by omega) (by omega) hfl rfl hcell hvs (flatF_one l) h1v).mono ?_
        rintro e w' ⟨G, hG1, hG2, rfl, rfl⟩
        obtain ⟨ROW, hROW⟩ : ∃ ROW : Array Value, ROW = ((flatF l).take (i * 3)).toArray ++ Builtin.zeroCells zF.cells (l.length + 1 - i) ++ Builtin.zeroCells zF.cells (G - (l.length + 1)) := ⟨_, rfl⟩
        rw [← hROW]
        have hRs : ROW.size = G * 3 := by
          rw [hROW]
          simp [Builtin.zeroCells, Value.cells, zF]
          omega
        have hRg : ∀ t, t < i * 3 → ROW[t]? = (flatF l)[t]? := fun t ht => by
          rw [hROW, Array.append_assoc, Array.getElem?_append_left (by simp; omega)]
          simp [ht]
        have hg0 : (w.alloc (.cells ROW 69)).drew.heap[w.heap.size]? = some (.cells ROW 69 (0, 0)) := Blk.new w _ _
        have hg1 := heap_setCells w.heap.size (cellsF f) (i * 3) _ _ _ _ hg0
        have hg2 := heap_setCells w.heap.size ((flatF l).drop (i * 3)) ((i + 1) * 3) ((w.alloc (.cells ROW 69)).drew.setCells w.heap.size (i * 3) (cellsF f)).drew _ _ _ hg1
        refine ⟨_, rfl, own_ins hC hg2 hi hG1 hG2 (by rw [laid_size, laid_size]; exact hRs) (fun t ht => ?_), ?_⟩
        · rw [laid_get, laid_size, laid_get, List.length_drop]
          by_cases h1 : t < i * 3
          · rw [if_neg (by omega), if_neg (by omega), if_pos h1]; exact hRg t h1
          · rw [if_neg h1]
            by_cases h2 : t < (i + 1) * 3
            · rw [if_neg (by omega), if_pos (by refine ⟨by omega, by show t < i * 3 + 3; omega, by omega⟩), if_pos h2]
            · rw [if_pos (by omega), if_neg h2, List.getElem?_drop]
              congr 1
              omega
        · have a0 := below_alloc'' w (.cells ROW 69)
          have a1 := grown_setCells w.heap.size (cellsF f) (i * 3) (w.alloc (.cells ROW 69)).drew
          have a2 := grown_setCells w.heap.size ((flatF l).drop (i * 3)) ((i + 1) * 3) ((w.alloc (.cells ROW 69)).drew.setCells w.heap.size (i * 3) (cellsF f)).drew
          refine ⟨a2.os.trans (a1.os.trans a0.os), a2.tape.trans (a1.tape.trans a0.tape), a2.output.trans (a1.output.trans a0.output), Nat.le_trans a0.size (Nat.le_trans a1.size a2.size), fun k hk hn => ?_⟩
          have hkn : some k ≠ some w.heap.size := fun e => by injection e with e; omega
          exact (a2.block k (by have := a1.size; have := a0.size; exact Nat.lt_of_lt_of_le hk (Nat.le_trans a0.size a1.size)) hkn).trans ((a1.block k (Nat.lt_of_lt_of_le hk a0.size) hkn).trans (a0.block k hk))
end Go.Proofs.YtpfmhlldkikbjaaDoor

/-
  What disk.Create does, over this seat's program.
-/
set_option linter.unusedVariables false
set_option linter.unusedSimpArgs false
namespace Go.Proofs.YtpfmhlldkikbjaaDoor
open Go.RowKit Go.Proofs.Dsk Go.Lib

theorem own_ne {w : World} {C p n : Nat} {t : TypeId} {v : Value} {xs : List Value} {cs : Array Value} (h : w.ownsRow C 69 3 v n xs) (hp : Blk w p t cs) (ht : t ≠ 69) : v.ownBlock ≠ some p := by
  rcases h.2 with ⟨h0, _⟩ | ⟨g, cap, cur, hv, hb, hg, _⟩
  · rw [h0]; simp [Value.ownBlock]
  · rw [hv]
    intro e
    simp only [Value.ownBlock, Option.some.injEq] at e
    exact blk_ne hp hg ht e.symm
theorem own_lt {w : World} {C n : Nat} {v : Value} {xs : List Value} (h : w.ownsRow C 69 3 v n xs) : ∀ k, v.ownBlock = some k → C ≤ k ∧ k < w.heap.size := fun k hk => ⟨(h.lt k hk).1, (h.lt k hk).2⟩
theorem blk_grownO {w W : World} {p : Nat} {o : Option Nat} {t : TypeId} {cs : Array Value} (h : Blk w p t cs) (hg : w.grownBy W o) (hne : o ≠ some p) : Blk W p t cs := by
  unfold Blk at *
  rw [hg.block p (Array.getElem?_eq_some_iff.1 h).1 (fun e => hne e.symm)]; exact h
theorem below_from {w a b : World} {n : Nat} (h : Below w.heap.size w a) (k : Below a.heap.size (a.drewN n) b) : Below w.heap.size w b := belows h ⟨k.os, k.tape, k.output, k.size, k.block⟩
theorem below_fro {w b : World} {n : Nat} (k : Below (w.drewN n).heap.size (w.drewN n) b) : Below w.heap.size w b := ⟨k.os, k.tape, k.output, k.size, k.block⟩
theorem fits_new {n : ByteArray} (hn : n.size ≤ 281474976710656) : Fits ⟨n, ByteArray.empty, 0⟩ := ⟨Nat.le_trans hn (by decide), Nat.zero_le _, by show (-9223372036854775808 : Int) ≤ 0; decide, by show (0 : Int) ≤ 9223372036854775807; decide⟩
theorem fit_ins {d : Fs} {i : Nat} {f : File} (h : FitAll d) (hf : Fits f) (hi : i ≤ d.files.length) (hl : d.files.length ≤ 1024) : FitAll { d with files := d.files.insertIdx i f } :=
  ⟨h.1, fun x hx => by
    rcases (List.mem_insertIdx hi).1 hx with h1 | h1
    · rw [h1]; exact hf
    · exact h.2.1 x h1, by show (d.files.insertIdx i f).length ≤ _; rw [insert_len _ _ _ hi]; omega⟩

set_option maxHeartbeats 4000000 in
set_option maxRecDepth 100000 in
theorem create11_any (d : Fs) (C B p q r i : Nat) (n : ByteArray) (v : Value) (W : World) (hS : SysV W C B v d) (hi : i ≤ d.files.length) (hl : d.files.length ≤ 1024) (hn : n.size ≤ 281474976710656) (hp : Blk W p 60 #[.pointer (some ⟨B, 0, none⟩)]) (hq : Blk W q 3 #[.int .i64 i]) (hr : Blk W r 9 #[.string n]) :
    Calls Tryd.prog 25 #[.pointer (some ⟨p, 0, none⟩), .pointer (some ⟨q, 0, none⟩), .pointer (some ⟨r, 0, none⟩)] W fun e W' => e = .returned (.tuple #[]) ∧ Sys W' C B { d with files := d.files.insertIdx i ⟨n, ByteArray.empty, 0⟩ } ∧ Below C W W' := by
  obtain ⟨hCB, hfit, k0, hown, hne⟩ := hS
  have npB := pt_ne hp k0
  have nqB := it_ne hq k0
  have nrB := st_ne hr k0
  have hlt := k0.lt
  have HCL := hide (fun X => clone_any n X hn)
  have HOL := hide (own_lt hown)
  have onp := own_ne hown hp (by decide)
  have onq := own_ne hown hq (by decide)
  have onr := own_ne hown hr (by decide)
  have HIN := hide (fun (X : World) (vb : Nat) (hX : Below W.heap.size W X) (hvb : W.heap.size ≤ vb) (hv : Blk X vb 69 (cellsF ⟨n, ByteArray.empty, 0⟩).toArray) => insertF_own C v d.files i ⟨n, ByteArray.empty, 0⟩ vb X (own_below hown hX) hi hl hv (fun e => by have := (own_lt hown _ e).2; omega) (by have := hX.size; omega))
  have HG : Hid (∀ X w3, Below W.heap.size W X → X.grownBy w3 v.ownBlock → w3.cell? ⟨p, 0, none⟩ = some (.pointer (some ⟨B, 0, none⟩)) ∧ w3.cell? ⟨q, 0, none⟩ = some (.int .i64 i) ∧ w3.cell? ⟨r, 0, none⟩ = some (.string n) ∧ Blk w3 B 65 (sysCells d v) ∧ w3.cell? ⟨B, 1, none⟩ = some v ∧ w3.frozen? ⟨B, 1, none⟩ = false) := hide (fun X w3 hX hg => by
    have a1 := (blk_grownO (hp.below hX) hg onp).cell 0
    have a2 := (blk_grownO (hq.below hX) hg onq).cell 0
    have a3 := (blk_grownO (hr.below hX) hg onr).cell 0
    have a4 := blk_grownO (k0.below hX) hg hne
    have a5 := a4.cell 1
    simp only [sysCells, List.getElem?_toArray, List.getElem?_cons_succ, List.getElem?_cons_zero] at a1 a2 a3 a5
    exact ⟨a1, a2, a3, a4, a5, a4.frozen 1⟩)
  have HX : Hid (∀ X, Below W.heap.size W X → X.cell? ⟨p, 0, none⟩ = some (.pointer (some ⟨B, 0, none⟩)) ∧ X.cell? ⟨q, 0, none⟩ = some (.int .i64 i) ∧ X.cell? ⟨r, 0, none⟩ = some (.string n) ∧ Blk X B 65 (sysCells d v) ∧ X.cell? ⟨B, 1, none⟩ = some v ∧ X.frozen? ⟨B, 1, none⟩ = false) := hide (fun X hX => unhide HG X X hX ⟨rfl, rfl, rfl, Nat.le_refl _, fun _ _ _ => rfl⟩)
  obtain ⟨m, hm⟩ : ∃ m, (d.files.insertIdx i ⟨n, ByteArray.empty, 0⟩).length = m := ⟨_, rfl⟩
  rw [hm] at HIN
  have HM := hide hm
  have HFIT := hide hfit
  obtain ⟨cp, cq, cr, _, c1, _⟩ := unhide HX W (Below.refl _ _)
  obtain ⟨a, cap, rfl⟩ := own_form hown
  clear hm hfit hp hq hr k0 hown hne onp onq onr
  go_enter Tryd.func25, Tryd.ntmps25
  go_wp2
  refine wp_region_held_drew (S := fun w' => w'.cell? ⟨p, 0, none⟩ = some (.pointer (some ⟨B, 0, none⟩)) ∧ w'.cell? ⟨q, 0, none⟩ = some (.int .i64 i) ∧ w'.cell? ⟨r, 0, none⟩ = some (.string n)) (by kernel_rfl) ?_ (fun hHeld => ?_)
  · exact ⟨cp, cq, cr⟩
  refine wpAnyH_take (i := 0) (v := .pointer (some ⟨B, 0, none⟩)) rfl (by kernel_rfl) (by kernel_rfl) (by kernel_rfl) (fun _ _ _ h => h) (Or.inl ⟨by rfl, fun wS hSw => ?_⟩) (by assumption) ?_
  · (try dsimp only at hSw); go_simp
  (try simp only [Act.put, List.setIfInBounds_toArray, List.set_cons_zero, List.set_cons_succ])
  refine wpAnyH_take (i := 1) (v := .pointer (some ⟨B, 0, none⟩)) rfl (by kernel_rfl) (by kernel_rfl) (by kernel_rfl) (fun _ _ _ h => h) (Or.inl ⟨by rfl, fun wS hSw => ?_⟩) (by assumption) ?_
  · (try dsimp only at hSw); go_simp
  (try simp only [Act.put, List.setIfInBounds_toArray, List.set_cons_zero, List.set_cons_succ])
  refine wpAnyH_take (i := 2) (v := .pointer (some ⟨B, 0, none⟩)) rfl (by kernel_rfl) (by kernel_rfl) (by kernel_rfl) (fun _ _ _ h => h) (Or.inl ⟨by rfl, fun wS hSw => ?_⟩) (by assumption) ?_
  · (try dsimp only at hSw); go_simp
  (try simp only [Act.put, List.setIfInBounds_toArray, List.set_cons_zero, List.set_cons_succ])
  refine wpAnyH_take (i := 3) (v := .pointer (some ⟨B, 0, none⟩)) rfl (by kernel_rfl) (by kernel_rfl) (by kernel_rfl) (fun _ _ _ h => h) (Or.inl ⟨by rfl, fun wS hSw => ?_⟩) (by assumption) ?_
  · (try dsimp only at hSw); go_simp
  (try simp only [Act.put, List.setIfInBounds_toArray, List.set_cons_zero, List.set_cons_succ])
  refine wpAnyH_take (i := 4) (v := .pointer (some ⟨B, 1, none⟩)) rfl (by kernel_rfl) (by kernel_rfl) (by kernel_rfl) (fun _ _ _ h => h) (Or.inl ⟨by rfl, fun wS hSw => ?_⟩) (by assumption) ?_
  · (try dsimp only at hSw); go_simp
  (try simp only [Act.put, List.setIfInBounds_toArray, List.set_cons_zero, List.set_cons_succ])
  refine wpAnyH_take (i := 6) (v := .int .i64 (i : Int)) rfl (by kernel_rfl) (by kernel_rfl) (by kernel_rfl) (fun _ _ _ h => h) (Or.inl ⟨by rfl, fun wS hSw => ?_⟩) (by assumption) ?_
  · (try dsimp only at hSw); go_simp
  (try simp only [Act.put, List.setIfInBounds_toArray, List.set_cons_zero, List.set_cons_succ])
  refine wpAnyH_take (i := 7) (v := .string n) rfl (by kernel_rfl) (by kernel_rfl) (by kernel_rfl) (fun _ _ _ h => h) (Or.inl ⟨by rfl, fun wS hSw => ?_⟩) (by assumption) ?_
  · (try dsimp only at hSw); go_simp
  (try simp only [Act.put, List.setIfInBounds_toArray, List.set_cons_zero, List.set_cons_succ])
  refine wpAnyH_ready (rs := [5, 8]) (by kernel_rfl) (by simp) ?_
  refine (AllReadyH.cons rfl (fun K hK => ?_) (AllReadyH.cons rfl (fun K hK => ?_) AllReadyH.nil))
  · go_simp
    refine hK.out _ _ ?_ (fun hHeld => ?_)
    · exact hHeld
    clear hK K
    (try simp only [Act.put, List.setIfInBounds_toArray, List.set_cons_zero, List.set_cons_succ])
    refine wpAnyH_ready (rs := [8]) (by kernel_rfl) (by simp) ?_
    refine AllReadyH.cons rfl (fun K hK => ?_) AllReadyH.nil
    go_simp
    refine (unhide HCL _).mono ?_
    rintro e w1 ⟨rfl, b1⟩
    have bw1 : Below W.heap.size W w1 := below_fro b1
    have bA : Below W.heap.size W (w1.alloc (Obj.cells #[.string n, .string { data := #[] }, .int .i64 0] 69)) := bw1.alloc bw1.size _
    have kA := Blk.new w1 69 #[.string n, .string { data := #[] }, .int .i64 0]
    have hsA := bw1.size
    have cw1 := (unhide HX _ bw1).2.2.2.2.1
    have cA := (unhide HX _ bA).2.2.2.2.1
    have BW1 := hide bw1
    have BA := hide bA
    have KA := hide kA
    clear b1 bw1 bA kA
    go_wp2_with fail
    refine hK.out _ _ ?_ (fun hHeld => ?_)
    · exact ⟨(unhide HX _ (unhide BW1)).1, (unhide HX _ (unhide BW1)).2.1, (unhide HX _ (unhide BW1)).2.2.1⟩
    clear hK K
    (try simp only [Act.put, List.setIfInBounds_toArray, List.set_cons_zero, List.set_cons_succ])
    refine wpAnyH_take (i := 9) (v := .agg #[.string n, .string { data := #[] }, .int .i64 0]) rfl (by kernel_rfl) (by kernel_rfl) (by kernel_rfl) (fun _ _ _ h => h) (Or.inl ⟨by rfl, fun wS hSw => ?_⟩) (by assumption) ?_
    · (try dsimp only at hSw); go_simp
    (try simp only [Act.put, List.setIfInBounds_toArray, List.set_cons_zero, List.set_cons_succ])
    refine wpAnyH_ready (rs := [10]) (by kernel_rfl) (by simp) ?_
    refine AllReadyH.cons rfl (fun K hK => ?_) AllReadyH.nil
    go_simp
    refine hK.out _ _ ?_ (fun hHeld => ?_)
    · exact ⟨(unhide HX _ (unhide BA)).1, (unhide HX _ (unhide BA)).2.1, (unhide HX _ (unhide BA)).2.2.1⟩
    clear hK K
    (try simp only [Act.put, List.setIfInBounds_toArray, List.set_cons_zero, List.set_cons_succ])
    refine wpAnyH_ready (rs := [11]) (by kernel_rfl) (by simp) ?_
    refine AllReadyH.cons rfl (fun K hK => ?_) AllReadyH.nil
    go_simp
    refine (unhide HIN _ w1.heap.size (unhide BA) hsA (unhide KA)).mono ?_
    rintro e w3 ⟨v3, rfl, own3, gr3⟩
    have KP3 := hide (unhide HG _ _ (unhide BA) gr3)
    obtain ⟨a3, cap3, rfl⟩ := own_form own3
    have OWN3 := hide own3
    have GR3 := hide gr3
    clear own3 gr3
    go_wp2_with fail
    refine hK.out _ _ ?_ (fun hHeld => ?_)
    · exact ⟨(unhide KP3).1, (unhide KP3).2.1, (unhide KP3).2.2.1⟩
    clear hK K
    (try simp only [Act.put, List.setIfInBounds_toArray, List.set_cons_zero, List.set_cons_succ])
    obtain ⟨x1, x2, x3, x4, x5, x6⟩ := unhide KP3
    refine wpAnyH_take (i := 12) (v := .pointer (some ⟨B, 0, none⟩)) rfl (by kernel_rfl) (by kernel_rfl) (by kernel_rfl) (fun _ _ _ h => h) (Or.inl ⟨by rfl, fun wS hSw => ?_⟩) (by assumption) ?_
    · (try dsimp only at hSw); go_simp
    (try simp only [Act.put, List.setIfInBounds_toArray, List.set_cons_zero, List.set_cons_succ])
    refine wpAnyH_take (i := 13) (v := .pointer (some ⟨B, 0, none⟩)) rfl (by kernel_rfl) (by kernel_rfl) (by kernel_rfl) (fun _ _ _ h => h) (Or.inl ⟨by rfl, fun wS hSw => ?_⟩) (by assumption) ?_
    · (try dsimp only at hSw); go_simp
    (try simp only [Act.put, List.setIfInBounds_toArray, List.set_cons_zero, List.set_cons_succ])
    refine wpAnyH_take (i := 14) (v := .pointer (some ⟨B, 1, none⟩)) rfl (by kernel_rfl) (by kernel_rfl) (by kernel_rfl) (fun _ _ _ h => h) (Or.inl ⟨by rfl, fun wS hSw => ?_⟩) (by assumption) ?_
    · (try dsimp only at hSw); go_simp
    (try simp only [Act.put, List.setIfInBounds_toArray, List.set_cons_zero, List.set_cons_succ])
    refine wpAnyH_ready (rs := [15]) (by kernel_rfl) (by simp) ?_
    refine AllReadyH.cons rfl (fun K hK => ?_) AllReadyH.nil
    go_simp
    refine hK.out _ _ ?_ (fun hHeld => ?_)
    · exact ⟨(World.cell?_setCell_far _ _ _ _ (fun e => npB e.symm)).trans x1, (World.cell?_setCell_far _ _ _ _ (fun e => nqB e.symm)).trans x2, (World.cell?_setCell_far _ _ _ _ (fun e => nrB e.symm)).trans x3⟩
    clear hK K
    (try simp only [Act.put, List.setIfInBounds_toArray, List.set_cons_zero, List.set_cons_succ])
    refine wpAnyH_done (by kernel_rfl) ?_ _
    have hk3 := (unhide KP3).2.2.2.1
    have S3 : Hid (Sys (w3.setCell ⟨B, 1, none⟩ (.slice a3 m cap3)) C B { d with files := d.files.insertIdx i ⟨n, ByteArray.empty, 0⟩ }) := by
      have k3 := hk3
      have own3 := unhide OWN3
      have hne3 := own_ne own3 k3 (by decide)
      rw [← unhide HM] at own3 hne3 ⊢
      exact hide ⟨hCB, fit_ins (unhide HFIT) (fits_new hn) hi hl, _, k3.set 1 _, own_set own3 hne3, hne3⟩
    have B3 : Hid (Below C W (w3.setCell ⟨B, 1, none⟩ (.slice a3 m cap3))) := hide ((((unhide BA).mono (show C ≤ W.heap.size by omega)).grown (unhide GR3) (by have := (unhide BA).size; show C ≤ (w1.alloc _).heap.size; omega) (fun k hk => (unhide HOL k hk).1)).setCell (p := ⟨B, 1, none⟩) hCB _)
    clear hk3 hHeld
    go_wp2
    go_end0
    exact ⟨rfl, unhide S3, unhide B3⟩
  · go_simp
    refine (unhide HCL _).mono ?_
    rintro e w1 ⟨rfl, b1⟩
    have bw1 : Below W.heap.size W w1 := below_fro b1
    have bA : Below W.heap.size W (w1.alloc (Obj.cells #[.string n, .string { data := #[] }, .int .i64 0] 69)) := bw1.alloc bw1.size _
    have kA := Blk.new w1 69 #[.string n, .string { data := #[] }, .int .i64 0]
    have hsA := bw1.size
    have cw1 := (unhide HX _ bw1).2.2.2.2.1
    have cA := (unhide HX _ bA).2.2.2.2.1
    have BW1 := hide bw1
    have BA := hide bA
    have KA := hide kA
    clear b1 bw1 bA kA
    go_wp2_with fail
    refine hK.out _ _ ?_ (fun hHeld => ?_)
    · exact ⟨(unhide HX _ (unhide BW1)).1, (unhide HX _ (unhide BW1)).2.1, (unhide HX _ (unhide BW1)).2.2.1⟩
    clear hK K
    (try simp only [Act.put, List.setIfInBounds_toArray, List.set_cons_zero, List.set_cons_succ])
    refine wpAnyH_take (i := 9) (v := .agg #[.string n, .string { data := #[] }, .int .i64 0]) rfl (by kernel_rfl) (by kernel_rfl) (by kernel_rfl) (fun _ _ _ h => h) (Or.inl ⟨by rfl, fun wS hSw => ?_⟩) (by assumption) ?_
    · (try dsimp only at hSw); go_simp
    (try simp only [Act.put, List.setIfInBounds_toArray, List.set_cons_zero, List.set_cons_succ])
    refine wpAnyH_ready (rs := [5, 10]) (by kernel_rfl) (by simp) ?_
    refine (AllReadyH.cons rfl (fun K hK => ?_) (AllReadyH.cons rfl (fun K hK => ?_) AllReadyH.nil))
    · go_simp
      refine hK.out _ _ ?_ (fun hHeld => ?_)
      · exact hHeld
      clear hK K
      (try simp only [Act.put, List.setIfInBounds_toArray, List.set_cons_zero, List.set_cons_succ])
      refine wpAnyH_ready (rs := [10]) (by kernel_rfl) (by simp) ?_
      refine AllReadyH.cons rfl (fun K hK => ?_) AllReadyH.nil
      go_simp
      refine hK.out _ _ ?_ (fun hHeld => ?_)
      · exact ⟨(unhide HX _ (unhide BA)).1, (unhide HX _ (unhide BA)).2.1, (unhide HX _ (unhide BA)).2.2.1⟩
      clear hK K
      (try simp only [Act.put, List.setIfInBounds_toArray, List.set_cons_zero, List.set_cons_succ])
      refine wpAnyH_ready (rs := [11]) (by kernel_rfl) (by simp) ?_
      refine AllReadyH.cons rfl (fun K hK => ?_) AllReadyH.nil
      go_simp
      refine (unhide HIN _ w1.heap.size (unhide BA) hsA (unhide KA)).mono ?_
      rintro e w3 ⟨v3, rfl, own3, gr3⟩
      have KP3 := hide (unhide HG _ _ (unhide BA) gr3)
      obtain ⟨a3, cap3, rfl⟩ := own_form own3
      have OWN3 := hide own3
      have GR3 := hide gr3
      clear own3 gr3
      go_wp2_with fail
      refine hK.out _ _ ?_ (fun hHeld => ?_)
      · exact ⟨(unhide KP3).1, (unhide KP3).2.1, (unhide KP3).2.2.1⟩
      clear hK K
      (try simp only [Act.put, List.setIfInBounds_toArray, List.set_cons_zero, List.set_cons_succ])
      obtain ⟨x1, x2, x3, x4, x5, x6⟩ := unhide KP3
      refine wpAnyH_take (i := 12) (v := .pointer (some ⟨B, 0, none⟩)) rfl (by kernel_rfl) (by kernel_rfl) (by kernel_rfl) (fun _ _ _ h => h) (Or.inl ⟨by rfl, fun wS hSw => ?_⟩) (by assumption) ?_
      · (try dsimp only at hSw); go_simp
      (try simp only [Act.put, List.setIfInBounds_toArray, List.set_cons_zero, List.set_cons_succ])
      refine wpAnyH_take (i := 13) (v := .pointer (some ⟨B, 0, none⟩)) rfl (by kernel_rfl) (by kernel_rfl) (by kernel_rfl) (fun _ _ _ h => h) (Or.inl ⟨by rfl, fun wS hSw => ?_⟩) (by assumption) ?_
      · (try dsimp only at hSw); go_simp
      (try simp only [Act.put, List.setIfInBounds_toArray, List.set_cons_zero, List.set_cons_succ])
      refine wpAnyH_take (i := 14) (v := .pointer (some ⟨B, 1, none⟩)) rfl (by kernel_rfl) (by kernel_rfl) (by kernel_rfl) (fun _ _ _ h => h) (Or.inl ⟨by rfl, fun wS hSw => ?_⟩) (by assumption) ?_
      · (try dsimp only at hSw); go_simp
      (try simp only [Act.put, List.setIfInBounds_toArray, List.set_cons_zero, List.set_cons_succ])
      refine wpAnyH_ready (rs := [15]) (by kernel_rfl) (by simp) ?_
      refine AllReadyH.cons rfl (fun K hK => ?_) AllReadyH.nil
      go_simp
      refine hK.out _ _ ?_ (fun hHeld => ?_)
      · exact ⟨(World.cell?_setCell_far _ _ _ _ (fun e => npB e.symm)).trans x1, (World.cell?_setCell_far _ _ _ _ (fun e => nqB e.symm)).trans x2, (World.cell?_setCell_far _ _ _ _ (fun e => nrB e.symm)).trans x3⟩
      clear hK K
      (try simp only [Act.put, List.setIfInBounds_toArray, List.set_cons_zero, List.set_cons_succ])
      refine wpAnyH_done (by kernel_rfl) ?_ _
      have hk3 := (unhide KP3).2.2.2.1
      have S3 : Hid (Sys (w3.setCell ⟨B, 1, none⟩ (.slice a3 m cap3)) C B { d with files := d.files.insertIdx i ⟨n, ByteArray.empty, 0⟩ }) := by
        have k3 := hk3
        have own3 := unhide OWN3
        have hne3 := own_ne own3 k3 (by decide)
        rw [← unhide HM] at own3 hne3 ⊢
        exact hide ⟨hCB, fit_ins (unhide HFIT) (fits_new hn) hi hl, _, k3.set 1 _, own_set own3 hne3, hne3⟩
      have B3 : Hid (Below C W (w3.setCell ⟨B, 1, none⟩ (.slice a3 m cap3))) := hide ((((unhide BA).mono (show C ≤ W.heap.size by omega)).grown (unhide GR3) (by have := (unhide BA).size; show C ≤ (w1.alloc _).heap.size; omega) (fun k hk => (unhide HOL k hk).1)).setCell (p := ⟨B, 1, none⟩) hCB _)
      clear hk3 hHeld
      go_wp2
      go_end0
      exact ⟨rfl, unhide S3, unhide B3⟩
    · go_simp
      refine hK.out _ _ ?_ (fun hHeld => ?_)
      · exact ⟨(unhide HX _ (unhide BA)).1, (unhide HX _ (unhide BA)).2.1, (unhide HX _ (unhide BA)).2.2.1⟩
      clear hK K
      (try simp only [Act.put, List.setIfInBounds_toArray, List.set_cons_zero, List.set_cons_succ])
      refine wpAnyH_ready (rs := [5]) (by kernel_rfl) (by simp) ?_
      refine AllReadyH.cons rfl (fun K hK => ?_) AllReadyH.nil
      go_simp
      refine hK.out _ _ ?_ (fun hHeld => ?_)
      · exact hHeld
      clear hK K
      (try simp only [Act.put, List.setIfInBounds_toArray, List.set_cons_zero, List.set_cons_succ])
      refine wpAnyH_ready (rs := [11]) (by kernel_rfl) (by simp) ?_
      refine AllReadyH.cons rfl (fun K hK => ?_) AllReadyH.nil
      go_simp
      refine (unhide HIN _ w1.heap.size (unhide BA) hsA (unhide KA)).mono ?_
      rintro e w3 ⟨v3, rfl, own3, gr3⟩
      have KP3 := hide (unhide HG _ _ (unhide BA) gr3)
      obtain ⟨a3, cap3, rfl⟩ := own_form own3
      have OWN3 := hide own3
      have GR3 := hide gr3
      clear own3 gr3
      go_wp2_with fail
      refine hK.out _ _ ?_ (fun hHeld => ?_)
      · exact ⟨(unhide KP3).1, (unhide KP3).2.1, (unhide KP3).2.2.1⟩
      clear hK K
      (try simp only [Act.put, List.setIfInBounds_toArray, List.set_cons_zero, List.set_cons_succ])
      obtain ⟨x1, x2, x3, x4, x5, x6⟩ := unhide KP3
      refine wpAnyH_take (i := 12) (v := .pointer (some ⟨B, 0, none⟩)) rfl (by kernel_rfl) (by kernel_rfl) (by kernel_rfl) (fun _ _ _ h => h) (Or.inl ⟨by rfl, fun wS hSw => ?_⟩) (by assumption) ?_
      · (try dsimp only at hSw); go_simp
      (try simp only [Act.put, List.setIfInBounds_toArray, List.set_cons_zero, List.set_cons_succ])
      refine wpAnyH_take (i := 13) (v := .pointer (some ⟨B, 0, none⟩)) rfl (by kernel_rfl) (by kernel_rfl) (by kernel_rfl) (fun _ _ _ h => h) (Or.inl ⟨by rfl, fun wS hSw => ?_⟩) (by assumption) ?_
      · (try dsimp only at hSw); go_simp
      (try simp only [Act.put, List.setIfInBounds_toArray, List.set_cons_zero, List.set_cons_succ])
      refine wpAnyH_take (i := 14) (v := .pointer (some ⟨B, 1, none⟩)) rfl (by kernel_rfl) (by kernel_rfl) (by kernel_rfl) (fun _ _ _ h => h) (Or.inl ⟨by rfl, fun wS hSw => ?_⟩) (by assumption) ?_
      · (try dsimp only at hSw); go_simp
      (try simp only [Act.put, List.setIfInBounds_toArray, List.set_cons_zero, List.set_cons_succ])
      refine wpAnyH_ready (rs := [15]) (by kernel_rfl) (by simp) ?_
      refine AllReadyH.cons rfl (fun K hK => ?_) AllReadyH.nil
      go_simp
      refine hK.out _ _ ?_ (fun hHeld => ?_)
      · exact ⟨(World.cell?_setCell_far _ _ _ _ (fun e => npB e.symm)).trans x1, (World.cell?_setCell_far _ _ _ _ (fun e => nqB e.symm)).trans x2, (World.cell?_setCell_far _ _ _ _ (fun e => nrB e.symm)).trans x3⟩
      clear hK K
      (try simp only [Act.put, List.setIfInBounds_toArray, List.set_cons_zero, List.set_cons_succ])
      refine wpAnyH_done (by kernel_rfl) ?_ _
      have hk3 := (unhide KP3).2.2.2.1
      have S3 : Hid (Sys (w3.setCell ⟨B, 1, none⟩ (.slice a3 m cap3)) C B { d with files := d.files.insertIdx i ⟨n, ByteArray.empty, 0⟩ }) := by
        have k3 := hk3
        have own3 := unhide OWN3
        have hne3 := own_ne own3 k3 (by decide)
        rw [← unhide HM] at own3 hne3 ⊢
        exact hide ⟨hCB, fit_ins (unhide HFIT) (fits_new hn) hi hl, _, k3.set 1 _, own_set own3 hne3, hne3⟩
      have B3 : Hid (Below C W (w3.setCell ⟨B, 1, none⟩ (.slice a3 m cap3))) := hide ((((unhide BA).mono (show C ≤ W.heap.size by omega)).grown (unhide GR3) (by have := (unhide BA).size; show C ≤ (w1.alloc _).heap.size; omega) (fun k hk => (unhide HOL k hk).1)).setCell (p := ⟨B, 1, none⟩) hCB _)
      clear hk3 hHeld
      go_wp2
      go_end0
      exact ⟨rfl, unhide S3, unhide B3⟩
end Go.Proofs.YtpfmhlldkikbjaaDoor
