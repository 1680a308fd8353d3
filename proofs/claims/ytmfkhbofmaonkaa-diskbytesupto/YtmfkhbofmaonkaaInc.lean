/-
  What slices.Insert does to a row of files of its own, over this seat's program.
-/
import Derived.Test.YtmfkhbofmaonkaaInb
set_option linter.unusedVariables false
set_option linter.unusedSimpArgs false
namespace Go.Proofs.Ytmfkhbofmaonkaa
open Go.RowKit Go.Proofs.Dsk Go.Lib

theorem below_alloc'' (w : World) (o : Obj) : Below w.heap.size w (w.alloc o) := (Below.refl _ w).alloc (Nat.le_refl _) _
theorem insertIdx_eq (f : File) : ∀ (l : List File) (i : Nat), i ≤ l.length → l.insertIdx i f = l.take i ++ f :: l.drop i
  | l, 0, _ => by simp
  | [], i + 1, h => by simp at h
  | x :: l, i + 1, h => by rw [List.insertIdx_succ_cons, insertIdx_eq f l i (by simpa using h)]; simp
theorem flatF_insert (l : List File) (i : Nat) (f : File) (h : i ≤ l.length) : flatF (l.insertIdx i f) = (flatF l).take (i * 3) ++ (cellsF f ++ (flatF l).drop (i * 3)) := by
  rw [insertIdx_eq f l i h, flatF_append, flatF_cons, flatF_take, flatF_drop]
theorem insert_len (l : List File) (i : Nat) (f : File) (h : i ≤ l.length) : (l.insertIdx i f).length = l.length + 1 := by
  rw [insertIdx_eq f l i h]; simp; omega
/-- The cells that are to come, place by place. -/
theorem ins_get {l : List File} {i : Nat} {f : File} (h : i ≤ l.length) (t : Nat) (ht : t < (l.length + 1) * 3) : (flatF (l.insertIdx i f))[t]? = if t < i * 3 then (flatF l)[t]? else if t < (i + 1) * 3 then (cellsF f)[t - i * 3]? else (flatF l)[t - 3]? := by
  have hfl := flatF_length l
  rw [flatF_insert l i f h, List.getElem?_append]
  by_cases h1 : t < i * 3
  · rw [if_pos (by rw [List.length_take]; omega), if_pos h1, List.getElem?_take, if_pos h1]
  · rw [if_neg (by rw [List.length_take]; omega), if_neg h1, List.length_take, List.getElem?_append, show min (i * 3) (flatF l).length = i * 3 by omega]
    by_cases h2 : t < (i + 1) * 3
    · rw [if_pos (by show t - i * 3 < 3; omega), if_pos h2]
    · rw [if_neg (by show ¬ t - i * 3 < 3; omega), if_neg h2, List.getElem?_drop, show (cellsF f).length = 3 from rfl]
      congr 1
      omega
theorem own_ins {w' : World} {C g cap i : Nat} {l : List File} {f : File} {cur : Array Value} (hb : C ≤ g) (hg : w'.heap[g]? = some (.cells cur 56 (0, 0))) (hi : i ≤ l.length) (hcap : l.length + 1 ≤ cap) (hcm : cap ≤ maxLen) (hsz : cur.size = cap * 3)
    (hget : ∀ t, t < (l.length + 1) * 3 → cur[t]? = if t < i * 3 then (flatF l)[t]? else if t < (i + 1) * 3 then (cellsF f)[t - i * 3]? else (flatF l)[t - 3]?) :
    w'.ownsRow C 56 3 (.slice (some ⟨g, 0, none⟩) (l.length + 1) cap) (l.insertIdx i f).length (flatF (l.insertIdx i f)) := by
  have hil := insert_len l i f hi
  refine ⟨by rw [flatF_length, hil], Or.inr ⟨g, cap, cur, by rw [hil], hb, hg, by rw [hil]; exact hcap, hcm, hsz, ?_⟩⟩
  rw [hil]
  apply List.ext_getElem?
  intro t
  by_cases ht : t < (l.length + 1) * 3
  · rw [List.getElem?_take, if_pos ht, Array.getElem?_toList, hget t ht, ins_get hi t ht]
  · rw [List.getElem?_eq_none (by rw [List.length_take]; omega), List.getElem?_eq_none (by rw [flatF_length, hil]; omega)]

set_option maxRecDepth 100000 in
theorem fromF_run (a : Option Addr) (n cap : Nat) (f : Nat) (htl : f ≤ n) (w : World) :
    (Instr.slice 22 (.slice a n cap) (some (.int .i64 (f : Int))) none none).run Try.prog w = .ok (sliced a f n cap 3) w := by
  rw [run_slice_l (P := Try.prog) w 22 a n cap (by kernel_rfl) .i64 f (by omega) (by omega)]
  obtain ⟨i0, hi, hz0, hz1, hz2⟩ := info_parts fileInfo
  have he : Try.prog.elem 22 = 56 := by kernel_rfl
  rw [he]
  go_simp
set_option maxHeartbeats 2000000 in
set_option maxRecDepth 100000 in
theorem insF_end (C : Nat) (a : Option Addr) (cap vb : Nat) (l : List File) (f : File) (w : World) (hown : w.ownsRow C 56 3 (.slice a l.length cap) l.length (flatF l)) (hl : l.length ≤ 1024) (hv : Blk w vb 56 (cellsF f).toArray) (hC : C ≤ w.heap.size) :
    Calls Try.prog 37 #[.slice a l.length cap, .int .i64 (l.length : Nat), .slice (some ⟨vb, 0, none⟩) 1 1] w fun e w' => ∃ v', e = .returned v' ∧ w'.ownsRow C 56 3 v' (l.length + 1) (flatF l ++ cellsF f) ∧ w.grownBy w' (Value.slice a l.length cap).ownBlock := by
  obtain ⟨i0, hi, hz0, hz1, hz2⟩ := info_parts fileInfo
  obtain ⟨v', w', hrun, h2, h3, _⟩ := run_append_own (P := Try.prog) w C 22 22 56 i0 (.agg #[.string ByteArray.empty, .string ByteArray.empty, .int .i64 0]) 3 40 Try.underlying22 hi hz0 hz1 hz2 rfl (by decide) _ l.length (flatF l) hown ⟨vb, 0, none⟩ 1 1 (cellsF f) rfl (fun j u hj => by
    rw [Addr.add_lit, Nat.zero_add, hv.cell]
    simpa using hj) (by intro u hu; simp [cellsF] at hu; rcases hu with rfl | rfl | rfl <;> rfl) (by unfold maxLen; omega) (by omega) hC
  have H2 := hide h2
  have H3 := hide h3
  have hnc : l.length ≤ cap := by
    rcases hown.2 with ⟨h0, h1⟩ | ⟨g, cp, cur, hv, hb, hg, hn, _⟩
    · omega
    · injection hv with _ _ e; omega
  have hcm : cap ≤ 9223372036854775807 := by
    rcases hown.2 with ⟨h0, h1⟩ | ⟨g, cp, cur, hv, hb, hg, hn, hm, _⟩
    · injection h0 with _ _ e; omega
    · injection hv with _ _ e; unfold maxLen at hm; omega
  obtain ⟨n, hn⟩ : ∃ n, n = l.length := ⟨_, rfl⟩
  rw [← hn] at hrun H2 H3 hnc hl ⊢
  have hne : ((n : Int) == (n : Int)) = true := by simp
  have hle : (n : Int) ≤ (n : Int) := by omega
  have hsl := fun W => fromF_run a n cap n (Nat.le_refl _) W
  generalize sliced a n n cap 3 = P at hsl
  clear h2 h3 hown hv hn hi hz0 hz1 hz2
  go_enter Try.func37, Try.ntmps37
  go_wp2_with (at_builtin; refine Lib.wpList_append_run _ rfl _ _ _ _ rfl _ _ rfl rfl _ _ hrun ?_)
  go_ret
  exact ⟨v', rfl, unhide H2, unhide H3⟩

/-- slices.Insert puts one file into a row of its own. -/
theorem insertF_own (C : Nat) (v : Value) (l : List File) (i : Nat) (f : File) (vb : Nat) (w : World) (hown : w.ownsRow C 56 3 v l.length (flatF l)) (hi : i ≤ l.length) (hl : l.length ≤ 1024) (hv : Blk w vb 56 (cellsF f).toArray) (hne : v.ownBlock ≠ some vb) (hC : C ≤ w.heap.size) :
    Calls Try.prog 37 #[v, .int .i64 (i : Nat), .slice (some ⟨vb, 0, none⟩) 1 1] w fun e w' => ∃ v', e = .returned v' ∧ w'.ownsRow C 56 3 v' (l.insertIdx i f).length (flatF (l.insertIdx i f)) ∧ w.grownBy w' v.ownBlock := by
  by_cases he : i = l.length
  · subst he
    obtain ⟨a, cap, rfl⟩ := own_form hown
    refine (insF_end C a cap vb l f w hown hl hv hC).mono ?_
    rintro e w' ⟨v', rfl, h2, h3⟩
    refine ⟨v', rfl, ?_, h3⟩
    rw [insert_len l _ f (Nat.le_refl _), flatF_insert l _ f (Nat.le_refl _), List.take_of_length_le (by rw [flatF_length]; omega), List.drop_of_length_le (by rw [flatF_length]; omega), List.append_nil]
    exact h2
  · have hlt : i < l.length := by omega
    have hvs : ∀ j u, (cellsF f)[j]? = some u → w.cell? ⟨vb, j, none⟩ = some u := fun j u hj => by rw [hv.cell]; simpa using hj
    have h1v : ∀ u ∈ cellsF f, u.oneCell' = true := by intro u hu; simp [cellsF] at hu; rcases hu with rfl | rfl | rfl <;> rfl
    rcases hown.2 with ⟨_, h0⟩ | ⟨g, cap, cur, hv2, hb, hg, hnc, hcm, hcs, htake⟩
    · omega
    · subst hv2
      have hne' : vb ≠ g := fun e => hne (by rw [e]; rfl)
      have hfl := flatF_length l
      have hcell : ∀ j u, (flatF l)[j]? = some u → w.cell? ⟨g, j, none⟩ = some u := fun j u hj => by
        rw [Lib.cell_of_heap hg j]
        rw [← htake, List.getElem?_take] at hj
        split at hj
        · simpa using hj
        · cases hj
      have hcg : ∀ t, t < l.length * 3 → cur[t]? = (flatF l)[t]? := fun t ht => by rw [← htake, List.getElem?_take, if_pos ht, Array.getElem?_toList]
      by_cases hroom : l.length + 1 ≤ cap
      · refine (insF_shift g l.length cap i vb 1 1 (flatF l) (cellsF f) w hlt (by omega) hroom (by unfold maxLen at hcm; omega) hne' hfl rfl hcell (fun j hj => by rw [Lib.cell_of_heap hg j, Array.getElem?_eq_getElem (by omega)]; rfl) (fun j => Lib.frozen_of_heap hg j) hvs (flatF_one l) h1v 56 56 3 (cap * 3) (by unfold Blk at hv; simp [World.shape?, hv, cellsF]) (by simp [World.shape?, hg, hcs]) (by omega) (hv.frozen 0) (hv.frozen 3)).mono ?_
        rintro e w' ⟨rfl, rfl⟩
        have hg1 := heap_setCells g ((flatF l).drop (i * 3)) ((i + 1) * 3) w.drew cur _ _ hg
        have hg2 := heap_setCells g (cellsF f) (i * 3) _ _ _ _ hg1
        refine ⟨_, rfl, own_ins hb hg2 hi hroom hcm (by rw [laid_size, laid_size]; exact hcs) (fun t ht => ?_), ?_⟩
        · rw [laid_get, laid_size, laid_get, List.length_drop]
          by_cases h1 : t < i * 3
          · rw [if_neg (by omega), if_neg (by omega), if_pos h1]; exact hcg t (by omega)
          · rw [if_neg h1]
            by_cases h2 : t < (i + 1) * 3
            · rw [if_pos (by refine ⟨by omega, by show t < i * 3 + 3; omega, by omega⟩), if_pos h2]
            · rw [if_neg (by show ¬ (i * 3 ≤ t ∧ t < i * 3 + 3 ∧ t < cur.size); omega), if_neg h2, if_pos (by omega), List.getElem?_drop]
              congr 1
              omega
        · have a1 := grown_setCells g ((flatF l).drop (i * 3)) ((i + 1) * 3) w.drew
          have a2 := grown_trans a1 (grown_setCells g (cellsF f) (i * 3) _)
          exact ⟨a2.os, a2.tape, a2.output, a2.size, a2.block⟩
      · refine (insF_grow g l.length cap i vb 1 1 (flatF l) (cellsF f) w hlt (by omega) hnc (by omega) (by omega) hfl rfl hcell hvs (flatF_one l) h1v).mono ?_
        rintro e w' ⟨G, hG1, hG2, rfl, rfl⟩
        obtain ⟨ROW, hROW⟩ : ∃ ROW : Array Value, ROW = ((flatF l).take (i * 3)).toArray ++ Builtin.zeroCells zF.cells (l.length + 1 - i) ++ Builtin.zeroCells zF.cells (G - (l.length + 1)) := ⟨_, rfl⟩
        rw [← hROW]
        have hRs : ROW.size = G * 3 := by
          rw [hROW]
          simp [Builtin.zeroCells, Value.cells, zF]
          omega
        have hRg : ∀ t, t < i * 3 → ROW[t]? = (flatF l)[t]? := fun t ht => by
          rw [hROW, Array.append_assoc, Array.getElem?_append_left (by simp; omega)]
          simp [ht]
        have hg0 : (w.alloc (.cells ROW 56)).drew.heap[w.heap.size]? = some (.cells ROW 56 (0, 0)) := Blk.new w _ _
        have hg1 := heap_setCells w.heap.size (cellsF f) (i * 3) _ _ _ _ hg0
        have hg2 := heap_setCells w.heap.size ((flatF l).drop (i * 3)) ((i + 1) * 3) ((w.alloc (.cells ROW 56)).drew.setCells w.heap.size (i * 3) (cellsF f)).drew _ _ _ hg1
        refine ⟨_, rfl, own_ins hC hg2 hi hG1 hG2 (by rw [laid_size, laid_size]; exact hRs) (fun t ht => ?_), ?_⟩
        · rw [laid_get, laid_size, laid_get, List.length_drop]
          by_cases h1 : t < i * 3
          · rw [if_neg (by omega), if_neg (by omega), if_pos h1]; exact hRg t h1
          · rw [if_neg h1]
            by_cases h2 : t < (i + 1) * 3
            · rw [if_neg (by omega), if_pos (by refine ⟨by omega, by show t < i * 3 + 3; omega, by omega⟩), if_pos h2]
            · rw [if_pos (by omega), if_neg h2, List.getElem?_drop]
              congr 1
              omega
        · have a0 := below_alloc'' w (.cells ROW 56)
          have a1 := grown_setCells w.heap.size (cellsF f) (i * 3) (w.alloc (.cells ROW 56)).drew
          have a2 := grown_setCells w.heap.size ((flatF l).drop (i * 3)) ((i + 1) * 3) ((w.alloc (.cells ROW 56)).drew.setCells w.heap.size (i * 3) (cellsF f)).drew
          refine ⟨a2.os.trans (a1.os.trans a0.os), a2.tape.trans (a1.tape.trans a0.tape), a2.output.trans (a1.output.trans a0.output), Nat.le_trans a0.size (Nat.le_trans a1.size a2.size), fun k hk hn => ?_⟩
          have hkn : some k ≠ some w.heap.size := fun e => by injection e with e; omega
          exact (a2.block k (by have := a1.size; have := a0.size; exact Nat.lt_of_lt_of_le hk (Nat.le_trans a0.size a1.size)) hkn).trans ((a1.block k (Nat.lt_of_lt_of_le hk a0.size) hkn).trans (a0.block k hk))
end Go.Proofs.Ytmfkhbofmaonkaa
