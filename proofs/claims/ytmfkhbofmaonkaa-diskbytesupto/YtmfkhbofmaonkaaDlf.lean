/-
  What slices.Delete does to a row of files of its own, over this seat's program.
-/
import Derived.Test.YtmfkhbofmaonkaaWof
import Derived.Laws.IdiomCopy
import Derived.Deep.RegionLaw
set_option linter.unusedVariables false
namespace Go.Proofs.Ytmfkhbofmaonkaa
open Go.RowKit Go.Proofs.Dsk

/-- Cells laid over others from place o on. -/
def laid (cur : Array Value) : Nat → List Value → Array Value
  | _, [] => cur
  | o, v :: r => laid (cur.setIfInBounds o v) (o + 1) r

theorem laid_size : ∀ (vs : List Value) (cur : Array Value) (o : Nat), (laid cur o vs).size = cur.size
  | [], _, _ => rfl
  | v :: r, cur, o => by rw [laid, laid_size r, Array.size_setIfInBounds]
theorem laid_get : ∀ (vs : List Value) (cur : Array Value) (o t : Nat), (laid cur o vs)[t]? = if o ≤ t ∧ t < o + vs.length ∧ t < cur.size then vs[t - o]? else cur[t]?
  | [], cur, o, t => by
    rw [laid, if_neg]
    simp only [List.length_nil]
    omega
  | v :: r, cur, o, t => by
    rw [laid, laid_get r, Array.size_setIfInBounds, Array.getElem?_setIfInBounds]
    simp only [List.length_cons]
    by_cases h0 : t = o
    · subst h0
      rw [if_neg (by omega)]
      by_cases h1 : t < cur.size
      · rw [if_pos rfl, if_pos h1, if_pos ⟨Nat.le_refl _, by omega, h1⟩]; simp
      · rw [if_pos rfl, if_neg h1, if_neg (by omega), Array.getElem?_eq_none (by omega)]
    · by_cases h1 : o + 1 ≤ t ∧ t < o + 1 + r.length ∧ t < cur.size
      · rw [if_pos h1, if_pos (by omega), show t - o = (t - (o + 1)) + 1 by omega, List.getElem?_cons_succ]
      · rw [if_neg h1, if_neg (Ne.symm h0), if_neg (by omega)]

theorem heap_setCells (b : Nat) : ∀ (vs : List Value) (o : Nat) (w : World) (cur : Array Value) (t : TypeId) (fr : Nat × Nat), w.heap[b]? = some (.cells cur t fr) → (w.setCells b o vs).heap[b]? = some (.cells (laid cur o vs) t fr)
  | [], _, _, _, _, _, h => h
  | v :: r, o, w, cur, t, fr, h => by
    rw [World.setCells, laid]
    refine heap_setCells b r (o + 1) _ _ t fr ?_
    simp [World.setCell, Array.getElem?_modify, h]
theorem grown_setCells (b : Nat) : ∀ (vs : List Value) (o : Nat) (w : World), w.grownBy (w.setCells b o vs) (some b)
  | [], _, w => grown0 w b
  | v :: r, o, w => grown_trans (grown1 w b o v) (grown_setCells b r (o + 1) _)

def zeroF : List Value := [.string ByteArray.empty, .string ByteArray.empty, .int .i64 0]

theorem run_clear1 (w : World) (ty : TypeId) (b o c : Nat) (hc : ∀ j, j < 3 → (w.cell? ⟨b, o + j, none⟩).isSome = true) (hf : ∀ j, j < 3 → w.frozen? ⟨b, o + j, none⟩ = false) :
    (Builtin.clear_ #[22] ty #[.slice (some ⟨b, o, none⟩) 1 c]).run Try.prog w = .ok (.tuple #[]) (w.setCells b o zeroF) := by
  have hst := run_storeCells_cells (P := Try.prog) b o zeroF 0 w (fun j hj => by have := hc j (by simpa [zeroF] using hj); simpa using this) (fun j hj => by have := hf j (by simpa [zeroF] using hj); simpa using this) (by intro v hv; simp [zeroF] at hv; rcases hv with rfl | rfl <;> rfl)
  simp only [Nat.add_zero] at hst
  have hzc : (Builtin.zeroCells (Value.agg #[.string { data := #[] }, .string { data := #[] }, .int .i64 0]).cells 1).toList = zeroF := by simp [Builtin.zeroCells, Value.cells, zeroF, Array.range]; rfl
  simp [Builtin.clear_, run_underlying Try.underlying22, Try.zeroValue56, hzc, hst]

set_option maxHeartbeats 4000000 in
set_option maxRecDepth 1000000 in
theorem deleteF_at (g cap i j n : Nat) (cur : Array Value) (w : World) (hg : w.heap[g]? = some (.cells cur 56 (0, 0))) (hcs : cur.size = cap * 3) (hn : n ≤ cap) (hm : cap ≤ 9223372036854775807) (hij : j = i + 1) (hj : j ≤ n) (h1 : ∀ u ∈ cur.toList.take (n * 3), u.oneCell' = true) :
    Calls Try.prog 48 #[.slice (some ⟨g, 0, none⟩) n cap, .int .i64 i, .int .i64 j] w fun e w' => e = .returned (.slice (some ⟨g, 0, none⟩) (i + (n - j)) cap) ∧
      ∃ cur', w'.heap[g]? = some (.cells cur' 56 (0, 0)) ∧ cur'.size = cur.size ∧ (∀ t, t < (i + (n - j)) * 3 → cur'[t]? = if t < i * 3 then cur[t]? else cur[t + 3]?) ∧ w.grownBy w' (some g) := by
  obtain ⟨i0, hi0, hz0, hz1, hz2⟩ := info_parts fileInfo
  obtain ⟨news, hnews⟩ : ∃ news, news = (cur.toList.take (n * 3)).drop (j * 3) := ⟨_, rfl⟩
  have hlen : news.length = (n - j) * 3 := by rw [hnews]; simp; omega
  have hcell : ∀ t, t < cap * 3 → w.cell? ⟨g, t, none⟩ = cur[t]? := fun t _ => Lib.cell_of_heap hg t
  have hsome : ∀ t, t < cap * 3 → (w.cell? ⟨g, t, none⟩).isSome = true := fun t ht => by rw [hcell t ht, Array.getElem?_eq_getElem (by omega)]; rfl
  have hfz : ∀ t, w.frozen? ⟨g, t, none⟩ = false := fun t => Lib.frozen_of_heap hg t
  have hget : ∀ t u, news[t]? = some u → cur[j * 3 + t]? = some u := by
    intro t u hu
    rw [hnews, List.getElem?_drop, List.getElem?_take] at hu
    split at hu
    · simpa using hu
    · cases hu
  obtain ⟨A, hA, hsrc⟩ : ∃ A : Addr, (if cap = j then some (⟨g, 0, none⟩ : Addr) else some ⟨g, j * 3, none⟩) = some A ∧ Hid (∀ t u, news[t]? = some u → w.drew.cell? (A.add t) = some u) := by
    by_cases h : cap = j
    · refine ⟨⟨g, 0, none⟩, by simp [h], fun t u hu => ?_⟩
      have h0 : news.length = 0 := by rw [hlen]; omega
      rw [List.length_eq_zero_iff.1 h0] at hu
      simp at hu
    · refine ⟨⟨g, j * 3, none⟩, by simp [h], fun t u hu => ?_⟩
      have ht : t < (n - j) * 3 := by
        have := (List.getElem?_eq_some_iff.1 hu).1
        rwa [hlen] at this
      rw [Addr.add_lit]
      exact (hcell (j * 3 + t) (by omega)).trans (hget t u hu)
  have s1 : Hid (news.length = (n - j) * 3) := hlen
  have s2 : Hid (∀ u ∈ news, u.oneCell' = true) := fun u hu => h1 u (by rw [hnews] at hu; exact List.mem_of_mem_drop hu)
  have s3 : Hid (∀ t, t < news.length → (w.drew.cell? ⟨g, 0 + i * 3 + t, none⟩).isSome = true ∧ w.drew.frozen? ⟨g, 0 + i * 3 + t, none⟩ = false) := by
    intro t ht
    rw [hlen] at ht
    exact ⟨hsome (0 + i * 3 + t) (by omega), hfz _⟩
  obtain ⟨W1, hW1⟩ : ∃ W1, W1 = w.drew.setCells g (0 + i * 3) news := ⟨_, rfl⟩
  have hg1 : W1.heap[g]? = some (.cells (laid cur (0 + i * 3) news) 56 (0, 0)) := by rw [hW1]; exact heap_setCells g news _ w.drew cur _ _ hg
  have hgr1 : w.grownBy W1 (some g) := by
    rw [hW1]
    have := grown_setCells g news (0 + i * 3) w.drew
    exact ⟨this.os, this.tape, this.output, this.size, this.block⟩
  have hcl : ∀ ty, (Builtin.clear_ #[22] ty #[.slice (some ⟨g, (i + (n - j)) * 3, none⟩) (n - (i + (n - j))) (cap - (i + (n - j)))]).run Try.prog W1 = .ok (.tuple #[]) (W1.setCells g ((i + (n - j)) * 3) zeroF) := by
    intro ty
    rw [show n - (i + (n - j)) = 1 by omega]
    refine run_clear1 W1 ty g _ _ (fun t ht => ?_) (fun t ht => Lib.frozen_of_heap hg1 _)
    rw [Lib.cell_of_heap hg1, Array.getElem?_eq_getElem (by rw [laid_size]; omega)]
    rfl
  have FIN : Hid (∃ cur', (W1.setCells g ((i + (n - j)) * 3) zeroF).heap[g]? = some (.cells cur' 56 (0, 0)) ∧ cur'.size = cur.size ∧ (∀ t, t < (i + (n - j)) * 3 → cur'[t]? = if t < i * 3 then cur[t]? else cur[t + 3]?) ∧ w.grownBy (W1.setCells g ((i + (n - j)) * 3) zeroF) (some g)) := by
    refine ⟨laid (laid cur (0 + i * 3) news) ((i + (n - j)) * 3) zeroF, heap_setCells g _ _ _ _ _ _ hg1, by rw [laid_size, laid_size], fun t ht => ?_, grown_trans hgr1 (grown_setCells g _ _ _)⟩
    rw [laid_get, if_neg (by omega), laid_get]
    by_cases hti : t < i * 3
    · rw [if_neg (by omega), if_pos hti]
    · rw [if_pos (by rw [hlen]; omega), if_neg hti, hnews, List.getElem?_drop, List.getElem?_take, if_pos (by omega), Array.getElem?_toList]
      congr 1
      omega
  have hW : Hid (W1 = w.drew.setCells g (0 + i * 3) news) := hW1
  have hic : i ≤ cap := by omega
  have hjc : j ≤ cap := by omega
  have hij2 : i < j := by omega
  have hin : i ≤ n := by omega
  have hne : ¬ cap = i + (n - j) := by omega
  clear hW1 hg1 hgr1 hg hget hnews hlen hcell hsome hfz h1 hij
  go_enter Try.func48, Try.ntmps48
  go_wp2_with fail
  go_region_law (refine step_append_room rfl (.tmp 22) (.tmp 25) 22 rfl 56 i0 3 Try.underlying22 hi0 hz1 g 0 i cap (by simp [Act.eval, Act.put]) A (n - j) (cap - j) news (by simp [Act.eval, Act.put]) s1.out hsrc.out s2.out (by omega) s3.out ?_; rw [← hW.out])
  go_wp2
  go_ret
  exact ⟨rfl, unhide FIN⟩

end Go.Proofs.Ytmfkhbofmaonkaa
