/-
  What post.Pack does, over this seat's program.
-/
import Derived.Test.YtfjjigcghhohkaaPnq
import Derived.Test.YtfjjigcghhohkaaPnr
import Derived.Test.YtfjjigcghhohkaaPni
set_option linter.unusedVariables false
namespace Go.Proofs.Ytfjjigcghhohkaa
open Go.RowKit Go.Shelf Go.Proofs.Num Go.Proofs.Dct Go.Proofs.Pna
attribute [local go_sem] Oper.semAt_some

theorem grown_kp {W W' : World} {row : Option Nat} (h : W.grownBy W' row) : Kp (row.getD W.heap.size) row W W' := ⟨h.os, h.tape, h.output, h.size, fun k hk _ hr => h.block k hk hr⟩
theorem Bdr.grown {W W' : World} {B b : Nat} {g row : Option Nat} {l : List UInt8} (h : Bdr W B b g l) (hg : W.grownBy W' row) (h1 : some b ≠ row) (h2 : ∀ k, g = some k → some k ≠ row) : Bdr W' B b g l := by
  have hb := h.lt
  refine h.kept (grown_kp hg) ?_ h1 (fun k hk => ⟨?_, h2 k hk⟩)
  · cases row with
    | none => simp only [Option.getD_none]; omega
    | some r => exact fun e => h1 (by rw [e]; rfl)
  · have h3 := h.rowlt k hk
    have h4 := h2 k hk
    cases row with
    | none => simp only [Option.getD_none]; omega
    | some r => exact fun e => h4 (by rw [e]; rfl)
/-- Block k is that of the builder's bytes. -/
def RowOf (b k : Nat) (W : World) : Prop := ∃ p v, W.heap[b]? = some (.cells #[p, v] 54 (0, 0)) ∧ v.ownBlock = some k
theorem Bdr.rowof {W : World} {B b : Nat} {g : Option Nat} {l : List UInt8} (h : Bdr W B b g l) {k : Nat} (hk : RowOf b k W) : g = some k := by
  obtain ⟨p, v, h4, h5⟩ := h.row
  obtain ⟨p', v', h6, h7⟩ := hk
  have hb4 := h4.symm.trans h6
  injection hb4 with e1
  injection e1 with e2
  have := congrArg (fun a => a[1]?) e2
  have hv : v = v' := by simpa using this
  rw [← h5, hv, h7]
theorem Bdr.rowof' {W : World} {B b : Nat} {g : Option Nat} {l : List UInt8} (h : Bdr W B b g l) {k : Nat} (hk : g = some k) : RowOf b k W := by
  obtain ⟨p, v, h4, h5⟩ := h.row
  exact ⟨p, v, h4, h5.trans hk⟩
theorem Bdr.rowcells {W : World} {B b : Nat} {g : Option Nat} {l : List UInt8} (h : Bdr W B b g l) : ∀ k, g = some k → ∃ o : Obj, W.heap[k]? = some o ∧ o.isCells = true := by
  obtain ⟨p, v, h4, h5⟩ := h.row
  intro k hk
  rcases h.isb with ⟨hB, v1, hb1, ⟨ho1, ho2⟩, hn1⟩ | ⟨hB, v1, hb1, ⟨ho1, ho2⟩, hn1⟩
  all_goals
    have hv : v1 = v := by
      have hb4 := hb1.symm.trans h4
      injection hb4 with e1
      injection e1 with e2
      have := congrArg (fun a => a[1]?) e2
      simpa using this
    subst hv
    rcases ho2 with ⟨rfl, _⟩ | ⟨j, cap, cur, fz, rfl, hj, hh, r⟩
    · rw [← h5] at hk; cases hk
    · rw [← h5] at hk
      cases hk
      exact ⟨_, hh, rfl⟩
theorem Bdr.bcells {W : World} {B b : Nat} {g : Option Nat} {l : List UInt8} (h : Bdr W B b g l) : ∃ o : Obj, W.heap[b]? = some o ∧ o.isCells = true := by
  obtain ⟨p, v, h4, h5⟩ := h.row
  exact ⟨_, h4, rfl⟩

/-- The i-th piece of a list; what is written of the first pieces, and the last number of them. -/
def chunkL (l : List Nat) (i : Nat) : List Nat := (l.drop (32 * i)).take 32
def packN (l : List Nat) : Nat → List UInt8 × Nat
  | 0 => (putL l.length, 0)
  | k + 1 => ((packN l k).1 ++ blockL (packN l k).2 (chunkL l k), (chunkL l k).getD ((chunkL l k).length - 1) 0)
def packL (l : List Nat) : List UInt8 := (packN l ((l.length + 31) / 32)).1

theorem chunkL_len (l : List Nat) (i : Nat) : (chunkL l i).length = min 32 (l.length - 32 * i) := by
  unfold chunkL
  rw [List.length_take, List.length_drop]
theorem chunkL_get (l : List Nat) (i j : Nat) (hj : j < 32) : (chunkL l i).getD j 0 = l.getD (32 * i + j) 0 := by
  unfold chunkL
  rw [List.getD_eq_getElem?_getD, List.getD_eq_getElem?_getD, List.getElem?_take, if_pos hj, List.getElem?_drop]
theorem chunkL_rise {l : List Nat} (h : l.Pairwise (· < ·)) (i : Nat) : (chunkL l i).Pairwise (· < ·) := (h.sublist (List.drop_sublist _ _)).sublist (List.take_sublist _ _)
theorem chunkL_fit {l : List Nat} {P : Nat → Prop} (h : ∀ x ∈ l, P x) (i : Nat) : ∀ x ∈ chunkL l i, P x := fun x hx => h x (List.mem_of_mem_drop (List.mem_of_mem_take hx))
/-- The last number ahead of a piece is less than its first. -/
theorem ahead_le {l : List Nat} (h : l.Pairwise (· < ·)) (i : Nat) (hi : 32 * i < l.length) : (packN l i).2 ≤ (chunkL l i).getD 0 0 := by
  cases i with
  | zero => exact Nat.zero_le _
  | succ k =>
    have hl := chunkL_len l k
    have hl2 : (chunkL l k).length = 32 := by omega
    show (chunkL l k).getD ((chunkL l k).length - 1) 0 ≤ _
    rw [hl2, chunkL_get _ _ _ (by omega), chunkL_get _ _ _ (by omega), List.getD_eq_getElem?_getD, List.getD_eq_getElem?_getD, List.getElem?_eq_getElem (show 32 * k + (32 - 1) < l.length by omega), List.getElem?_eq_getElem (show 32 * (k + 1) + 0 < l.length by omega)]
    simp only [Option.getD_some]
    have := List.pairwise_iff_getElem.1 h (32 * k + (32 - 1)) (32 * (k + 1) + 0) (by omega) (by omega) (by omega)
    omega
theorem getD_fit {l : List Nat} (h : ∀ x ∈ l, x ≤ 4294967295) (j : Nat) : l.getD j 0 ≤ 4294967295 := by
  rw [List.getD_eq_getElem?_getD]
  cases hh : l[j]? with
  | none => simp
  | some x => exact h x (List.mem_of_getElem? hh)
theorem blockL_len {l : List Nat} (h : ∀ x ∈ l, x ≤ 4294967295) (hl : l.length ≤ 32) (a : Nat) : (blockL a l).length ≤ 340 := by
  have h1 := gapsN_len l (l.length - 1) h
  have h2 := getD_fit h 0
  have h3 := putL_len10 (n := l.getD 0 0 - a) (by omega)
  have h4 := putL_len10 (n := l.length) (by omega)
  have h5 := putL_len10 (n := (gapsN l (l.length - 1)).length) (by omega)
  unfold blockL
  simp only [List.length_append]
  omega
theorem packN_len {l : List Nat} (h : ∀ x ∈ l, x ≤ 4294967295) (hl : l.length < 18446744073709551616) : ∀ i, (packN l i).1.length ≤ 10 + 340 * i
  | 0 => putL_len10 hl
  | i + 1 => by
    have ih := packN_len h hl i
    have h2 := blockL_len (chunkL_fit h i) (by have := chunkL_len l i; omega) (packN l i).2
    show ((packN l i).1 ++ blockL (packN l i).2 (chunkL l i)).length ≤ _
    rw [List.length_append]
    omega
theorem row32_chunk {w : World} {b0 off T cap : Nat} {l : List Nat} (h : Row32 w (.slice (some ⟨b0, off, none⟩) T cap) l) (hT : T = l.length) (i : Nat) (hi : 32 * i < T) : Row32 w (chunkV b0 off T i) (chunkL l i) := by
  have hl := chunkL_len l i
  obtain ⟨a, cap', hv, hl4, hfit, hh⟩ := h
  injection hv with e1 e2 e3
  subst e1
  rcases hh with hh | ⟨b, o, ha, hlt, hcl⟩
  · subst hh
    simp at hT
    omega
  · injection ha with ha
    injection ha with e4 e5
    subst e4 e5
    refine ⟨some ⟨b0, off + 32 * i, none⟩, min 32 (T - 32 * i), ?_, by omega, chunkL_fit hfit i, .inr ⟨b0, off + 32 * i, rfl, hlt, fun j u hj => ?_⟩⟩
    · unfold chunkV
      rw [hl, hT]
    · have hju : j < (chunkL l i).length := by
        have := (List.getElem?_eq_some_iff.1 hj).1
        rw [flat32_len] at this
        exact this
      rw [Nat.add_assoc]
      apply hcl (32 * i + j) u
      rw [← hj]
      unfold chunkL flatG
      have : ∀ (m : List Nat), m.flatMap cells32 = m.map (fun (n : Nat) => Value.int .u32 (n : Int)) := by
        intro m
        induction m with
        | nil => rfl
        | cons x r ih => rw [List.flatMap_cons, ih]; rfl
      rw [this, this]
      simp only [List.getElem?_map, List.getElem?_take, List.getElem?_drop]
      rw [if_pos (by omega)]
end Go.Proofs.Ytfjjigcghhohkaa
