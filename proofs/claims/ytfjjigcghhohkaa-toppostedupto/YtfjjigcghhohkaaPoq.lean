/-
  Slices of numbers that came in, and what the second form's bound says of them.
-/
import Derived.Test.YtfjjigcghhohkaaRows
import Derived.Test.YtfjjigcghhohkaaPun
import Derived.Deep.Slices
import Derived.ProofKit
import Derived.OpenShut
import Derived.ChangeOld
set_option linter.unusedVariables false
namespace Go.Proofs.Ytfjjigcghhohkaa
open Go.ChangeShapes Go.RowKit Go.Proofs.Dct Go.Proofs.Pst

theorem bulk_ge {H : Type} (f : Nat → DataW H) (n : Nat → Nat) : ∀ k : List Nat, (∀ i ∈ k, n i ≤ Rows.uptoBulk (f i)) → (k.map n).sum ≤ Rows.uptoBulkAll (k.map f)
  | [], _ => by simp [Rows.uptoBulkAll]
  | i :: r, h => by
    have h1 := h i (by simp)
    have h2 := bulk_ge f n r (fun j hj => h j (by simp [hj]))
    simp only [List.map_cons, Rows.uptoBulkAll, List.sum_cons]
    omega
theorem rowG_of_cells {α : Type} {c : α → List Value} {Fit : α → Prop} (f : α → Value) (hc : ∀ x, c x = [f x]) {W : World} {a : Addr} {cap : Nat} {l : List α} (hl : l.length ≤ 9223372036854775807)
    (hfit : ∀ x ∈ l, Fit x) (hcell : ∀ i (h : i < l.length), W.cell? (a.add i) = some (f l[i])) : RowG c Fit W (.slice (some a) l.length cap) l := by
  have hc1 : ∀ x, (c x).length = 1 := fun x => by rw [hc]; rfl
  refine ⟨some a, cap, rfl, hl, hfit, ?_⟩
  by_cases h0 : l.length = 0
  · left; exact List.eq_nil_of_length_eq_zero h0
  · right
    have hc0 := hcell 0 (by omega)
    have hx0 : a.add 0 = a := by simp [Addr.add]
    rw [hx0] at hc0
    have hsp : a.spot = none := by
      cases hs : a.spot with
      | none => rfl
      | some y =>
        simp only [World.cell?, hs] at hc0
        split at hc0 <;> simp at hc0
    obtain ⟨b, off, sp⟩ := a
    simp only at hsp
    subst hsp
    refine ⟨b, off, rfl, ?_, ?_⟩
    · rcases Nat.lt_or_ge b W.heap.size with h' | h'
      · exact h'
      · simp [World.cell?, Array.getElem?_eq_none h'] at hc0
    · intro j u hj
      have hjl : j < l.length := by
        rcases Nat.lt_or_ge j (flatG c l).length with h' | h'
        · rwa [flatG_length hc1, Nat.mul_one] at h'
        · rw [List.getElem?_eq_none h'] at hj; cases hj
      have hg := flatG_get hc1 l j hjl 0 (by omega)
      rw [Nat.mul_one, Nat.add_zero, hc] at hg
      rw [hg] at hj
      have hcj := hcell j hjl
      rw [add_off0] at hcj
      rw [hcj]
      simpa using hj

theorem trod_row32 {H : Type} {enc : TypeId × Value → H} {W : World} {base : Nat} {held : Bool} {fuel : Nat} {cs : List Value} {x : DataW H × List MemPlace}
    (hf : DataW.trod enc Try.prog W base (fun _ => true) held fuel 22 cs = some x) : ∃ v l, cs = [v] ∧ Row32 W v l ∧ NeatS v ∧ l.length + 1 ≤ Rows.uptoBulk x.1 := by
  rcases Go.Deep.open_slice Try.underlying22 hf with ⟨rfl, rfl⟩ | ⟨a, len, cap, m, n, D, Pl, rfl, _, hl, hm, hmm, rfl, hx⟩
  · exact ⟨_, [], rfl, RowG.nil _ _ _, neat_nil, by simp [Rows.uptoBulk]⟩
  · have hmc : m = cap := by simpa using hmm
    subst hmc
    have ce : (Try.prog).cellsOf 31 = 1 := by kernel_rfl
    have each : ∀ i, i < m → ∃ s : Nat, W.cell? (a.add i) = some (.int .u32 (s : Int)) ∧ s ≤ 4294967295 ∧ 1 ≤ Rows.uptoBulk (D i) := by
      intro i hi
      obtain ⟨cs', h1, h2⟩ := hx i hi
      rw [ce, Nat.mul_one] at h1
      obtain ⟨s0, rfl, f0, g0⟩ := DataW.trod_int Try.underlying31 h2
      obtain ⟨_, _, hcell⟩ := World.cells?_some h1
      have hc0 := hcell 0 (by omega)
      have hx0 : (a.add i).add 0 = a.add i := by simp [Addr.add]
      rw [hx0] at hc0
      have g1 : 0 ≤ s0 ∧ s0 ≤ 4294967295 := by
        simp only [Lit.wf, Bool.and_eq_true, decide_eq_true_eq] at g0
        have h1 : IntKind.u32.min = 0 := by decide
        have h2 : IntKind.u32.max = 4294967295 := by decide
        omega
      refine ⟨s0.toNat, ?_, by omega, ?_⟩
      · rw [hc0, Int.toNat_of_nonneg g1.1]; rfl
      · rw [(Prod.mk.inj f0).1]; simp [Rows.uptoBulk]
    obtain ⟨q, hq⟩ := Go.Deep.choose_lt each
    obtain ⟨l, hl'⟩ : ∃ l : List Nat, l = (List.range len).map q := ⟨_, rfl⟩
    have hll : l.length = len := by rw [hl']; simp
    have hrow : Row32 W (.slice (some a) l.length m) l := by
      refine rowG_of_cells (fun n : Nat => .int .u32 (n : Int)) (fun _ => rfl) (by unfold maxLen at hm; omega) ?_ ?_
      · intro y hy
        rw [hl'] at hy
        obtain ⟨i, hi, rfl⟩ := List.mem_map.1 hy
        exact (hq i (by have := List.mem_range.1 hi; omega)).2.1
      · intro i h
        rw [(hq i (by omega)).1]
        simp [hl']
    rw [hll] at hrow
    refine ⟨_, l, rfl, hrow, ⟨fun n c h => by simp at h, fun a' n c h => by injection h with e1 e2 e3; omega⟩, ?_⟩
    have hb := bulk_ge D (fun _ => 1) (List.range len) (fun i hi => (hq i (by have := List.mem_range.1 hi; omega)).2.2)
    simp only [Rows.uptoBulk]
    have e : ∀ k : List Nat, (k.map (fun _ => 1)).sum = k.length := by
      intro k
      induction k with
      | nil => rfl
      | cons x r ih => simp only [List.map_cons, List.sum_cons, List.length_cons, ih]; omega
    rw [e, List.length_range] at hb
    omega

theorem open_row32 {H : Type} {enc : TypeId × Value → H} {W : World} {base : Nat} {held : Bool} {fuel : Nat} {v : Value} {x : DataW H × List MemPlace} (hv : ∃ a len cap, v = .slice a len cap)
    (hf : DataW.trod enc Try.prog W base (fun _ => true) held fuel 22 v.cells.toList = some x) (hb : Rows.uptoBulk x.1 ≤ 1048576) : ∃ l, Row32 W v l ∧ List.length l + 1 ≤ Rows.uptoBulk x.1 := by
  obtain ⟨a, len, cap, rfl⟩ := hv
  obtain ⟨v, l, hc, hr, _, hs⟩ := trod_row32 hf
  simp [Value.cells] at hc
  subst hc
  exact ⟨l, hr, hs⟩

/-- A slice of numbers that came in, no longer than its room. -/
def Row32n (w : World) (v : Value) (l : List Nat) : Prop := Row32 w v l ∧ NeatS v
theorem open_row32n {H : Type} {enc : TypeId × Value → H} {W : World} {base : Nat} {held : Bool} {fuel : Nat} {v : Value} {x : DataW H × List MemPlace} (hv : ∃ a len cap, v = .slice a len cap)
    (hf : DataW.trod enc Try.prog W base (fun _ => true) held fuel 22 v.cells.toList = some x) (hb : Rows.uptoBulk x.1 ≤ 1048576) : ∃ l, Row32n W v l ∧ List.length l + 1 ≤ Rows.uptoBulk x.1 := by
  obtain ⟨a, len, cap, rfl⟩ := hv
  obtain ⟨v, l, hc, hr, hn, hs⟩ := trod_row32 hf
  simp [Value.cells] at hc
  subst hc
  exact ⟨l, ⟨hr, hn⟩, hs⟩

end Go.Proofs.Ytfjjigcghhohkaa
