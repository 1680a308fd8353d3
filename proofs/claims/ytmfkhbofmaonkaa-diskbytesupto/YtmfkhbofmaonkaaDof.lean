/-
  A file system, files, texts and numbers that came in, and what the second form's bound says of them.
-/
import Derived.Test.YtmfkhbofmaonkaaRows
import Derived.Test.YtmfkhbofmaonkaaDcs
import Derived.Deep.Slices
import Derived.Deep.Strs
import Derived.ProofKit
import Derived.OpenShut
import Derived.ChangeOld
set_option linter.unusedVariables false
namespace Go.Proofs.Ytmfkhbofmaonkaa
open Go.ChangeShapes Go.WideShapes Go.RowKit Go.Proofs.Dsk

theorem bulk_ge {H : Type} (f : Nat → DataW H) (n : Nat → Nat) : ∀ k : List Nat, (∀ i ∈ k, n i ≤ Rows.uptoBulk (f i)) → (k.map n).sum ≤ Rows.uptoBulkAll (k.map f)
  | [], _ => by simp [Rows.uptoBulkAll]
  | i :: r, h => by
    have h1 := h i (by simp)
    have h2 := bulk_ge f n r (fun j hj => h j (by simp [hj]))
    simp only [List.map_cons, Rows.uptoBulkAll, List.sum_cons]
    omega
theorem wf64 {n : Int} (h : (Lit.int .i64 n).wf = true) : -9223372036854775808 ≤ n ∧ n ≤ 9223372036854775807 := by
  simp only [Lit.wf, Bool.and_eq_true, decide_eq_true_eq] at h
  have h1 : IntKind.i64.min = -9223372036854775808 := by decide
  have h2 : IntKind.i64.max = 9223372036854775807 := by decide
  omega
theorem spot_none {W : World} {a : Addr} {v : Value} (h : W.cell? a = some v) : ∃ b off, a = ⟨b, off, none⟩ ∧ b < W.heap.size := by
  have hsp : a.spot = none := by
    cases hs : a.spot with
    | none => rfl
    | some y =>
      simp only [World.cell?, hs] at h
      split at h <;> simp at h
  obtain ⟨b, off, sp⟩ := a
  simp only at hsp
  subst hsp
  refine ⟨b, off, rfl, ?_⟩
  rcases Nat.lt_or_ge b W.heap.size with h' | h'
  · exact h'
  · simp [World.cell?, Array.getElem?_eq_none h'] at h
theorem add_lit0 (b off j : Nat) : Addr.add ⟨b, off, none⟩ j = ⟨b, off + j, none⟩ := by rw [Addr.add_lit]

/-- How much some files hold. -/
def sumF (l : List File) : Nat := (l.map fun f => f.name.size + f.data.size + 1).sum
def sumS (l : List ByteArray) : Nat := (l.map fun s => s.size + 1).sum

/-- A slice that lies nowhere is nil. -/
def NeatF (v : Value) : Prop := ∀ n cap, v = .slice none n cap → n = 0 ∧ cap = 0

theorem trod_file {H : Type} {enc : TypeId × Value → H} {W : World} {base : Nat} {held : Bool} {fuel : Nat} {cs : List Value} {x : DataW H × List MemPlace}
    (hf : DataW.trod enc Try.prog W base (fun _ => true) held fuel 56 cs = some x) : ∃ f : File, cs = cellsF f ∧ Fits f ∧ f.name.size + f.data.size + 1 ≤ Rows.uptoBulk x.1 := by
  obtain ⟨y0, y1, y2, n, rfl, hl, h0, h1, h2⟩ := Go.Deep.trod_struct3 Try.underlying56 hf
  have c3 : (Try.prog).cellsOf 56 = 3 := by kernel_rfl
  have cs1 : (Try.prog).cellsOf 9 = 1 := by kernel_rfl
  have ci1 : (Try.prog).cellsOf 3 = 1 := by kernel_rfl
  rw [c3] at hl
  match cs, hl with
  | [u0, u1, u2], _ =>
    simp only [cs1, ci1, List.drop_zero, List.drop_succ_cons, List.take_succ_cons, List.take_zero] at h0 h1 h2
    obtain ⟨s0, e0, f0, g0⟩ := DataW.trod_string Try.underlying9 h0
    obtain ⟨s1, e1, f1, g1⟩ := DataW.trod_string Try.underlying9 h1
    obtain ⟨s2, e2, f2, g2⟩ := DataW.trod_int Try.underlying3 h2
    simp only [List.cons.injEq, and_true] at e0 e1 e2
    subst e0 e1 e2
    have g3 := wf64 g2
    unfold maxLen at g0 g1
    refine ⟨⟨s0, s1, s2⟩, rfl, ⟨by show s0.size ≤ _; omega, by show s1.size ≤ _; omega, g3.1, g3.2⟩, ?_⟩
    rw [(Prod.mk.inj (show (y0.1, y0.2) = _ from f0)).1, (Prod.mk.inj (show (y1.1, y1.2) = _ from f1)).1, (Prod.mk.inj (show (y2.1, y2.2) = _ from f2)).1]
    simp [Rows.uptoBulk, Rows.uptoBulkAll]
    omega

theorem trod_rowF {H : Type} {enc : TypeId × Value → H} {W : World} {base : Nat} {held : Bool} {fuel : Nat} {cs : List Value} {x : DataW H × List MemPlace}
    (hf : DataW.trod enc Try.prog W base (fun _ => true) held fuel 22 cs = some x) : ∃ v l, cs = [v] ∧ RowF W v l ∧ NeatF v ∧ sumF l + 1 ≤ Rows.uptoBulk x.1 := by
  rcases Go.Deep.open_slice Try.underlying22 hf with ⟨rfl, rfl⟩ | ⟨a, len, cap, m, n, D, Pl, rfl, _, hl, hm, hmm, rfl, hx⟩
  · exact ⟨_, [], rfl, ⟨none, 0, rfl, by simp, by simp, Or.inl rfl⟩, fun n c h => by injection h with _ h1 h2; exact ⟨h1.symm, h2.symm⟩, by simp [Rows.uptoBulk, sumF]⟩
  · have hmc : m = cap := by simpa using hmm
    subst hmc
    have ce : (Try.prog).cellsOf 56 = 3 := by kernel_rfl
    have each : ∀ i, i < m → ∃ f : File, (∀ j u, (cellsF f)[j]? = some u → W.cell? ((a.add (i * 3)).add j) = some u) ∧ Fits f ∧ f.name.size + f.data.size + 1 ≤ Rows.uptoBulk (D i) := by
      intro i hi
      obtain ⟨cs', h1, h2⟩ := hx i hi
      rw [ce] at h1
      obtain ⟨f, rfl, hfit, hb⟩ := trod_file h2
      obtain ⟨_, _, hcell⟩ := World.cells?_some h1
      refine ⟨f, fun j u hj => ?_, hfit, hb⟩
      have hj3 : j < 3 := (List.getElem?_eq_some_iff.1 hj).1
      rw [hcell j (by omega)]
      simpa using hj
    obtain ⟨q, hq⟩ := Go.Deep.choose_lt each
    obtain ⟨l, hl'⟩ : ∃ l : List File, l = (List.range len).map q := ⟨_, rfl⟩
    have hll : l.length = len := by rw [hl']; simp
    have hget : ∀ i (h : i < l.length), l[i] = q i := fun i h => by simp [hl']
    refine ⟨_, l, rfl, ?_, fun n c h => by simp at h, ?_⟩
    · refine ⟨some a, m, by rw [hll], by unfold maxLen at hm; omega, fun y hy => ?_, ?_⟩
      · rw [hl'] at hy
        obtain ⟨i, hi, rfl⟩ := List.mem_map.1 hy
        exact (hq i (by have := List.mem_range.1 hi; omega)).2.1
      · by_cases h0 : len = 0
        · left; exact List.eq_nil_of_length_eq_zero (by omega)
        · right
          have hc0 := (hq 0 (by omega)).1 0 _ rfl
          have hx0 : (a.add (0 * 3)).add 0 = a := by simp [Addr.add]
          rw [hx0] at hc0
          obtain ⟨b, off, rfl, hb⟩ := spot_none hc0
          refine ⟨b, off, rfl, hb, fun j u hj => ?_⟩
          have hjl : j < l.length * 3 := by
            rcases Nat.lt_or_ge j (flatF l).length with h' | h'
            · rwa [flatF_length] at h'
            · rw [List.getElem?_eq_none h'] at hj; cases hj
          have hi : j / 3 < l.length := by omega
          have e : (flatF l).drop (j / 3 * 3) = cellsF l[j / 3] ++ flatF (l.drop (j / 3 + 1)) := by rw [← flatF_drop, List.drop_eq_getElem_cons hi, flatF_cons]
          have hg : (cellsF l[j / 3])[j % 3]? = some u := by
            have h1 : (flatF l)[j / 3 * 3 + j % 3]? = some u := by rw [show j / 3 * 3 + j % 3 = j by omega]; exact hj
            rw [← List.getElem?_drop, e, List.getElem?_append_left (by show j % 3 < 3; omega)] at h1
            exact h1
          rw [hget _ hi] at hg
          have := (hq (j / 3) (by omega)).1 (j % 3) u hg
          rw [add_lit0, add_lit0, show off + j / 3 * 3 + j % 3 = off + j by omega] at this
          exact this
    · have hb := bulk_ge D (fun i => (q i).name.size + (q i).data.size + 1) (List.range len) (fun i hi => (hq i (by have := List.mem_range.1 hi; omega)).2.2)
      have hs : sumF l = ((List.range len).map fun i => (q i).name.size + (q i).data.size + 1).sum := by rw [hl', sumF, List.map_map]; rfl
      simp only [Rows.uptoBulk]
      omega
end Go.Proofs.Ytmfkhbofmaonkaa
