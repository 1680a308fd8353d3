/-
  Rows of tokens that came in, and what the second form's bound says of them.
-/
import Derived.Test.YtafegjbhaofgiaaDoorOpn
import Derived.Test.YtafegjbhaofgiaaDoorLxo
set_option linter.unusedVariables false
set_option linter.unusedSimpArgs false
namespace Go.Proofs.YtafegjbhaofgiaaDoor
open Go.ChangeShapes Go.WideShapes Go.RowKit Go.Proofs.Lx

instance : Inhabited Tok := ⟨(0, [])⟩
def sumT (l : List Tok) : Nat := (l.map fun t => t.2.length + 1).sum
theorem sumT_len : ∀ l : List Tok, l.length ≤ sumT l
  | [] => Nat.zero_le _
  | m :: r => by have := sumT_len r; unfold sumT at *; simp only [List.map_cons, List.sum_cons, List.length_cons]; omega
theorem sumT_most : ∀ l : List Tok, wMost l ≤ 26 * sumT l
  | [] => by simp [wMost, sumT]
  | m :: r => by have := sumT_most r; unfold sumT wMost at *; simp only [List.map_cons, List.sum_cons]; omega
set_option maxRecDepth 100000 in
theorem trod_tok {H : Type} {enc : TypeId × Value → H} {W : World} {base : Nat} {held : Bool} {fuel : Nat} {cs : List Value} {x : DataW H × List MemPlace}
    (hf : DataW.trod enc Tryd.prog W base (fun _ => true) held fuel 39 cs = some x) (hb : Rows.uptoBulk x.1 ≤ 1048576) : ∃ m : Tok, cs = tkC m ∧ FitT m ∧ m.2.length + 1 ≤ Rows.uptoBulk x.1 := by
  obtain ⟨xs, n, _, rfl, hl, hlen, hx⟩ := DataW.trod_struct Tryd.underlying39 hf
  have c2 : (Tryd.prog).cellsOf 39 = 2 := by kernel_rfl
  have ck1 : (Tryd.prog).cellsOf 37 = 1 := by kernel_rfl
  have cs1 : (Tryd.prog).cellsOf 9 = 1 := by kernel_rfl
  rw [c2] at hl
  match xs, hlen with
  | [y0, y1], _ =>
    have h0 := hx 0 _ rfl
    have h1 := hx 1 _ rfl
    match cs, hl with
    | [u0, u1], _ =>
      simp [ck1, cs1] at h0 h1
      obtain ⟨s0, e0, f0, g0⟩ := DataW.trod_int Tryd.underlying37 h0
      obtain ⟨s1, e1, f1, g1⟩ := DataW.trod_string Tryd.underlying9 h1
      simp only [List.cons.injEq, and_true] at e0 e1
      subst e0 e1
      obtain ⟨k0, rfl, q0⟩ := wfU8 g0
      have hraw : s1.size + 1 ≤ Rows.uptoBulk (DataW.agg (H := H) ([y0, y1].map (·.1))) := by
        have : Rows.uptoBulk y1.1 = s1.size + 1 := by rw [(Prod.mk.inj f1).1]; simp [Rows.uptoBulk]
        simp only [List.map_cons, List.map_nil, Rows.uptoBulk, Rows.uptoBulkAll]
        omega
      have hz := sizeL s1
      refine ⟨(k0, s1.data.toList), ?_, ⟨q0, ?_⟩, by rw [hz]; exact hraw⟩
      · show _ = [Value.int .u8 (k0 : Int), .string (bts s1.data.toList)]
        rw [bts_toList]
      · have := Nat.le_trans hraw hb
        show s1.data.toList.length ≤ 4294967296
        omega

set_option maxRecDepth 100000 in
theorem trod_rowT {H : Type} {enc : TypeId × Value → H} {W : World} {base : Nat} {held : Bool} {fuel : Nat} {cs : List Value} {x : DataW H × List MemPlace}
    (hf : DataW.trod enc Tryd.prog W base (fun _ => true) held fuel 29 cs = some x) (hbk : Rows.uptoBulk x.1 ≤ 1048576) : ∃ v l, cs = [v] ∧ RowT W v l ∧ sumT l + 1 ≤ Rows.uptoBulk x.1 := by
  rcases Go.Deep.open_slice Tryd.underlying29 hf with ⟨rfl, rfl⟩ | ⟨a, len, cap, m, n, D, Pl, rfl, _, hl, hm, hmm, rfl, hx⟩
  · exact ⟨_, [], rfl, ⟨none, 0, rfl, by simp, by simp, Or.inl rfl⟩, by simp [Rows.uptoBulk, sumT]⟩
  · have hmc : m = cap := by simpa using hmm
    subst hmc
    have ce : (Tryd.prog).cellsOf 39 = 2 := by kernel_rfl
    simp only [Rows.uptoBulk] at hbk
    have each : ∀ i, i < len → ∃ f : Tok, (∀ j u, (tkC f)[j]? = some u → W.cell? ((a.add (i * 2)).add j) = some u) ∧ FitT f ∧ f.2.length + 1 ≤ Rows.uptoBulk (D i) := by
      intro i hi
      obtain ⟨cs', h1, h2⟩ := hx i (by omega)
      rw [ce] at h1
      have hbi := bulk_each D len i hi
      obtain ⟨f, rfl, hfit, hb⟩ := trod_tok h2 (by show Rows.uptoBulk (D i) ≤ _; omega)
      obtain ⟨_, _, hcell⟩ := World.cells?_some h1
      refine ⟨f, fun j u hj => ?_, hfit, hb⟩
      have hj3 : j < 2 := (List.getElem?_eq_some_iff.1 hj).1
      rw [hcell j (by omega)]
      simpa using hj
    obtain ⟨q, hq⟩ := Go.Deep.choose_lt each
    obtain ⟨l, hl'⟩ : ∃ l : List Tok, l = (List.range len).map q := ⟨_, rfl⟩
    have hll : l.length = len := by rw [hl']; simp
    have hrow : RowT W (.slice (some a) l.length m) l := by
      refine rowG_of_cellsK (k := 2) (by decide) tkC_len (by unfold maxLen at hm; omega) ?_ ?_
      · intro y hy
        rw [hl'] at hy
        obtain ⟨i, hi, rfl⟩ := List.mem_map.1 hy
        exact (hq i (List.mem_range.1 hi)).2.1
      · intro i h mm hmm'
        have hs : (tkC l[i])[mm]? = some ((tkC l[i])[mm]'(by rw [tkC_len]; exact hmm')) := List.getElem?_eq_getElem _
        rw [hs]
        have h2 := (hq i (by omega)).1 mm _ (by rw [← hs]; simp [hl'])
        have hc0 := (hq 0 (by omega)).1 0 _ rfl
        have hx0 : (a.add (0 * 2)).add 0 = a := by simp [Addr.add]
        rw [hx0] at hc0
        obtain ⟨b, off, ha, _⟩ := spot_none hc0
        rw [ha, Addr.add_lit, Addr.add_lit, Nat.add_assoc] at h2
        rw [ha, Addr.add_lit]
        exact h2
    rw [hll] at hrow
    refine ⟨_, l, rfl, hrow, ?_⟩
    have hb := bulk_ge D (fun i => (q i).2.length + 1) (List.range len) (fun i hi => (hq i (List.mem_range.1 hi)).2.2)
    have hs : sumT l = ((List.range len).map fun i => (q i).2.length + 1).sum := by rw [hl', sumT, List.map_map]; rfl
    simp only [Rows.uptoBulk]
    omega
theorem open_rowT {H : Type} {enc : TypeId × Value → H} {W : World} {base : Nat} {held : Bool} {fuel : Nat} {v : Value} {x : DataW H × List MemPlace} (hv : ∃ a len cap, v = .slice a len cap)
    (hf : DataW.trod enc Tryd.prog W base (fun _ => true) held fuel 29 v.cells.toList = some x) (hb : Rows.uptoBulk x.1 ≤ 1048576) : ∃ l, RowT W v l ∧ sumT l + 1 ≤ Rows.uptoBulk x.1 := by
  obtain ⟨a, len, cap, rfl⟩ := hv
  obtain ⟨v, l, hc, hr, hs⟩ := trod_rowT hf hb
  simp [Value.cells] at hc
  subst hc
  exact ⟨l, hr, hs⟩
end Go.Proofs.YtafegjbhaofgiaaDoor
