/-
  Slices of spans and of numbers that came in, what the second form's bound says of them, and what the rows lay.
-/
import Derived.Test.YtihgmpebpkjmkaaGreatDoorRows
import Derived.Test.YtihgmpebpkjmkaaGreatDoorBnd1
import Derived.Test.YtihgmpebpkjmkaaGreatDoorNwl
import Derived.Deep.SlicePairs
import Derived.ProofKit
import Derived.OpenShut
import Derived.ChangeOld
import Derived.Lib.LaidU8
import Derived.Lib.LaidTab
set_option linter.unusedVariables false
namespace Go.Proofs.YtihgmpebpkjmkaaGreatDoor
open Go.ChangeShapes Go.RowKit Go.Proofs.Nst

def NeatS (v : Value) : Prop := (∀ n cap, v = .slice none n cap → n = 0 ∧ cap = 0) ∧ ∀ a n cap, v = .slice a n cap → n ≤ cap
theorem neat_nil : NeatS (.slice none 0 0) := ⟨fun n c h => by injection h with _ h1 h2; exact ⟨h1.symm, h2.symm⟩, fun a n c h => by injection h with _ h1 h2; omega⟩
theorem bulk_ge {H : Type} (f : Nat → DataW H) (n : Nat → Nat) : ∀ k : List Nat, (∀ i ∈ k, n i ≤ Rows.uptoBulk (f i)) → (k.map n).sum ≤ Rows.uptoBulkAll (k.map f)
  | [], _ => by simp [Rows.uptoBulkAll]
  | i :: r, h => by
    have h1 := h i (by simp)
    have h2 := bulk_ge f n r (fun j hj => h j (by simp [hj]))
    simp only [List.map_cons, Rows.uptoBulkAll, List.sum_cons]
    omega
theorem sum_one : ∀ k : List Nat, (k.map (fun _ => 1)).sum = k.length := by
  intro k
  induction k with
  | nil => rfl
  | cons x r ih => simp only [List.map_cons, List.sum_cons, List.length_cons, ih]; omega
theorem addN (b off j : Nat) : Addr.add ⟨b, off, none⟩ j = ⟨b, off + j, none⟩ := by
  unfold Addr.add
  by_cases h0 : j = 0
  · simp [h0]
  · simp [h0]
/-- A row of k cells an element, out of its cells. -/
theorem rowG_of_cellsK {α : Type} {c : α → List Value} {Fit : α → Prop} {k : Nat} (hk : 0 < k) (hc : ∀ x, (c x).length = k) {W : World} {a : Addr} {cap : Nat} {l : List α} (hl : l.length ≤ 9223372036854775807)
    (hfit : ∀ x ∈ l, Fit x) (hcell : ∀ i (h : i < l.length) m (hm : m < k), W.cell? (a.add (i * k + m)) = (c l[i])[m]?) : RowG c Fit W (.slice (some a) l.length cap) l := by
  refine ⟨some a, cap, rfl, hl, hfit, ?_⟩
  by_cases h0 : l.length = 0
  · left; exact List.eq_nil_of_length_eq_zero h0
  · right
    have hc0 := hcell 0 (by omega) 0 hk
    have hx0 : a.add (0 * k + 0) = a := by simp [Addr.add]
    rw [hx0] at hc0
    have hs0 : ∃ u, W.cell? a = some u := ⟨_, hc0.trans (List.getElem?_eq_getElem (by rw [hc]; exact hk))⟩
    obtain ⟨u0, hu0⟩ := hs0
    have hsp : a.spot = none := by
      cases hs : a.spot with
      | none => rfl
      | some y =>
        simp only [World.cell?, hs] at hu0
        split at hu0 <;> simp at hu0
    obtain ⟨b, off, sp⟩ := a
    simp only at hsp
    subst hsp
    refine ⟨b, off, rfl, ?_, ?_⟩
    · rcases Nat.lt_or_ge b W.heap.size with h' | h'
      · exact h'
      · simp [World.cell?, Array.getElem?_eq_none h'] at hu0
    · intro j u hj
      have hjl : j < l.length * k := by
        rcases Nat.lt_or_ge j (flatG c l).length with h' | h'
        · rwa [flatG_length hc] at h'
        · rw [List.getElem?_eq_none h'] at hj; cases hj
      have hi : j / k < l.length := Nat.div_lt_of_lt_mul (by rw [Nat.mul_comm]; exact hjl)
      have hm : j % k < k := Nat.mod_lt _ hk
      have e : j / k * k + j % k = j := by rw [Nat.mul_comm]; exact Nat.div_add_mod j k
      have hg := flatG_get hc l (j / k) hi (j % k) hm
      have hcj := hcell (j / k) hi (j % k) hm
      rw [e] at hg hcj
      rw [addN] at hcj
      rw [hcj, ← hg, hj]

theorem trod_rowN {H : Type} {enc : TypeId × Value → H} {W : World} {base : Nat} {held : Bool} {fuel : Nat} {cs : List Value} {x : DataW H × List MemPlace}
    (hf : DataW.trod enc Tryz.prog W base (fun _ => true) held fuel 22 cs = some x) : ∃ v l, cs = [v] ∧ RowN W v l ∧ NeatS v ∧ l.length + 1 ≤ Rows.uptoBulk x.1 := by
  rcases Go.Deep.open_slice Tryz.underlying22 hf with ⟨rfl, rfl⟩ | ⟨a, len, cap, m, n, D, Pl, rfl, _, hl, hm, hmm, rfl, hx⟩
  · exact ⟨_, [], rfl, ⟨none, 0, rfl, by simp, by simp, Or.inl rfl⟩, neat_nil, by simp [Rows.uptoBulk]⟩
  · have hmc : m = cap := by simpa using hmm
    subst hmc
    have ce : (Tryz.prog).cellsOf 25 = 1 := by kernel_rfl
    have each : ∀ i, i < m → ∃ s : Nat, W.cell? (a.add i) = some (.int .u32 (s : Int)) ∧ s ≤ 4294967295 ∧ 1 ≤ Rows.uptoBulk (D i) := by
      intro i hi
      obtain ⟨cs', h1, h2⟩ := hx i hi
      rw [ce, Nat.mul_one] at h1
      obtain ⟨s0, rfl, f0, g0⟩ := DataW.trod_int Tryz.underlying25 h2
      obtain ⟨_, _, hcell⟩ := World.cells?_some h1
      have hc0 := hcell 0 (by omega)
      have hx0 : (a.add i).add 0 = a.add i := by simp [Addr.add]
      rw [hx0] at hc0
      have g1 : 0 ≤ s0 ∧ s0 ≤ 4294967295 := by
        simp only [Lit.wf, Bool.and_eq_true, decide_eq_true_eq] at g0
        have h1 : IntKind.u32.min = 0 := by decide
        have h2 : IntKind.u32.max = 4294967295 := by decide
        omega
      refine ⟨s0.toNat, ?_, by omega, ?_⟩
      · rw [hc0, Int.toNat_of_nonneg g1.1]; rfl
      · rw [(Prod.mk.inj f0).1]; simp [Rows.uptoBulk]
    obtain ⟨q, hq⟩ := Go.Deep.choose_lt each
    obtain ⟨l, hl'⟩ : ∃ l : List Nat, l = (List.range len).map q := ⟨_, rfl⟩
    have hll : l.length = len := by rw [hl']; simp
    have hrow : RowN W (.slice (some a) l.length m) l := by
      refine rowG_of_cellsK (k := 1) (by decide) cellsN_len (by unfold maxLen at hm; omega) ?_ ?_
      · intro y hy
        rw [hl'] at hy
        obtain ⟨i, hi, rfl⟩ := List.mem_map.1 hy
        exact (hq i (by have := List.mem_range.1 hi; omega)).2.1
      · intro i h mm hmm'
        obtain rfl : mm = 0 := by omega
        rw [Nat.mul_one, Nat.add_zero, (hq i (by omega)).1]
        simp [hl', cellsN]
    rw [hll] at hrow
    refine ⟨_, l, rfl, hrow, ⟨fun n c h => by simp at h, fun a' n c h => by injection h with e1 e2 e3; omega⟩, ?_⟩
    have hb := bulk_ge D (fun _ => 1) (List.range len) (fun i hi => (hq i (by have := List.mem_range.1 hi; omega)).2.2)
    simp only [Rows.uptoBulk]
    rw [sum_one, List.length_range] at hb
    omega

theorem trod_rowSp {H : Type} {enc : TypeId × Value → H} {W : World} {base : Nat} {held : Bool} {fuel : Nat} {cs : List Value} {x : DataW H × List MemPlace}
    (hf : DataW.trod enc Tryz.prog W base (fun _ => true) held fuel 26 cs = some x) : ∃ v l, cs = [v] ∧ RowSp W v l ∧ NeatS v ∧ l.length + 1 ≤ Rows.uptoBulk x.1 := by
  rcases Go.Deep.open_slice_pairs Tryz.underlying26 Tryz.underlying79 (by kernel_rfl) rfl rfl (by kernel_rfl) (by kernel_rfl) hf with ⟨rfl, rfl⟩ | ⟨a, len, cap, m, n, V0, V1, D0, D1, P0, P1, rfl, _, hl, hm, hmm, rfl, hx⟩
  · exact ⟨_, [], rfl, ⟨none, 0, rfl, by simp, by simp, Or.inl rfl⟩, neat_nil, by simp [Rows.uptoBulk]⟩
  · have hmc : m = cap := by simpa using hmm
    subst hmc
    have one : ∀ (v : Value) (x : DataW H × List MemPlace), DataW.trod enc Tryz.prog W base (fun _ => true) held n 25 [v] = some x → ∃ s : Nat, v = .int .u32 (s : Int) ∧ s ≤ 4294967295 := by
      intro v x h2
      obtain ⟨s0, e0, f0, g0⟩ := DataW.trod_int Tryz.underlying25 h2
      have g1 : 0 ≤ s0 ∧ s0 ≤ 4294967295 := by
        simp only [Lit.wf, Bool.and_eq_true, decide_eq_true_eq] at g0
        have h1 : IntKind.u32.min = 0 := by decide
        have h2 : IntKind.u32.max = 4294967295 := by decide
        omega
      refine ⟨s0.toNat, ?_, by omega⟩
      rw [Int.toNat_of_nonneg g1.1]
      simpa using e0
    have each : ∀ i, i < m → ∃ s : Sp, W.cell? (a.add (i * 2)) = some (.int .u32 (s.1 : Int)) ∧ W.cell? (a.add (i * 2 + 1)) = some (.int .u32 (s.2 : Int)) ∧ FitS s := by
      intro i hi
      obtain ⟨c0, c1, h0, h1⟩ := hx i hi
      obtain ⟨s0, e0, g0⟩ := one _ _ h0
      obtain ⟨s1, e1, g1⟩ := one _ _ h1
      rw [e0] at c0
      rw [e1] at c1
      exact ⟨(s0, s1), c0, c1, g0, g1⟩
    obtain ⟨q, hq⟩ := Go.Deep.choose_lt each
    obtain ⟨l, hl'⟩ : ∃ l : List Sp, l = (List.range len).map q := ⟨_, rfl⟩
    have hll : l.length = len := by rw [hl']; simp
    have hrow : RowSp W (.slice (some a) l.length m) l := by
      refine rowG_of_cellsK (k := 2) (by decide) cellsS_len (by unfold maxLen at hm; omega) ?_ ?_
      · intro y hy
        rw [hl'] at hy
        obtain ⟨i, hi, rfl⟩ := List.mem_map.1 hy
        exact (hq i (by have := List.mem_range.1 hi; omega)).2.2
      · intro i h mm hmm'
        rcases (by omega : mm = 0 ∨ mm = 1) with rfl | rfl
        · rw [Nat.add_zero, (hq i (by omega)).1]
          simp [hl', cellsS]
        · rw [(hq i (by omega)).2.1]
          simp [hl', cellsS]
    rw [hll] at hrow
    refine ⟨_, l, rfl, hrow, ⟨fun n c h => by simp at h, fun a' n c h => by injection h with e1 e2 e3; omega⟩, ?_⟩
    have hb := bulk_ge (fun i => (DataW.agg [D0 i, D1 i] : DataW H)) (fun _ => 1) (List.range len) (fun i hi => by simp [Rows.uptoBulk])
    simp only [Rows.uptoBulk]
    rw [sum_one, List.length_range] at hb
    omega

/-- Slices that came in, no longer than their room. -/
def RowSpn (w : World) (v : Value) (l : List Sp) : Prop := RowSp w v l ∧ NeatS v
def RowNn (w : World) (v : Value) (l : List Nat) : Prop := RowN w v l ∧ NeatS v
theorem open_rowSpn {H : Type} {enc : TypeId × Value → H} {W : World} {base : Nat} {held : Bool} {fuel : Nat} {v : Value} {x : DataW H × List MemPlace} (hv : ∃ a len cap, v = .slice a len cap)
    (hf : DataW.trod enc Tryz.prog W base (fun _ => true) held fuel 26 v.cells.toList = some x) : ∃ l, RowSpn W v l ∧ List.length l + 1 ≤ Rows.uptoBulk x.1 := by
  obtain ⟨a, len, cap, rfl⟩ := hv
  obtain ⟨v, l, hc, hr, hn, hs⟩ := trod_rowSp hf
  simp [Value.cells] at hc
  subst hc
  exact ⟨l, ⟨hr, hn⟩, hs⟩
theorem open_rowNn {H : Type} {enc : TypeId × Value → H} {W : World} {base : Nat} {held : Bool} {fuel : Nat} {v : Value} {x : DataW H × List MemPlace} (hv : ∃ a len cap, v = .slice a len cap)
    (hf : DataW.trod enc Tryz.prog W base (fun _ => true) held fuel 22 v.cells.toList = some x) : ∃ l, RowNn W v l ∧ List.length l + 1 ≤ Rows.uptoBulk x.1 := by
  obtain ⟨a, len, cap, rfl⟩ := hv
  obtain ⟨v, l, hc, hr, hn, hs⟩ := trod_rowN hf
  simp [Value.cells] at hc
  subst hc
  exact ⟨l, ⟨hr, hn⟩, hs⟩

theorem cells_of_cell1 {w : World} {g : Nat} {v : Value} (h : w.cell? ⟨g, 0, none⟩ = some v) : g < w.heap.size := by
  rcases Nat.lt_or_ge g w.heap.size with h' | h'
  · exact h'
  · simp [World.cell?, Array.getElem?_eq_none h'] at h
set_option maxRecDepth 100000 in
theorem errV_of {W : World} {nm : String} {gg : Nat} {dd : DataW Unit} (h : Lib.VarReads Tryz.prog W nm dd) (hgn : Tryz.prog.globalNamed nm = some gg) (hgt : (Tryz.prog.globals[gg]?).map (·.type) = some 66) : ErrV gg W := by
  obtain ⟨g, t, cs, fuel, p, hg, hty, hvar, hd⟩ := h
  obtain rfl := Option.some.inj (hgn.symm.trans hg)
  obtain rfl := Option.some.inj (hgt.symm.trans hty)
  have hc0 := World.var?_cell hg hvar 0
  obtain ⟨ds, hu⟩ : ∃ ds, Tryz.prog.underlying 66 = some (.interface ds) := by
    have h0 : (Tryz.prog.underlying 66).map (fun d => match d with | .interface _ => true | _ => false) = some true := by kernel_rfl
    generalize Tryz.prog.underlying 66 = o at h0
    cases o with
    | none => cases h0
    | some d =>
      cases d with
      | interface ds => exact ⟨ds, rfl⟩
      | _ => cases h0
  have key : ∃ ev, cs.toList = [ev] ∧ (ev = .nilIface ∨ ∃ te pe, ev = .iface te pe) := by
    clear hc0 hg hty hvar hgn hgt
    generalize cs.toList = l at hd ⊢
    cases fuel with
    | zero => cases hd
    | succ f =>
      unfold DataW.trod at hd
      rw [hu] at hd
      rcases l with _ | ⟨ev, _ | ⟨b, r⟩⟩
      · cases hd
      · refine ⟨ev, rfl, ?_⟩
        cases ev with
        | nilIface => exact .inl rfl
        | iface te pe => exact .inr ⟨te, pe, rfl⟩
        | _ => cases hd
      · cases ev <;> cases hd
  obtain ⟨ev, he, hv⟩ := key
  rw [← Array.getElem?_toList, he] at hc0
  have hc1 : W.cell? ⟨gg, 0, none⟩ = some ev := hc0
  exact ⟨cells_of_cell1 hc1, ev, hc1, hv⟩
theorem errN_of {W : World} (h1 : Lib.VarReads Tryz.prog W "strconv.ErrSyntax" Rows.laid_strconv_ErrSyntax) (h2 : Lib.VarReads Tryz.prog W "strconv.ErrRange" Rows.laid_strconv_ErrRange) : ErrN W :=
  ⟨errV_of h1 (by kernel_rfl) (by kernel_rfl), errV_of h2 (by kernel_rfl) (by kernel_rfl)⟩
end Go.Proofs.YtihgmpebpkjmkaaGreatDoor
