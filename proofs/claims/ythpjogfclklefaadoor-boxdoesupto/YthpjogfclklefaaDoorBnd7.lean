/-
  Boxes, changes, mails and numbers that came in, and what the second form's bound says of them.
-/
import Derived.Test.YthpjogfclklefaaDoorRows
import Derived.Test.YthpjogfclklefaaDoorBnd5
import Derived.Test.YthpjogfclklefaaDoorOpn
import Derived.Deep.Slices
import Derived.Deep.Strs
import Derived.ProofKit
import Derived.OpenShut
import Derived.ChangeOld
set_option linter.unusedVariables false
set_option linter.unusedSimpArgs false
namespace Go.Proofs.YthpjogfclklefaaDoor
open Go.ChangeShapes Go.WideShapes Go.RowKit

instance : Inhabited Msg := ⟨zeroM⟩
def sumM (l : List Msg) : Nat := (l.map fun m => m.raw.size + 1).sum
theorem sumM_len : ∀ l : List Msg, l.length ≤ sumM l
  | [] => Nat.zero_le _
  | m :: r => by have := sumM_len r; unfold sumM at *; simp only [List.map_cons, List.sum_cons, List.length_cons]; omega

set_option maxRecDepth 100000 in
theorem trod_time {H : Type} {enc : TypeId × Value → H} {W : World} {base : Nat} {held : Bool} {fuel : Nat} {cs : List Value} {x : DataW H × List MemPlace}
    (hf : DataW.trod enc Tryd.prog W base (fun _ => true) held fuel 31 cs = some x) : ∃ d s z : Int, cs = [.int .i64 d, .int .i64 s, .int .i64 z] ∧ I64 d ∧ I64 s ∧ I64 z := by
  obtain ⟨y0, y1, y2, n, rfl, hl, h0, h1, h2⟩ := Go.Deep.trod_struct3 Tryd.underlying31 hf
  have c3 : (Tryd.prog).cellsOf 31 = 3 := by kernel_rfl
  have ci1 : (Tryd.prog).cellsOf 3 = 1 := by kernel_rfl
  rw [c3] at hl
  match cs, hl with
  | [u0, u1, u2], _ =>
    simp only [ci1, List.drop_zero, List.drop_succ_cons, List.take_succ_cons, List.take_zero] at h0 h1 h2
    obtain ⟨s0, e0, f0, g0⟩ := DataW.trod_int Tryd.underlying3 h0
    obtain ⟨s1, e1, f1, g1⟩ := DataW.trod_int Tryd.underlying3 h1
    obtain ⟨s2, e2, f2, g2⟩ := DataW.trod_int Tryd.underlying3 h2
    simp only [List.cons.injEq, and_true] at e0 e1 e2
    subst e0 e1 e2
    exact ⟨s0, s1, s2, rfl, wf64 g0, wf64 g1, wf64 g2⟩

set_option maxRecDepth 100000 in
theorem trod_msg {H : Type} {enc : TypeId × Value → H} {W : World} {base : Nat} {held : Bool} {fuel : Nat} {cs : List Value} {x : DataW H × List MemPlace}
    (hf : DataW.trod enc Tryd.prog W base (fun _ => true) held fuel 47 cs = some x) (hb : Rows.uptoBulk x.1 ≤ 1048576) : ∃ m : Msg, cs = msC m ∧ FitM m ∧ m.raw.size + 1 ≤ Rows.uptoBulk x.1 := by
  obtain ⟨xs, n, _, rfl, hl, hlen, hx⟩ := DataW.trod_struct Tryd.underlying47 hf
  have c6 : (Tryd.prog).cellsOf 47 = 6 := by kernel_rfl
  have cu1 : (Tryd.prog).cellsOf 22 = 1 := by kernel_rfl
  have cf1 : (Tryd.prog).cellsOf 29 = 1 := by kernel_rfl
  have ct3 : (Tryd.prog).cellsOf 31 = 3 := by kernel_rfl
  have cs1 : (Tryd.prog).cellsOf 9 = 1 := by kernel_rfl
  rw [c6] at hl
  match xs, hlen with
  | [y0, y1, y2, y3], _ =>
    have h0 := hx 0 _ rfl
    have h1 := hx 1 _ rfl
    have h2 := hx 2 _ rfl
    have h3 := hx 3 _ rfl
    match cs, hl with
    | [u0, u1, u2, u3, u4, u5], _ =>
      simp [cu1, cf1, ct3, cs1] at h0 h1 h2 h3
      obtain ⟨s0, e0, f0, g0⟩ := DataW.trod_int Tryd.underlying22 h0
      obtain ⟨s1, e1, f1, g1⟩ := DataW.trod_int Tryd.underlying29 h1
      obtain ⟨d, s, z, e2, g2, g3, g4⟩ := trod_time h2
      obtain ⟨s3, e3, f3, g5⟩ := DataW.trod_string Tryd.underlying9 h3
      simp only [List.cons.injEq, and_true] at e0 e1 e2 e3
      obtain ⟨e4, e5, e6⟩ := e2
      subst e0 e1 e3 e4 e5 e6
      obtain ⟨k0, rfl, q0⟩ := wfU32 g0
      obtain ⟨k1, rfl, q1⟩ := wfU8 g1
      have hraw : s3.size + 1 ≤ Rows.uptoBulk (DataW.agg (H := H) ([y0, y1, y2, y3].map (·.1))) := by
        have : Rows.uptoBulk y3.1 = s3.size + 1 := by rw [(Prod.mk.inj f3).1]; simp [Rows.uptoBulk]
        simp only [List.map_cons, List.map_nil, Rows.uptoBulk, Rows.uptoBulkAll]
        omega
      refine ⟨⟨k0, k1, d, s, z, s3⟩, rfl, ⟨q0, q1, g2, g3, g4, ?_⟩, hraw⟩
      have := Nat.le_trans hraw hb
      show s3.size ≤ 16777216
      omega

set_option maxRecDepth 100000 in
theorem trod_rowM {H : Type} {enc : TypeId × Value → H} {W : World} {base : Nat} {held : Bool} {fuel : Nat} {cs : List Value} {x : DataW H × List MemPlace}
    (hf : DataW.trod enc Tryd.prog W base (fun _ => true) held fuel 24 cs = some x) (hbk : Rows.uptoBulk x.1 ≤ 1048576) : ∃ v l, cs = [v] ∧ RowM W v l ∧ sumM l + 1 ≤ Rows.uptoBulk x.1 := by
  rcases Go.Deep.open_slice Tryd.underlying24 hf with ⟨rfl, rfl⟩ | ⟨a, len, cap, m, n, D, Pl, rfl, _, hl, hm, hmm, rfl, hx⟩
  · exact ⟨_, [], rfl, ⟨none, 0, rfl, by simp, by simp, Or.inl rfl⟩, by simp [Rows.uptoBulk, sumM]⟩
  · have hmc : m = cap := by simpa using hmm
    subst hmc
    have ce : (Tryd.prog).cellsOf 47 = 6 := by kernel_rfl
    simp only [Rows.uptoBulk] at hbk
    have each : ∀ i, i < len → ∃ f : Msg, (∀ j u, (msC f)[j]? = some u → W.cell? ((a.add (i * 6)).add j) = some u) ∧ FitM f ∧ f.raw.size + 1 ≤ Rows.uptoBulk (D i) := by
      intro i hi
      obtain ⟨cs', h1, h2⟩ := hx i (by omega)
      rw [ce] at h1
      have hbi := bulk_each D len i hi
      obtain ⟨f, rfl, hfit, hb⟩ := trod_msg h2 (by show Rows.uptoBulk (D i) ≤ _; omega)
      obtain ⟨_, _, hcell⟩ := World.cells?_some h1
      refine ⟨f, fun j u hj => ?_, hfit, hb⟩
      have hj3 : j < 6 := (List.getElem?_eq_some_iff.1 hj).1
      rw [hcell j (by omega)]
      simpa using hj
    obtain ⟨q, hq⟩ := Go.Deep.choose_lt each
    obtain ⟨l, hl'⟩ : ∃ l : List Msg, l = (List.range len).map q := ⟨_, rfl⟩
    have hll : l.length = len := by rw [hl']; simp
    have hrow : RowM W (.slice (some a) l.length m) l := by
      refine rowG_of_cellsK (k := 6) (by decide) msC_len (by unfold maxLen at hm; omega) ?_ ?_
      · intro y hy
        rw [hl'] at hy
        obtain ⟨i, hi, rfl⟩ := List.mem_map.1 hy
        exact (hq i (List.mem_range.1 hi)).2.1
      · intro i h mm hmm'
        have hs : (msC l[i])[mm]? = some ((msC l[i])[mm]'(by rw [msC_len]; exact hmm')) := List.getElem?_eq_getElem _
        rw [hs]
        have h2 := (hq i (by omega)).1 mm _ (by rw [← hs]; simp [hl'])
        have hc0 := (hq 0 (by omega)).1 0 _ rfl
        have hx0 : (a.add (0 * 6)).add 0 = a := by simp [Addr.add]
        rw [hx0] at hc0
        obtain ⟨b, off, ha, _⟩ := spot_none hc0
        rw [ha, Addr.add_lit, Addr.add_lit, Nat.add_assoc] at h2
        rw [ha, Addr.add_lit]
        exact h2
    rw [hll] at hrow
    refine ⟨_, l, rfl, hrow, ?_⟩
    have hb := bulk_ge D (fun i => (q i).raw.size + 1) (List.range len) (fun i hi => (hq i (List.mem_range.1 hi)).2.2)
    have hs : sumM l = ((List.range len).map fun i => (q i).raw.size + 1).sum := by rw [hl', sumM, List.map_map]; rfl
    simp only [Rows.uptoBulk]
    omega

set_option maxRecDepth 100000 in
/-- A box that came in. -/
theorem open_box {H : Type} {enc : TypeId × Value → H} {W : World} {base base' : Nat} {held : Bool} {fuel : Nat} {v : Value} {x : DataW H × List MemPlace} {r : Reach} (hv : Value.okWide Tryd.prog W r base' 26 v)
    (hf : DataW.trod enc Tryd.prog W base (fun _ => true) held fuel 26 v.cells.toList = some x) (hbk : Rows.uptoBulk x.1 ≤ 1048576) : ∃ (b : Bx) (a : Option Addr) (n cap : Nat), v = bxV b (.slice a n cap) ∧ RowM W (.slice a n cap) b.ms ∧ FitB b ∧ sumM b.ms + 1 ≤ Rows.uptoBulk x.1 := by
  obtain ⟨cs, rfl, _⟩ := okWide_struct Tryd.underlying26 hv
  obtain ⟨xs, n, _, rfl, hl, hlen, hx⟩ := DataW.trod_struct Tryd.underlying26 hf
  have c5 : (Tryd.prog).cellsOf 26 = 5 := by kernel_rfl
  have cu1 : (Tryd.prog).cellsOf 22 = 1 := by kernel_rfl
  have cq1 : (Tryd.prog).cellsOf 23 = 1 := by kernel_rfl
  have cm1 : (Tryd.prog).cellsOf 24 = 1 := by kernel_rfl
  simp only [Value.cells] at hl hx
  rw [c5] at hl
  match xs, hlen with
  | [y0, y1, y2, y3, y4], _ =>
    have h0 := hx 0 _ rfl
    have h1 := hx 1 _ rfl
    have h2 := hx 2 _ rfl
    have h3 := hx 3 _ rfl
    have h4 := hx 4 _ rfl
    obtain ⟨ls⟩ := cs
    simp only at hl h0 h1 h2 h3 h4
    match ls, hl with
    | [u0, u1, u2, u3, u4], _ =>
      simp [cu1, cq1, cm1] at h0 h1 h2 h3 h4
      obtain ⟨s0, e0, f0, g0⟩ := DataW.trod_int Tryd.underlying22 h0
      obtain ⟨s1, e1, f1, g1⟩ := DataW.trod_int Tryd.underlying23 h1
      obtain ⟨s2, e2, f2, g2⟩ := DataW.trod_int Tryd.underlying22 h2
      obtain ⟨s3, e3, f3, g3⟩ := DataW.trod_int Tryd.underlying22 h3
      simp only [List.map_cons, List.map_nil, Rows.uptoBulk, Rows.uptoBulkAll] at hbk
      obtain ⟨v, l, e4, hr, hb⟩ := trod_rowM h4 (by omega)
      simp only [List.cons.injEq, and_true] at e0 e1 e2 e3 e4
      subst e0 e1 e2 e3 e4
      obtain ⟨k0, rfl, q0⟩ := wfU32 g0
      obtain ⟨k1, rfl, q1⟩ := wfU64 g1
      obtain ⟨k2, rfl, q2⟩ := wfU32 g2
      obtain ⟨k3, rfl, q3⟩ := wfU32 g3
      obtain ⟨a, cap, hu, _⟩ := id hr
      subst hu
      refine ⟨⟨k0, k1, k2, k3, l⟩, a, _, cap, rfl, hr, ⟨q0, q1, q2, q3⟩, ?_⟩
      simp only [List.map_cons, List.map_nil, Rows.uptoBulk, Rows.uptoBulkAll]
      show sumM l + 1 ≤ _
      omega
end Go.Proofs.YthpjogfclklefaaDoor

/-
  Changes and numbers that came in, and what the second form's bound says of them.
-/
set_option linter.unusedVariables false
set_option linter.unusedSimpArgs false
namespace Go.Proofs.YthpjogfclklefaaDoor
open Go.ChangeShapes Go.WideShapes Go.RowKit

theorem rowG_of_cells {α : Type} {c : α → List Value} {Fit : α → Prop} (f : α → Value) (hc : ∀ x, c x = [f x]) {W : World} {a : Addr} {cap : Nat} {l : List α} (hl : l.length ≤ 9223372036854775807)
    (hfit : ∀ x ∈ l, Fit x) (hcell : ∀ i (h : i < l.length), W.cell? (a.add i) = some (f l[i])) : RowG c Fit W (.slice (some a) l.length cap) l := by
  have hc1 : ∀ x, (c x).length = 1 := fun x => by rw [hc]; rfl
  refine ⟨some a, cap, rfl, hl, hfit, ?_⟩
  by_cases h0 : l.length = 0
  · left; exact List.eq_nil_of_length_eq_zero h0
  · right
    have hc0 := hcell 0 (by omega)
    have hx0 : a.add 0 = a := by simp [Addr.add]
    rw [hx0] at hc0
    have hsp : a.spot = none := by
      cases hs : a.spot with
      | none => rfl
      | some y =>
        simp only [World.cell?, hs] at hc0
        split at hc0 <;> simp at hc0
    obtain ⟨b, off, sp⟩ := a
    simp only at hsp
    subst hsp
    refine ⟨b, off, rfl, ?_, ?_⟩
    · rcases Nat.lt_or_ge b W.heap.size with h' | h'
      · exact h'
      · simp [World.cell?, Array.getElem?_eq_none h'] at hc0
    · intro j u hj
      have hjl : j < l.length := by
        rcases Nat.lt_or_ge j (flatG c l).length with h' | h'
        · rwa [flatG_length hc1, Nat.mul_one] at h'
        · rw [List.getElem?_eq_none h'] at hj; cases hj
      have hg := flatG_get hc1 l j hjl 0 (by omega)
      rw [Nat.mul_one, Nat.add_zero, hc] at hg
      rw [hg] at hj
      have hcj := hcell j hjl
      rw [add_off0] at hcj
      rw [hcj]
      simpa using hj

theorem trod_row32 {H : Type} {enc : TypeId × Value → H} {W : World} {base : Nat} {held : Bool} {fuel : Nat} {cs : List Value} {x : DataW H × List MemPlace}
    (hf : DataW.trod enc Tryd.prog W base (fun _ => true) held fuel 28 cs = some x) : ∃ v l, cs = [v] ∧ Row32 W v l ∧ l.length + 1 ≤ Rows.uptoBulk x.1 := by
  rcases Go.Deep.open_slice Tryd.underlying28 hf with ⟨rfl, rfl⟩ | ⟨a, len, cap, m, n, D, Pl, rfl, _, hl, hm, hmm, rfl, hx⟩
  · exact ⟨_, [], rfl, RowG.nil _ _ _, by simp [Rows.uptoBulk]⟩
  · have hmc : m = cap := by simpa using hmm
    subst hmc
    have ce : (Tryd.prog).cellsOf 22 = 1 := by kernel_rfl
    have each : ∀ i, i < m → ∃ s : Nat, W.cell? (a.add i) = some (.int .u32 (s : Int)) ∧ s ≤ 4294967295 ∧ 1 ≤ Rows.uptoBulk (D i) := by
      intro i hi
      obtain ⟨cs', h1, h2⟩ := hx i hi
      rw [ce, Nat.mul_one] at h1
      obtain ⟨s0, rfl, f0, g0⟩ := DataW.trod_int Tryd.underlying22 h2
      obtain ⟨_, _, hcell⟩ := World.cells?_some h1
      have hc0 := hcell 0 (by omega)
      have hx0 : (a.add i).add 0 = a.add i := by simp [Addr.add]
      rw [hx0] at hc0
      have g1 : 0 ≤ s0 ∧ s0 ≤ 4294967295 := by
        simp only [Lit.wf, Bool.and_eq_true, decide_eq_true_eq] at g0
        have h1 : IntKind.u32.min = 0 := by decide
        have h2 : IntKind.u32.max = 4294967295 := by decide
        omega
      refine ⟨s0.toNat, ?_, by omega, ?_⟩
      · rw [hc0, Int.toNat_of_nonneg g1.1]; rfl
      · rw [(Prod.mk.inj f0).1]; simp [Rows.uptoBulk]
    obtain ⟨q, hq⟩ := Go.Deep.choose_lt each
    obtain ⟨l, hl'⟩ : ∃ l : List Nat, l = (List.range len).map q := ⟨_, rfl⟩
    have hll : l.length = len := by rw [hl']; simp
    have hrow : Row32 W (.slice (some a) l.length m) l := by
      refine rowG_of_cells (fun n : Nat => .int .u32 (n : Int)) (fun _ => rfl) (by unfold maxLen at hm; omega) ?_ ?_
      · intro y hy
        rw [hl'] at hy
        obtain ⟨i, hi, rfl⟩ := List.mem_map.1 hy
        exact (hq i (by have := List.mem_range.1 hi; omega)).2.1
      · intro i h
        rw [(hq i (by omega)).1]
        simp [hl']
    rw [hll] at hrow
    refine ⟨_, l, rfl, hrow, ?_⟩
    have hb := bulk_ge D (fun _ => 1) (List.range len) (fun i hi => (hq i (by have := List.mem_range.1 hi; omega)).2.2)
    simp only [Rows.uptoBulk]
    have e : ∀ k : List Nat, (k.map (fun _ => 1)).sum = k.length := by
      intro k
      induction k with
      | nil => rfl
      | cons x r ih => simp only [List.map_cons, List.sum_cons, List.length_cons, ih]; omega
    rw [e, List.length_range] at hb
    omega


set_option maxRecDepth 100000 in
theorem trod_chg {H : Type} {enc : TypeId × Value → H} {W : World} {base : Nat} {held : Bool} {fuel : Nat} {cs : List Value} {x : DataW H × List MemPlace}
    (hf : DataW.trod enc Tryd.prog W base (fun _ => true) held fuel 33 cs = some x) (hbk : Rows.uptoBulk x.1 ≤ 1048576) : ∃ (c : Chg) (v : Value), cs = (chC c v).toList ∧ Row32 W v c.us ∧ FitC c ∧ c.us.length + c.raw.size + 1 ≤ Rows.uptoBulk x.1 := by
  obtain ⟨xs, n, _, rfl, hl, hlen, hx⟩ := DataW.trod_struct Tryd.underlying33 hf
  have c7 : (Tryd.prog).cellsOf 33 = 7 := by kernel_rfl
  have ck1 : (Tryd.prog).cellsOf 27 = 1 := by kernel_rfl
  have cu1 : (Tryd.prog).cellsOf 28 = 1 := by kernel_rfl
  have cf1 : (Tryd.prog).cellsOf 29 = 1 := by kernel_rfl
  have ct3 : (Tryd.prog).cellsOf 31 = 3 := by kernel_rfl
  have cs1 : (Tryd.prog).cellsOf 9 = 1 := by kernel_rfl
  rw [c7] at hl
  match xs, hlen with
  | [y0, y1, y2, y3, y4], _ =>
    have h0 := hx 0 _ rfl
    have h1 := hx 1 _ rfl
    have h2 := hx 2 _ rfl
    have h3 := hx 3 _ rfl
    have h4 := hx 4 _ rfl
    match cs, hl with
    | [u0, u1, u2, u3, u4, u5, u6], _ =>
      simp [ck1, cu1, cf1, ct3, cs1] at h0 h1 h2 h3 h4
      obtain ⟨s0, e0, f0, g0⟩ := DataW.trod_int Tryd.underlying27 h0
      obtain ⟨v, l, e1, hr, hb⟩ := trod_row32 h1
      obtain ⟨s2, e2, f2, g2⟩ := DataW.trod_int Tryd.underlying29 h2
      obtain ⟨d, s, z, e3, g3, g4, g5⟩ := trod_time h3
      obtain ⟨s4, e4, f4, g6⟩ := DataW.trod_string Tryd.underlying9 h4
      simp only [List.cons.injEq, and_true] at e0 e1 e2 e3 e4
      obtain ⟨e5, e6, e7⟩ := e3
      subst e0 e1 e2 e4 e5 e6 e7
      obtain ⟨k0, rfl, q0⟩ := wfU8 g0
      obtain ⟨k2, rfl, q2⟩ := wfU8 g2
      have hraw : Rows.uptoBulk y4.1 = s4.size + 1 := by rw [(Prod.mk.inj f4).1]; simp [Rows.uptoBulk]
      simp only [List.map_cons, List.map_nil, Rows.uptoBulk, Rows.uptoBulkAll] at hbk ⊢
      refine ⟨⟨k0, l, k2, d, s, z, s4⟩, u1, rfl, hr, ⟨q0, q2, g3, g4, g5, by show s4.size ≤ 16777216; omega⟩, ?_⟩
      show l.length + s4.size + 1 ≤ _
      omega
set_option maxRecDepth 100000 in
/-- A change that came in. -/
theorem open_chg {H : Type} {enc : TypeId × Value → H} {W : World} {base base' : Nat} {held : Bool} {fuel : Nat} {v : Value} {x : DataW H × List MemPlace} {r : Reach} (hv : Value.okWide Tryd.prog W r base' 33 v)
    (hf : DataW.trod enc Tryd.prog W base (fun _ => true) held fuel 33 v.cells.toList = some x) (hbk : Rows.uptoBulk x.1 ≤ 1048576) : ∃ (c : Chg) (a : Option Addr) (n cap : Nat), v = chV c (.slice a n cap) ∧ Row32 W (.slice a n cap) c.us ∧ FitC c ∧ (c.us.length + c.raw.size) + 1 ≤ Rows.uptoBulk x.1 := by
  obtain ⟨cs, rfl, _⟩ := okWide_struct Tryd.underlying33 hv
  obtain ⟨c, u, hc, hr, hfit, hb⟩ := trod_chg hf hbk
  obtain ⟨a, cap, hu, _⟩ := id hr
  subst hu
  refine ⟨c, a, c.us.length, cap, ?_, hr, hfit, hb⟩
  have : cs = chC c (.slice a c.us.length cap) := by
    have h2 : cs.toList = (chC c (.slice a c.us.length cap)).toList := by simpa [Value.cells] using hc
    exact Array.toList_inj.1 h2
  rw [this]
  rfl
end Go.Proofs.YthpjogfclklefaaDoor
