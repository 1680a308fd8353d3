/-
  Boxes, changes, mails and numbers that came in, and what the second form's bound says of them.
-/
import Derived.Test.YtnhcpkcpgpobdaaDoorRows
import Derived.Test.YtnhcpkcpgpobdaaDoorBnd1
import Derived.Deep.Slices
import Derived.Deep.Strs
import Derived.ProofKit
import Derived.OpenShut
import Derived.ChangeOld
import Derived.BigQuiet
set_option linter.unusedVariables false
set_option linter.unusedSimpArgs false
namespace Go.Proofs.YtnhcpkcpgpobdaaDoor
open Go.ChangeShapes Go.WideShapes Go.RowKit

theorem bulk_ge {H : Type} (f : Nat → DataW H) (n : Nat → Nat) : ∀ k : List Nat, (∀ i ∈ k, n i ≤ Rows.uptoBulk (f i)) → (k.map n).sum ≤ Rows.uptoBulkAll (k.map f)
  | [], _ => by simp [Rows.uptoBulkAll]
  | i :: r, h => by
    have h1 := h i (by simp)
    have h2 := bulk_ge f n r (fun j hj => h j (by simp [hj]))
    simp only [List.map_cons, Rows.uptoBulkAll, List.sum_cons]
    omega
theorem wf64 {n : Int} (h : (Lit.int .i64 n).wf = true) : -9223372036854775808 ≤ n ∧ n ≤ 9223372036854775807 := by
  simp only [Lit.wf, Bool.and_eq_true, decide_eq_true_eq] at h
  have h1 : IntKind.i64.min = -9223372036854775808 := by decide
  have h2 : IntKind.i64.max = 9223372036854775807 := by decide
  omega
theorem spot_none {W : World} {a : Addr} {v : Value} (h : W.cell? a = some v) : ∃ b off, a = ⟨b, off, none⟩ ∧ b < W.heap.size := by
  have hsp : a.spot = none := by
    cases hs : a.spot with
    | none => rfl
    | some y =>
      simp only [World.cell?, hs] at h
      split at h <;> simp at h
  obtain ⟨b, off, sp⟩ := a
  simp only at hsp
  subst hsp
  refine ⟨b, off, rfl, ?_⟩
  rcases Nat.lt_or_ge b W.heap.size with h' | h'
  · exact h'
  · simp [World.cell?, Array.getElem?_eq_none h'] at h
theorem add_lit0 (b off j : Nat) : Addr.add ⟨b, off, none⟩ j = ⟨b, off + j, none⟩ := by rw [Addr.add_lit]

theorem wfU8 {n : Int} (h : (Lit.int .u8 n).wf = true) : ∃ k : Nat, n = (k : Int) ∧ k ≤ 255 := by
  simp only [Lit.wf, Bool.and_eq_true, decide_eq_true_eq] at h
  have h1 : IntKind.u8.min = 0 := by decide
  have h2 : IntKind.u8.max = 255 := by decide
  exact ⟨n.toNat, by omega, by omega⟩
theorem wfU32 {n : Int} (h : (Lit.int .u32 n).wf = true) : ∃ k : Nat, n = (k : Int) ∧ k ≤ 4294967295 := by
  simp only [Lit.wf, Bool.and_eq_true, decide_eq_true_eq] at h
  have h1 : IntKind.u32.min = 0 := by decide
  have h2 : IntKind.u32.max = 4294967295 := by decide
  exact ⟨n.toNat, by omega, by omega⟩
theorem wfU64 {n : Int} (h : (Lit.int .u64 n).wf = true) : ∃ k : Nat, n = (k : Int) ∧ k ≤ 18446744073709551615 := by
  simp only [Lit.wf, Bool.and_eq_true, decide_eq_true_eq] at h
  have h1 : IntKind.u64.min = 0 := by decide
  have h2 : IntKind.u64.max = 18446744073709551615 := by decide
  exact ⟨n.toNat, by omega, by omega⟩
theorem addN (b off j : Nat) : Addr.add ⟨b, off, none⟩ j = ⟨b, off + j, none⟩ := by
  unfold Addr.add
  by_cases h0 : j = 0
  · simp [h0]
  · simp [h0]
/-- A row of k cells an element, out of its cells. -/
theorem rowG_of_cellsK {α : Type} {c : α → List Value} {Fit : α → Prop} {k : Nat} (hk : 0 < k) (hc : ∀ x, (c x).length = k) {W : World} {a : Addr} {cap : Nat} {l : List α} (hl : l.length ≤ 9223372036854775807)
    (hfit : ∀ x ∈ l, Fit x) (hcell : ∀ i (h : i < l.length) m (hm : m < k), W.cell? (a.add (i * k + m)) = (c l[i])[m]?) : RowG c Fit W (.slice (some a) l.length cap) l := by
  refine ⟨some a, cap, rfl, hl, hfit, ?_⟩
  by_cases h0 : l.length = 0
  · left; exact List.eq_nil_of_length_eq_zero h0
  · right
    have hc0 := hcell 0 (by omega) 0 hk
    have hx0 : a.add (0 * k + 0) = a := by simp [Addr.add]
    rw [hx0] at hc0
    have hs0 : ∃ u, W.cell? a = some u := ⟨_, hc0.trans (List.getElem?_eq_getElem (by rw [hc]; exact hk))⟩
    obtain ⟨u0, hu0⟩ := hs0
    have hsp : a.spot = none := by
      cases hs : a.spot with
      | none => rfl
      | some y =>
        simp only [World.cell?, hs] at hu0
        split at hu0 <;> simp at hu0
    obtain ⟨b, off, sp⟩ := a
    simp only at hsp
    subst hsp
    refine ⟨b, off, rfl, ?_, ?_⟩
    · rcases Nat.lt_or_ge b W.heap.size with h' | h'
      · exact h'
      · simp [World.cell?, Array.getElem?_eq_none h'] at hu0
    · intro j u hj
      have hjl : j < l.length * k := by
        rcases Nat.lt_or_ge j (flatG c l).length with h' | h'
        · rwa [flatG_length hc] at h'
        · rw [List.getElem?_eq_none h'] at hj; cases hj
      have hi : j / k < l.length := Nat.div_lt_of_lt_mul (by rw [Nat.mul_comm]; exact hjl)
      have hm : j % k < k := Nat.mod_lt _ hk
      have e : j / k * k + j % k = j := by rw [Nat.mul_comm]; exact Nat.div_add_mod j k
      have hg := flatG_get hc l (j / k) hi (j % k) hm
      have hcj := hcell (j / k) hi (j % k) hm
      rw [e] at hg hcj
      rw [addN] at hcj
      rw [hcj, ← hg, hj]
instance : Inhabited Msg := ⟨zeroM⟩
def sumM (l : List Msg) : Nat := (l.map fun m => m.raw.size + 1).sum
theorem sum_ones : ∀ k : List Nat, (k.map (fun _ => 1)).sum = k.length
  | [] => rfl
  | x :: r => by simp only [List.map_cons, List.sum_cons, List.length_cons, sum_ones r]; omega
theorem sumM_len : ∀ l : List Msg, l.length ≤ sumM l
  | [] => Nat.zero_le _
  | m :: r => by have := sumM_len r; unfold sumM at *; simp only [List.map_cons, List.sum_cons, List.length_cons]; omega

set_option maxRecDepth 100000 in
theorem trod_time {H : Type} {enc : TypeId × Value → H} {W : World} {base : Nat} {held : Bool} {fuel : Nat} {cs : List Value} {x : DataW H × List MemPlace}
    (hf : DataW.trod enc Tryd.prog W base (fun _ => true) held fuel 31 cs = some x) : ∃ d s z : Int, cs = [.int .i64 d, .int .i64 s, .int .i64 z] ∧ I64 d ∧ I64 s ∧ I64 z := by
  obtain ⟨y0, y1, y2, n, rfl, hl, h0, h1, h2⟩ := Go.Deep.trod_struct3 Tryd.underlying31 hf
  have c3 : (Tryd.prog).cellsOf 31 = 3 := by kernel_rfl
  have ci1 : (Tryd.prog).cellsOf 3 = 1 := by kernel_rfl
  rw [c3] at hl
  match cs, hl with
  | [u0, u1, u2], _ =>
    simp only [ci1, List.drop_zero, List.drop_succ_cons, List.take_succ_cons, List.take_zero] at h0 h1 h2
    obtain ⟨s0, e0, f0, g0⟩ := DataW.trod_int Tryd.underlying3 h0
    obtain ⟨s1, e1, f1, g1⟩ := DataW.trod_int Tryd.underlying3 h1
    obtain ⟨s2, e2, f2, g2⟩ := DataW.trod_int Tryd.underlying3 h2
    simp only [List.cons.injEq, and_true] at e0 e1 e2
    subst e0 e1 e2
    exact ⟨s0, s1, s2, rfl, wf64 g0, wf64 g1, wf64 g2⟩

set_option maxRecDepth 100000 in
theorem trod_msg {H : Type} {enc : TypeId × Value → H} {W : World} {base : Nat} {held : Bool} {fuel : Nat} {cs : List Value} {x : DataW H × List MemPlace}
    (hf : DataW.trod enc Tryd.prog W base (fun _ => true) held fuel 47 cs = some x) (hb : Rows.uptoBulk x.1 ≤ 1048576) : ∃ m : Msg, cs = msC m ∧ FitM m ∧ m.raw.size + 1 ≤ Rows.uptoBulk x.1 := by
  obtain ⟨xs, n, _, rfl, hl, hlen, hx⟩ := DataW.trod_struct Tryd.underlying47 hf
  have c6 : (Tryd.prog).cellsOf 47 = 6 := by kernel_rfl
  have cu1 : (Tryd.prog).cellsOf 22 = 1 := by kernel_rfl
  have cf1 : (Tryd.prog).cellsOf 29 = 1 := by kernel_rfl
  have ct3 : (Tryd.prog).cellsOf 31 = 3 := by kernel_rfl
  have cs1 : (Tryd.prog).cellsOf 9 = 1 := by kernel_rfl
  rw [c6] at hl
  match xs, hlen with
  | [y0, y1, y2, y3], _ =>
    have h0 := hx 0 _ rfl
    have h1 := hx 1 _ rfl
    have h2 := hx 2 _ rfl
    have h3 := hx 3 _ rfl
    match cs, hl with
    | [u0, u1, u2, u3, u4, u5], _ =>
      simp [cu1, cf1, ct3, cs1] at h0 h1 h2 h3
      obtain ⟨s0, e0, f0, g0⟩ := DataW.trod_int Tryd.underlying22 h0
      obtain ⟨s1, e1, f1, g1⟩ := DataW.trod_int Tryd.underlying29 h1
      obtain ⟨d, s, z, e2, g2, g3, g4⟩ := trod_time h2
      obtain ⟨s3, e3, f3, g5⟩ := DataW.trod_string Tryd.underlying9 h3
      simp only [List.cons.injEq, and_true] at e0 e1 e2 e3
      obtain ⟨e4, e5, e6⟩ := e2
      subst e0 e1 e3 e4 e5 e6
      obtain ⟨k0, rfl, q0⟩ := wfU32 g0
      obtain ⟨k1, rfl, q1⟩ := wfU8 g1
      have hraw : s3.size + 1 ≤ Rows.uptoBulk (DataW.agg (H := H) ([y0, y1, y2, y3].map (·.1))) := by
        have : Rows.uptoBulk y3.1 = s3.size + 1 := by rw [(Prod.mk.inj f3).1]; simp [Rows.uptoBulk]
        simp only [List.map_cons, List.map_nil, Rows.uptoBulk, Rows.uptoBulkAll]
        omega
      refine ⟨⟨k0, k1, d, s, z, s3⟩, rfl, ⟨q0, q1, g2, g3, g4, ?_⟩, hraw⟩
      have := Nat.le_trans hraw hb
      show s3.size ≤ 16777216
      omega

theorem bulk_each {H : Type} (f : Nat → DataW H) (n i : Nat) (h : i < n) : Rows.uptoBulk (f i) ≤ Rows.uptoBulkAll ((List.range n).map f) := by
  have key : ∀ (l : List Nat), i ∈ l → Rows.uptoBulk (f i) ≤ Rows.uptoBulkAll (l.map f) := by
    intro l
    induction l with
    | nil => intro h; cases h
    | cons x r ih =>
      intro h
      simp only [List.map_cons, Rows.uptoBulkAll]
      rcases List.mem_cons.1 h with rfl | h'
      · omega
      · have := ih h'; omega
  exact key _ (List.mem_range.2 h)

set_option maxRecDepth 100000 in
theorem trod_rowM {H : Type} {enc : TypeId × Value → H} {W : World} {base : Nat} {held : Bool} {fuel : Nat} {cs : List Value} {x : DataW H × List MemPlace}
    (hf : DataW.trod enc Tryd.prog W base (fun _ => true) held fuel 24 cs = some x) (hbk : Rows.uptoBulk x.1 ≤ 1048576) : ∃ v l, cs = [v] ∧ RowM W v l ∧ sumM l + 1 ≤ Rows.uptoBulk x.1 := by
  rcases Go.Deep.open_slice Tryd.underlying24 hf with ⟨rfl, rfl⟩ | ⟨a, len, cap, m, n, D, Pl, rfl, _, hl, hm, hmm, rfl, hx⟩
  · exact ⟨_, [], rfl, ⟨none, 0, rfl, by simp, by simp, Or.inl rfl⟩, by simp [Rows.uptoBulk, sumM]⟩
  · have hmc : m = cap := by simpa using hmm
    subst hmc
    have ce : (Tryd.prog).cellsOf 47 = 6 := by kernel_rfl
    simp only [Rows.uptoBulk] at hbk
    have each : ∀ i, i < len → ∃ f : Msg, (∀ j u, (msC f)[j]? = some u → W.cell? ((a.add (i * 6)).add j) = some u) ∧ FitM f ∧ f.raw.size + 1 ≤ Rows.uptoBulk (D i) := by
      intro i hi
      obtain ⟨cs', h1, h2⟩ := hx i (by omega)
      rw [ce] at h1
      have hbi := bulk_each D len i hi
      obtain ⟨f, rfl, hfit, hb⟩ := trod_msg h2 (by show Rows.uptoBulk (D i) ≤ _; omega)
      obtain ⟨_, _, hcell⟩ := World.cells?_some h1
      refine ⟨f, fun j u hj => ?_, hfit, hb⟩
      have hj3 : j < 6 := (List.getElem?_eq_some_iff.1 hj).1
      rw [hcell j (by omega)]
      simpa using hj
    obtain ⟨q, hq⟩ := Go.Deep.choose_lt each
    obtain ⟨l, hl'⟩ : ∃ l : List Msg, l = (List.range len).map q := ⟨_, rfl⟩
    have hll : l.length = len := by rw [hl']; simp
    have hrow : RowM W (.slice (some a) l.length m) l := by
      refine rowG_of_cellsK (k := 6) (by decide) msC_len (by unfold maxLen at hm; omega) ?_ ?_
      · intro y hy
        rw [hl'] at hy
        obtain ⟨i, hi, rfl⟩ := List.mem_map.1 hy
        exact (hq i (List.mem_range.1 hi)).2.1
      · intro i h mm hmm'
        have hs : (msC l[i])[mm]? = some ((msC l[i])[mm]'(by rw [msC_len]; exact hmm')) := List.getElem?_eq_getElem _
        rw [hs]
        have h2 := (hq i (by omega)).1 mm _ (by rw [← hs]; simp [hl'])
        have hc0 := (hq 0 (by omega)).1 0 _ rfl
        have hx0 : (a.add (0 * 6)).add 0 = a := by simp [Addr.add]
        rw [hx0] at hc0
        obtain ⟨b, off, ha, _⟩ := spot_none hc0
        rw [ha, Addr.add_lit, Addr.add_lit, Nat.add_assoc] at h2
        rw [ha, Addr.add_lit]
        exact h2
    rw [hll] at hrow
    refine ⟨_, l, rfl, hrow, ?_⟩
    have hb := bulk_ge D (fun i => (q i).raw.size + 1) (List.range len) (fun i hi => (hq i (List.mem_range.1 hi)).2.2)
    have hs : sumM l = ((List.range len).map fun i => (q i).raw.size + 1).sum := by rw [hl', sumM, List.map_map]; rfl
    simp only [Rows.uptoBulk]
    omega

set_option maxRecDepth 100000 in
/-- A box that came in. -/
theorem open_box {H : Type} {enc : TypeId × Value → H} {W : World} {base base' : Nat} {held : Bool} {fuel : Nat} {v : Value} {x : DataW H × List MemPlace} {r : Reach} (hv : Value.okWide Tryd.prog W r base' 26 v)
    (hf : DataW.trod enc Tryd.prog W base (fun _ => true) held fuel 26 v.cells.toList = some x) (hbk : Rows.uptoBulk x.1 ≤ 1048576) : ∃ (b : Bx) (a : Option Addr) (n cap : Nat), v = bxV b (.slice a n cap) ∧ RowM W (.slice a n cap) b.ms ∧ FitB b ∧ sumM b.ms + 1 ≤ Rows.uptoBulk x.1 := by
  obtain ⟨cs, rfl, _⟩ := okWide_struct Tryd.underlying26 hv
  obtain ⟨xs, n, _, rfl, hl, hlen, hx⟩ := DataW.trod_struct Tryd.underlying26 hf
  have c5 : (Tryd.prog).cellsOf 26 = 5 := by kernel_rfl
  have cu1 : (Tryd.prog).cellsOf 22 = 1 := by kernel_rfl
  have cq1 : (Tryd.prog).cellsOf 23 = 1 := by kernel_rfl
  have cm1 : (Tryd.prog).cellsOf 24 = 1 := by kernel_rfl
  simp only [Value.cells] at hl hx
  rw [c5] at hl
  match xs, hlen with
  | [y0, y1, y2, y3, y4], _ =>
    have h0 := hx 0 _ rfl
    have h1 := hx 1 _ rfl
    have h2 := hx 2 _ rfl
    have h3 := hx 3 _ rfl
    have h4 := hx 4 _ rfl
    obtain ⟨ls⟩ := cs
    simp only at hl h0 h1 h2 h3 h4
    match ls, hl with
    | [u0, u1, u2, u3, u4], _ =>
      simp [cu1, cq1, cm1] at h0 h1 h2 h3 h4
      obtain ⟨s0, e0, f0, g0⟩ := DataW.trod_int Tryd.underlying22 h0
      obtain ⟨s1, e1, f1, g1⟩ := DataW.trod_int Tryd.underlying23 h1
      obtain ⟨s2, e2, f2, g2⟩ := DataW.trod_int Tryd.underlying22 h2
      obtain ⟨s3, e3, f3, g3⟩ := DataW.trod_int Tryd.underlying22 h3
      simp only [List.map_cons, List.map_nil, Rows.uptoBulk, Rows.uptoBulkAll] at hbk
      obtain ⟨v, l, e4, hr, hb⟩ := trod_rowM h4 (by omega)
      simp only [List.cons.injEq, and_true] at e0 e1 e2 e3 e4
      subst e0 e1 e2 e3 e4
      obtain ⟨k0, rfl, q0⟩ := wfU32 g0
      obtain ⟨k1, rfl, q1⟩ := wfU64 g1
      obtain ⟨k2, rfl, q2⟩ := wfU32 g2
      obtain ⟨k3, rfl, q3⟩ := wfU32 g3
      obtain ⟨a, cap, hu, _⟩ := id hr
      subst hu
      refine ⟨⟨k0, k1, k2, k3, l⟩, a, _, cap, rfl, hr, ⟨q0, q1, q2, q3⟩, ?_⟩
      simp only [List.map_cons, List.map_nil, Rows.uptoBulk, Rows.uptoBulkAll]
      show sumM l + 1 ≤ _
      omega
end Go.Proofs.YtnhcpkcpgpobdaaDoor

/-
  Changes and numbers that came in, and what the second form's bound says of them.
-/
set_option linter.unusedVariables false
set_option linter.unusedSimpArgs false
namespace Go.Proofs.YtnhcpkcpgpobdaaDoor
open Go.ChangeShapes Go.WideShapes Go.RowKit

theorem rowG_of_cells {α : Type} {c : α → List Value} {Fit : α → Prop} (f : α → Value) (hc : ∀ x, c x = [f x]) {W : World} {a : Addr} {cap : Nat} {l : List α} (hl : l.length ≤ 9223372036854775807)
    (hfit : ∀ x ∈ l, Fit x) (hcell : ∀ i (h : i < l.length), W.cell? (a.add i) = some (f l[i])) : RowG c Fit W (.slice (some a) l.length cap) l := by
  have hc1 : ∀ x, (c x).length = 1 := fun x => by rw [hc]; rfl
  refine ⟨some a, cap, rfl, hl, hfit, ?_⟩
  by_cases h0 : l.length = 0
  · left; exact List.eq_nil_of_length_eq_zero h0
  · right
    have hc0 := hcell 0 (by omega)
    have hx0 : a.add 0 = a := by simp [Addr.add]
    rw [hx0] at hc0
    have hsp : a.spot = none := by
      cases hs : a.spot with
      | none => rfl
      | some y =>
        simp only [World.cell?, hs] at hc0
        split at hc0 <;> simp at hc0
    obtain ⟨b, off, sp⟩ := a
    simp only at hsp
    subst hsp
    refine ⟨b, off, rfl, ?_, ?_⟩
    · rcases Nat.lt_or_ge b W.heap.size with h' | h'
      · exact h'
      · simp [World.cell?, Array.getElem?_eq_none h'] at hc0
    · intro j u hj
      have hjl : j < l.length := by
        rcases Nat.lt_or_ge j (flatG c l).length with h' | h'
        · rwa [flatG_length hc1, Nat.mul_one] at h'
        · rw [List.getElem?_eq_none h'] at hj; cases hj
      have hg := flatG_get hc1 l j hjl 0 (by omega)
      rw [Nat.mul_one, Nat.add_zero, hc] at hg
      rw [hg] at hj
      have hcj := hcell j hjl
      rw [add_off0] at hcj
      rw [hcj]
      simpa using hj

theorem trod_row32 {H : Type} {enc : TypeId × Value → H} {W : World} {base : Nat} {held : Bool} {fuel : Nat} {cs : List Value} {x : DataW H × List MemPlace}
    (hf : DataW.trod enc Tryd.prog W base (fun _ => true) held fuel 28 cs = some x) : ∃ v l, cs = [v] ∧ Row32 W v l ∧ l.length + 1 ≤ Rows.uptoBulk x.1 := by
  rcases Go.Deep.open_slice Tryd.underlying28 hf with ⟨rfl, rfl⟩ | ⟨a, len, cap, m, n, D, Pl, rfl, _, hl, hm, hmm, rfl, hx⟩
  · exact ⟨_, [], rfl, RowG.nil _ _ _, by simp [Rows.uptoBulk]⟩
  · have hmc : m = cap := by simpa using hmm
    subst hmc
    have ce : (Tryd.prog).cellsOf 22 = 1 := by kernel_rfl
    have each : ∀ i, i < m → ∃ s : Nat, W.cell? (a.add i) = some (.int .u32 (s : Int)) ∧ s ≤ 4294967295 ∧ 1 ≤ Rows.uptoBulk (D i) := by
      intro i hi
      obtain ⟨cs', h1, h2⟩ := hx i hi
      rw [ce, Nat.mul_one] at h1
      obtain ⟨s0, rfl, f0, g0⟩ := DataW.trod_int Tryd.underlying22 h2
      obtain ⟨_, _, hcell⟩ := World.cells?_some h1
      have hc0 := hcell 0 (by omega)
      have hx0 : (a.add i).add 0 = a.add i := by simp [Addr.add]
      rw [hx0] at hc0
      have g1 : 0 ≤ s0 ∧ s0 ≤ 4294967295 := by
        simp only [Lit.wf, Bool.and_eq_true, decide_eq_true_eq] at g0
        have h1 : IntKind.u32.min = 0 := by decide
        have h2 : IntKind.u32.max = 4294967295 := by decide
        omega
      refine ⟨s0.toNat, ?_, by omega, ?_⟩
      · rw [hc0, Int.toNat_of_nonneg g1.1]; rfl
      · rw [(Prod.mk.inj f0).1]; simp [Rows.uptoBulk]
    obtain ⟨q, hq⟩ := Go.Deep.choose_lt each
    obtain ⟨l, hl'⟩ : ∃ l : List Nat, l = (List.range len).map q := ⟨_, rfl⟩
    have hll : l.length = len := by rw [hl']; simp
    have hrow : Row32 W (.slice (some a) l.length m) l := by
      refine rowG_of_cells (fun n : Nat => .int .u32 (n : Int)) (fun _ => rfl) (by unfold maxLen at hm; omega) ?_ ?_
      · intro y hy
        rw [hl'] at hy
        obtain ⟨i, hi, rfl⟩ := List.mem_map.1 hy
        exact (hq i (by have := List.mem_range.1 hi; omega)).2.1
      · intro i h
        rw [(hq i (by omega)).1]
        simp [hl']
    rw [hll] at hrow
    refine ⟨_, l, rfl, hrow, ?_⟩
    have hb := bulk_ge D (fun _ => 1) (List.range len) (fun i hi => (hq i (by have := List.mem_range.1 hi; omega)).2.2)
    simp only [Rows.uptoBulk]
    have e : ∀ k : List Nat, (k.map (fun _ => 1)).sum = k.length := by
      intro k
      induction k with
      | nil => rfl
      | cons x r ih => simp only [List.map_cons, List.sum_cons, List.length_cons, ih]; omega
    rw [e, List.length_range] at hb
    omega


set_option maxRecDepth 100000 in
theorem trod_chg {H : Type} {enc : TypeId × Value → H} {W : World} {base : Nat} {held : Bool} {fuel : Nat} {cs : List Value} {x : DataW H × List MemPlace}
    (hf : DataW.trod enc Tryd.prog W base (fun _ => true) held fuel 33 cs = some x) (hbk : Rows.uptoBulk x.1 ≤ 1048576) : ∃ (c : Chg) (v : Value), cs = (chC c v).toList ∧ Row32 W v c.us ∧ FitC c ∧ c.us.length + c.raw.size + 1 ≤ Rows.uptoBulk x.1 := by
  obtain ⟨xs, n, _, rfl, hl, hlen, hx⟩ := DataW.trod_struct Tryd.underlying33 hf
  have c7 : (Tryd.prog).cellsOf 33 = 7 := by kernel_rfl
  have ck1 : (Tryd.prog).cellsOf 27 = 1 := by kernel_rfl
  have cu1 : (Tryd.prog).cellsOf 28 = 1 := by kernel_rfl
  have cf1 : (Tryd.prog).cellsOf 29 = 1 := by kernel_rfl
  have ct3 : (Tryd.prog).cellsOf 31 = 3 := by kernel_rfl
  have cs1 : (Tryd.prog).cellsOf 9 = 1 := by kernel_rfl
  rw [c7] at hl
  match xs, hlen with
  | [y0, y1, y2, y3, y4], _ =>
    have h0 := hx 0 _ rfl
    have h1 := hx 1 _ rfl
    have h2 := hx 2 _ rfl
    have h3 := hx 3 _ rfl
    have h4 := hx 4 _ rfl
    match cs, hl with
    | [u0, u1, u2, u3, u4, u5, u6], _ =>
      simp [ck1, cu1, cf1, ct3, cs1] at h0 h1 h2 h3 h4
      obtain ⟨s0, e0, f0, g0⟩ := DataW.trod_int Tryd.underlying27 h0
      obtain ⟨v, l, e1, hr, hb⟩ := trod_row32 h1
      obtain ⟨s2, e2, f2, g2⟩ := DataW.trod_int Tryd.underlying29 h2
      obtain ⟨d, s, z, e3, g3, g4, g5⟩ := trod_time h3
      obtain ⟨s4, e4, f4, g6⟩ := DataW.trod_string Tryd.underlying9 h4
      simp only [List.cons.injEq, and_true] at e0 e1 e2 e3 e4
      obtain ⟨e5, e6, e7⟩ := e3
      subst e0 e1 e2 e4 e5 e6 e7
      obtain ⟨k0, rfl, q0⟩ := wfU8 g0
      obtain ⟨k2, rfl, q2⟩ := wfU8 g2
      have hraw : Rows.uptoBulk y4.1 = s4.size + 1 := by rw [(Prod.mk.inj f4).1]; simp [Rows.uptoBulk]
      simp only [List.map_cons, List.map_nil, Rows.uptoBulk, Rows.uptoBulkAll] at hbk ⊢
      refine ⟨⟨k0, l, k2, d, s, z, s4⟩, u1, rfl, hr, ⟨q0, q2, g3, g4, g5, by show s4.size ≤ 16777216; omega⟩, ?_⟩
      show l.length + s4.size + 1 ≤ _
      omega
set_option maxRecDepth 100000 in
/-- A change that came in. -/
theorem open_chg {H : Type} {enc : TypeId × Value → H} {W : World} {base base' : Nat} {held : Bool} {fuel : Nat} {v : Value} {x : DataW H × List MemPlace} {r : Reach} (hv : Value.okWide Tryd.prog W r base' 33 v)
    (hf : DataW.trod enc Tryd.prog W base (fun _ => true) held fuel 33 v.cells.toList = some x) (hbk : Rows.uptoBulk x.1 ≤ 1048576) : ∃ (c : Chg) (a : Option Addr) (n cap : Nat), v = chV c (.slice a n cap) ∧ Row32 W (.slice a n cap) c.us ∧ FitC c ∧ (c.us.length + c.raw.size) + 1 ≤ Rows.uptoBulk x.1 := by
  obtain ⟨cs, rfl, _⟩ := okWide_struct Tryd.underlying33 hv
  obtain ⟨c, u, hc, hr, hfit, hb⟩ := trod_chg hf hbk
  obtain ⟨a, cap, hu, _⟩ := id hr
  subst hu
  refine ⟨c, a, c.us.length, cap, ?_, hr, hfit, hb⟩
  have : cs = chC c (.slice a c.us.length cap) := by
    have h2 : cs.toList = (chC c (.slice a c.us.length cap)).toList := by simpa [Value.cells] using hc
    exact Array.toList_inj.1 h2
  rw [this]
  rfl
end Go.Proofs.YtnhcpkcpgpobdaaDoor

/-
  Slices of changes that came in, and what the second form's bound says of them.
-/
set_option linter.unusedVariables false
set_option linter.unusedSimpArgs false
namespace Go.Proofs.YtnhcpkcpgpobdaaDoor
open Go.ChangeShapes Go.WideShapes Go.RowKit

def chP (p : Chg × Value) : List Value := (chC p.1 p.2).toList
theorem chP_len (p : Chg × Value) : (chP p).length = 7 := rfl
def RowP (w : World) (v : Value) (ps : List (Chg × Value)) : Prop := RowG chP (fun p => FitC p.1) w v ps ∧ ∀ p ∈ ps, Row32 w p.2 p.1.us
theorem RowP.below {w w' : World} {v : Value} {ps : List (Chg × Value)} (h : RowP w v ps) (hb : Below w.heap.size w w') : RowP w' v ps := ⟨RowG.below h.1 hb, fun p hp => (h.2 p hp).below hb⟩
instance : Inhabited Chg := ⟨⟨0, [], 0, 0, 0, 0, ⟨#[]⟩⟩⟩
instance : Inhabited Value := ⟨.slice none 0 0⟩

set_option maxRecDepth 100000 in
theorem trod_rowP {H : Type} {enc : TypeId × Value → H} {W : World} {base : Nat} {held : Bool} {fuel : Nat} {cs : List Value} {x : DataW H × List MemPlace}
    (hf : DataW.trod enc Tryd.prog W base (fun _ => true) held fuel 55 cs = some x) (hbk : Rows.uptoBulk x.1 ≤ 1048576) : ∃ v l, cs = [v] ∧ RowP W v l ∧ l.length + 1 ≤ Rows.uptoBulk x.1 := by
  rcases Go.Deep.open_slice Tryd.underlying55 hf with ⟨rfl, rfl⟩ | ⟨a, len, cap, m, n, D, Pl, rfl, _, hl, hm, hmm, rfl, hx⟩
  · exact ⟨_, [], rfl, ⟨⟨none, 0, rfl, by simp, by simp, Or.inl rfl⟩, by simp⟩, by simp [Rows.uptoBulk]⟩
  · have hmc : m = cap := by simpa using hmm
    subst hmc
    have ce : (Tryd.prog).cellsOf 33 = 7 := by kernel_rfl
    simp only [Rows.uptoBulk] at hbk
    have each : ∀ i, i < len → ∃ f : Chg × Value, (∀ j u, (chP f)[j]? = some u → W.cell? ((a.add (i * 7)).add j) = some u) ∧ FitC f.1 ∧ Row32 W f.2 f.1.us ∧ 1 ≤ Rows.uptoBulk (D i) := by
      intro i hi
      obtain ⟨cs', h1, h2⟩ := hx i (by omega)
      rw [ce] at h1
      have hbi := bulk_each D len i hi
      obtain ⟨f, fv, rfl, hrow, hfit, hb⟩ := trod_chg h2 (by show Rows.uptoBulk (D i) ≤ _; omega)
      obtain ⟨_, _, hcell⟩ := World.cells?_some h1
      refine ⟨(f, fv), fun j u hj => ?_, hfit, hrow, by have : f.us.length + f.raw.size + 1 ≤ Rows.uptoBulk (D i) := hb; omega⟩
      have hj3 : j < 7 := (List.getElem?_eq_some_iff.1 hj).1
      rw [hcell j (by omega)]
      exact hj
    obtain ⟨q, hq⟩ := Go.Deep.choose_lt each
    obtain ⟨l, hl'⟩ : ∃ l : List (Chg × Value), l = (List.range len).map q := ⟨_, rfl⟩
    have hll : l.length = len := by rw [hl']; simp
    have hrow : RowG chP (fun p => FitC p.1) W (.slice (some a) l.length m) l := by
      refine rowG_of_cellsK (k := 7) (by decide) chP_len (by unfold maxLen at hm; omega) ?_ ?_
      · intro y hy
        rw [hl'] at hy
        obtain ⟨i, hi, rfl⟩ := List.mem_map.1 hy
        exact (hq i (List.mem_range.1 hi)).2.1
      · intro i h mm hmm'
        have hs : (chP l[i])[mm]? = some ((chP l[i])[mm]'(by rw [chP_len]; exact hmm')) := List.getElem?_eq_getElem _
        rw [hs]
        have h2 := (hq i (by omega)).1 mm _ (by rw [← hs]; simp [hl'])
        have hc0 := (hq 0 (by omega)).1 0 _ rfl
        have hx0 : (a.add (0 * 7)).add 0 = a := by simp [Addr.add]
        rw [hx0] at hc0
        obtain ⟨b, off, ha, _⟩ := spot_none hc0
        rw [ha, Addr.add_lit, Addr.add_lit, Nat.add_assoc] at h2
        rw [ha, Addr.add_lit]
        exact h2
    rw [hll] at hrow
    refine ⟨_, l, rfl, ⟨hrow, ?_⟩, ?_⟩
    · intro p hp
      rw [hl'] at hp
      obtain ⟨i, hi, rfl⟩ := List.mem_map.1 hp
      exact (hq i (List.mem_range.1 hi)).2.2.1
    · have hb := bulk_ge D (fun _ => 1) (List.range len) (fun i hi => (hq i (List.mem_range.1 hi)).2.2.2)
      rw [sum_ones, List.length_range] at hb
      simp only [Rows.uptoBulk]
      omega
theorem open_rowP {H : Type} {enc : TypeId × Value → H} {W : World} {base : Nat} {held : Bool} {fuel : Nat} {v : Value} {x : DataW H × List MemPlace} (hv : ∃ a len cap, v = .slice a len cap)
    (hf : DataW.trod enc Tryd.prog W base (fun _ => true) held fuel 55 v.cells.toList = some x) (hb : Rows.uptoBulk x.1 ≤ 1048576) : ∃ l, RowP W v l ∧ List.length l + 1 ≤ Rows.uptoBulk x.1 := by
  obtain ⟨a, len, cap, rfl⟩ := hv
  obtain ⟨v, l, hc, hr, hs⟩ := trod_rowP hf hb
  simp [Value.cells] at hc
  subst hc
  exact ⟨l, hr, hs⟩
end Go.Proofs.YtnhcpkcpgpobdaaDoor

/-
  What missivelaw19.BoxNever does, over this seat's program: it answers true.
-/
set_option linter.unusedVariables false
set_option linter.unusedSimpArgs false
namespace Go.Proofs.YtnhcpkcpgpobdaaDoor
open Go.RowKit

/-- A change of a row of them, and the cells that it lies in. -/
theorem RowP.chg {w : World} {a : Option Addr} {n cap : Nat} {ps : List (Chg × Value)} (h : RowP w (.slice a n cap) ps) {k : Nat} (hk : k < ps.length) :
    ∃ g off, a = some ⟨g, off, none⟩ ∧ g < w.heap.size ∧ FitC ps[k].1 ∧ Row32 w ps[k].2 ps[k].1.us ∧ ∀ i, i < 7 → w.cell? ⟨g, off + k * 7 + i, none⟩ = (chP ps[k])[i]? := by
  obtain ⟨g, off, cap', hv, hlt, hc⟩ := RowG.at chP_len h.1 hk
  obtain ⟨⟨_, _, _, _, hfit, _⟩, hr⟩ := h
  injection hv with e1 _ _
  exact ⟨g, off, e1, hlt, hfit _ (List.getElem_mem _), hr _ (List.getElem_mem _), hc⟩
theorem okB_make {va : Nat} (h : va ≠ 0) : okB ⟨va, 1, 0, 0, []⟩ = true := by
  unfold okB
  simp only [Bool.and_eq_true, decide_eq_true_eq]
  exact ⟨⟨h, by omega, by omega, by omega, by omega⟩, by simp, rfl⟩

set_option maxHeartbeats 8000000 in
set_option maxRecDepth 100000 in
theorem boxNever_walk (va : Nat) (v : Value) (ps : List (Chg × Value)) (w : World) (ht : LTab w) (h : RowP w v ps) (hva : va ≤ 4294967295) (hl4 : ps.length ≤ 4194304) :
    Calls Tryd.prog 5 #[.int .u32 (va : Int), v] w fun e w' => e = .returned (.bool true) ∧ Below w.heap.size w w' := by
  have HL := hide (fun X (hX : LTab X) => livesB_any X hX)
  have HTW := hide (fun X (hX : Below w.heap.size w X) => ht.below hX)
  have HPW := hide (fun X (hX : Below w.heap.size w X) => h.below hX)
  have HMK := hide (fun X => bmake_any va X)
  obtain ⟨a, cap, rfl, hl, _, _⟩ := h.1
  obtain ⟨T, hT⟩ : ∃ T, ps.length = T := ⟨_, rfl⟩
  rw [hT] at HPW hl hl4 ⊢
  have HTT := hide hT
  clear hT h ht
  by_cases hv0 : va = 0
  · have hm : makeB va = ⟨0, 0, 0, 0, []⟩ := by unfold makeB; rw [if_pos hv0]
    rw [hm, if_pos hv0] at HMK
    simp only [bxV, bxC] at HMK
    have d0 : ((va : Int) == 0) = true := by simp; omega
    clear hm hv0
    go_enter Tryd.func5, Tryd.ntmps5
    go_wp2_with fail
    refine (unhide HL _ (unhide HTW _ (Below.refl _ _))).mono ?_
    rintro e w1 ⟨rfl, b1⟩
    have BW := hide b1
    clear b1
    go_wp2_with fail
    refine (unhide HMK _).mono ?_
    rintro e w2 ⟨rfl, b2⟩
    have hb2 := belows' (unhide BW) b2
    have BW := hide (hb2.alloc hb2.size (.cells #[.int .u32 0, .int .u64 0, .int .u32 0, .int .u32 0, .slice none 0 0] 26))
    clear hb2
    clear b2
    go_wp2
    go_ret
    exact ⟨rfl, unhide BW⟩
  · have hm : makeB va = ⟨va, 1, 0, 0, []⟩ := by unfold makeB; rw [if_neg hv0]
    rw [hm, if_neg hv0] at HMK
    simp only [bxV, bxC] at HMK
    have HOK0 := hide (okB_make hv0)
    clear hm hv0
    go_enter Tryd.func5, Tryd.ntmps5
    go_wp2_with fail
    refine (unhide HL _ (unhide HTW _ (Below.refl _ _))).mono ?_
    rintro e w1 ⟨rfl, b1⟩
    have BW := hide b1
    clear b1 HL
    go_wp2_with fail
    refine (unhide HMK _).mono ?_
    rintro e w2 ⟨rfl, b2⟩
    have BW := hide (belows' (unhide BW) b2)
    have hB5 : w.heap.size ≤ w2.heap.size := (unhide BW).size
    clear b2 HMK
    go_upto_region 6 with (fail)
    have hA : Below w2.heap.size w2 (w2.alloc (.cells #[.int .u32 (va : Int), .int .u64 1, .int .u32 0, .int .u32 0, .slice none 0 0] 26)) := (Below.refl _ w2).alloc (Nat.le_refl _) _
    have KB := hide (Blk.new w2 26 #[.int .u32 (va : Int), .int .u64 1, .int .u32 0, .int .u32 0, .slice none 0 0])
    have BW := hide (belows' (unhide BW) hA)
    clear hA
    generalize w2.alloc (.cells #[.int .u32 (va : Int), .int .u64 1, .int .u32 0, .int .u32 0, .slice none 0 0] 26) = V at KB BW ⊢
    generalize w2.heap.size = B5 at KB hB5 ⊢
    go_wp2
    go_loopw [7, 8, 9, 10, 11, 12, 26] (fun y _ _ _ _ _ z wr => ∃ (k last : Nat) (b : Bx) (am : Option Addr) (cm : Nat), z = .int .i64 k ∧ y = .int .u32 (last : Int) ∧ k ≤ T ∧ last < b.nx ∧ Hid (okB b = true) ∧ Hid (FitB b) ∧ Hid (b.va = va) ∧ Hid (Blk wr B5 26 (bxC b (.slice am b.ms.length cm))) ∧ Hid (OutM wr (.slice am b.ms.length cm) b.ms) ∧ Hid (Below w.heap.size w wr)) (fun _ _ _ _ _ _ z _ => T - (intOf z).toNat)
    case atStart => exact ⟨0, 0, ⟨va, 1, 0, 0, []⟩, none, 0, rfl, rfl, Nat.zero_le _, by show 0 < 1; omega, HOK0, hide ⟨hva, by show 1 ≤ _; omega, by show 0 ≤ _; omega, by show 0 ≤ _; omega⟩, hide rfl, KB, hide (OutM.nil _), BW⟩
    case round =>
      obtain ⟨k, last, b, am, cm, rfl, rfl, hk, hlast, HOK, HFB, HVA, KBJ, OM, BJ⟩ := hrel
      clear KB BW HOK0
      by_cases hlt : k < T
      · have hlt1 : (k : Int) < (T : Int) := by omega
        have hkl : k < ps.length := by rw [unhide HTT]; exact hlt
        obtain ⟨g, off, rfl, hg, hfc, hru, hcell⟩ := RowP.chg (unhide HPW wr (unhide BJ)) hkl
        have hbj := (unhide BJ).size
        have HRU := hide (show ∀ X, Below wr.heap.size wr X → Row32 X ps[k].2 ps[k].1.us from fun X hX => hru.below hX)
        obtain ⟨au, cu, hsl⟩ : ∃ a cap, ps[k].2 = .slice a ps[k].1.us.length cap := by obtain ⟨a, cap, hv, _⟩ := hru; exact ⟨a, cap, hv⟩
        have x0 := hcell 0 (by omega)
        have x1 := hcell 1 (by omega)
        have x2 := hcell 2 (by omega)
        have x3 := hcell 3 (by omega)
        have x4 := hcell 4 (by omega)
        have x5 := hcell 5 (by omega)
        have x6 := hcell 6 (by omega)
        clear hcell hru
        generalize ps[k] = p at hfc HRU hsl x0 x1 x2 x3 x4 x5 x6
        obtain ⟨c, vc⟩ := p
        simp only at hfc HRU hsl x0 x1 x2 x3 x4 x5 x6
        subst hsl
        have HDO := hide (fun X (hX : LTab X) (hR : RowM X (.slice am b.ms.length cm) b.ms) (hU : Row32 X (.slice au c.us.length cu) c.us) => bdo_any b c _ _ X hX hR hU (unhide HFB) hfc)
        have HYES : ∀ X1, doB b c = X1 → Hid (doE b c = 0 → okB X1 = true ∧ X1.va = b.va ∧ b.nx ≤ X1.nx ∧ (c.kd = 1 → doT b c = [b.nx] ∧ X1.nx = b.nx + 1 ∧ b.nx ≤ 4294967295)) := by
          rintro X1 rfl; exact hide (fun h => never_yes (unhide HOK) h)
        have HNO : ∀ X1, doB b c = X1 → Hid (doE b c ≠ 0 → X1 = b ∧ doT b c = []) := by
          rintro X1 rfl; exact hide (fun h => never_no (unhide HOK) h)
        have HFX : ∀ X1, doB b c = X1 → Hid (FitB X1) := by rintro X1 rfl; exact hide (doB_fit (unhide HFB))
        obtain ⟨X1, hX1⟩ : ∃ X1, doB b c = X1 := ⟨_, rfl⟩
        have HY1 := HYES X1 hX1
        have HN1 := HNO X1 hX1
        have HF1 := HFX X1 hX1
        rw [hX1] at HDO
        clear HYES HNO HFX hX1 hfc
        generalize doE b c = E1 at HDO HY1 HN1
        generalize doT b c = T1 at HDO HY1 HN1
        have HCK := hide (fun X vx (hX : LTab X) (hR : RowM X vx X1.ms) => bcheck_any X1 vx X hX hR (unhide HF1))
        have HSM := hide (fun X vx vy (h1 : RowM X vx b.ms) (h2 : RowM X vy b.ms) => sameB_one b vx vy X h1 h2)
        obtain ⟨vab, nx, mr, la, ms⟩ := b
        have hvv : vab = va := unhide HVA
        subst hvv
        obtain ⟨va2, nx2, mr2, la2, ms2⟩ := X1
        obtain ⟨kd, us, fl, dy, sc, zn, raw⟩ := c
        simp only [bxV, bxC, chV, chC, chP] at *
        obtain ⟨nm, hnm⟩ : ∃ q, ms.length = q := ⟨_, rfl⟩
        obtain ⟨un, hun⟩ : ∃ q, us.length = q := ⟨_, rfl⟩
        rw [hnm] at HDO KBJ OM
        rw [hun] at HRU HDO x1
        simp only [List.getElem?_cons_succ, List.getElem?_cons_zero, Nat.add_zero] at x0 x1 x2 x3 x4 x5 x6
        have HNM := hide hnm
        clear hnm hun
        have hA : Below wr.heap.size wr (wr.alloc (.cells #[.int .u8 (kd : Int), .slice au un cu, .int .u8 (fl : Int), .int .i64 dy, .int .i64 sc, .int .i64 zn, .string raw] 33)) := (Below.refl _ wr).alloc (Nat.le_refl _) _
        have KC := hide (Blk.new wr 33 #[.int .u8 (kd : Int), .slice au un cu, .int .u8 (fl : Int), .int .i64 dy, .int .i64 sc, .int .i64 zn, .string raw])
        have KBK := hide ((unhide KBJ).below hA)
        have OMK := hide ((unhide OM).below hA)
        have BWK := hide (belows' (unhide BJ) hA)
        have HRU1 := hide (unhide HRU _ hA)
        by_cases h60 : k = 60
        · have d60 : ((k : Int) == 60) = true := by rw [h60]; rfl
          have q1 := (unhide KBK).cell 1
          simp only [List.getElem?_toArray, List.getElem?_cons_succ, List.getElem?_cons_zero] at q1
          have dz : decide (nx > last) = true := decide_eq_true (by omega)
          have dz2 : decide (last < nx) = true := decide_eq_true (by omega)
          have hn9 : nx ≤ 18446744073709551615 := (unhide HFB).2.1
          have hl9 : last ≤ 18446744073709551615 := by omega
          clear h60 HDO HY1 HN1 HCK HSM KBJ OM BJ HRU
          go_wp2
          go_ret
          exact ⟨rfl, unhide BWK⟩
        · have d60 : ((k : Int) == 60) = false := by simp; omega
          clear h60 KBJ OM BJ HRU
          go_upto_region 10 with (fail)
          generalize wr.alloc (.cells #[.int .u8 (kd : Int), .slice au un cu, .int .u8 (fl : Int), .int .i64 dy, .int .i64 sc, .int .i64 zn, .string raw] 33) = V1 at KC KBK OMK BWK HRU1 ⊢
          generalize wr.heap.size = BC at KC ⊢
          clear hA x0 x1 x2 x3 x4 x5 x6
          have c0 := (unhide KBK).cell 0
          have c1 := (unhide KBK).cell 1
          have c2 := (unhide KBK).cell 2
          have c3 := (unhide KBK).cell 3
          have c4 := (unhide KBK).cell 4
          simp only [List.getElem?_toArray, List.getElem?_cons_succ, List.getElem?_cons_zero] at c0 c1 c2 c3 c4
          have e0 := (unhide KC).cell 0
          have e1 := (unhide KC).cell 1
          have e2 := (unhide KC).cell 2
          have e3 := (unhide KC).cell 3
          have e4 := (unhide KC).cell 4
          have e5 := (unhide KC).cell 5
          have e6 := (unhide KC).cell 6
          simp only [List.getElem?_toArray, List.getElem?_cons_succ, List.getElem?_cons_zero] at e0 e1 e2 e3 e4 e5 e6
          go_wp2_with fail
          refine (unhide HDO _ (unhide HTW _ (unhide BWK)) (unhide OMK).row (unhide HRU1)).mono ?_
          rintro e w3 ⟨⟨vx, ux, rfl, hx1, hx2⟩, b3⟩
          obtain ⟨ax, cx, rfl, _⟩ := own_sliceG hx1.1
          obtain ⟨at2, ct2, rfl, _⟩ := own_sliceG hx2.1
          have OX := hide hx1
          have OT := hide hx2
          have KBK := hide ((unhide KBK).below b3)
          have KC := hide ((unhide KC).below b3)
          have OMK := hide ((unhide OMK).below b3)
          have BWK := hide (belows' (unhide BWK) b3)
          clear hx1 hx2 b3 HDO HRU1 c0 c1 c2 c3 c4 e0 e1 e2 e3 e4 e5 e6
          go_upto_region 12 with (fail)
          obtain ⟨n2, hn2⟩ : ∃ q, ms2.length = q := ⟨_, rfl⟩
          rw [hn2] at OX ⊢
          have HN2 := hide hn2
          clear hn2
          have hA : Below w3.heap.size w3 (w3.alloc (.cells #[.int .u32 (va2 : Int), .int .u64 (nx2 : Int), .int .u32 (mr2 : Int), .int .u32 (la2 : Int), .slice ax n2 cx] 26)) := (Below.refl _ w3).alloc (Nat.le_refl _) _
          have KX := hide (Blk.new w3 26 #[.int .u32 (va2 : Int), .int .u64 (nx2 : Int), .int .u32 (mr2 : Int), .int .u32 (la2 : Int), .slice ax n2 cx])
          have BWK := hide (belows' (unhide BWK) hA)
          have OX := hide ((unhide OX).below hA)
          have OT := hide ((unhide OT).below hA)
          have KBK := hide ((unhide KBK).below hA)
          have KC := hide ((unhide KC).below hA)
          have OMK := hide ((unhide OMK).below hA)
          clear hA
          generalize w3.alloc (.cells #[.int .u32 (va2 : Int), .int .u64 (nx2 : Int), .int .u32 (mr2 : Int), .int .u32 (la2 : Int), .slice ax n2 cx] 26) = V4 at KX BWK OX OT KBK KC OMK ⊢
          generalize w3.heap.size = BX at KX ⊢
          by_cases hE : E1 = 0
          · have dE : ((E1 : Int) != 0) = false := by rw [hE]; rfl
            obtain ⟨hok, hvx, hnx, happ⟩ := unhide HY1 hE
            have HCK := hide (fun X (hX : LTab X) (hR : RowM X (.slice ax n2 cx) ms2) => unhide HCK X _ hX hR)
            have hc0 : chkB ⟨va2, nx2, mr2, la2, ms2⟩ = 0 := by unfold chkB; rw [if_pos hok]
            rw [hc0] at HCK
            have HOKX := hide hok
            subst hvx
            have HAPP := hide happ
            clear hE HY1 HN1 HSM hok happ hc0 OMK
            have e0 := (unhide KC).cell 0
            simp only [List.getElem?_toArray, List.getElem?_cons_zero] at e0
            have dn : decide (nx2 < nx) = false := decide_eq_false (by omega)
            have dv : ((va2 : Int) != (va2 : Int)) = false := by simp
            by_cases h1 : kd = 1
            · have dk : ((kd : Int) == 1) = true := by rw [h1]; rfl
              obtain ⟨ht1, hn1, hn4⟩ := unhide HAPP h1
              subst ht1 hn1
              obtain ⟨gt, ot, capt, hv1, hgl, hcell⟩ := RowG.at cells32_len (unhide OT).row (j := 0) (by simp)
              simp only [List.length_cons, List.length_nil, Nat.zero_add] at hv1 ⊢
              injection hv1 with q1 q2 q3
              subst q1
              have t0 := hcell 0 (by omega)
              simp only [cells32, List.getElem_cons_zero, List.getElem?_cons_zero, Nat.add_zero, Nat.mul_one, Nat.zero_mul] at t0
              have dl : decide (nx ≤ last) = false := decide_eq_false (by omega)
              clear h1 q2 q3 hcell HAPP
              have x0 := (unhide KX).cell 0
              have x1 := (unhide KX).cell 1
              have x2 := (unhide KX).cell 2
              have x3 := (unhide KX).cell 3
              have x4 := (unhide KX).cell 4
              simp only [List.getElem?_toArray, List.getElem?_cons_succ, List.getElem?_cons_zero] at x0 x1 x2 x3 x4
              have c1 := (unhide KBK).cell 1
              simp only [List.getElem?_toArray, List.getElem?_cons_succ, List.getElem?_cons_zero] at c1
              go_wp2_with fail
              refine (unhide HCK _ (unhide HTW _ (unhide BWK)) (unhide OX).row).mono ?_
              rintro e w5 ⟨rfl, b5⟩
              have KBK := hide ((unhide KBK).below b5)
              have KX := hide ((unhide KX).below b5)
              have OX := hide ((unhide OX).below b5)
              have BWK := hide (belows' (unhide BWK) b5)
              clear b5 HCK OT KC e0 c1 x0 x1 x2 x3 x4
              have x0 := (unhide KX).cell 0
              have x1 := (unhide KX).cell 1
              have x2 := (unhide KX).cell 2
              have x3 := (unhide KX).cell 3
              have x4 := (unhide KX).cell 4
              simp only [List.getElem?_toArray, List.getElem?_cons_succ, List.getElem?_cons_zero] at x0 x1 x2 x3 x4
              have c0 := (unhide KBK).cell 0
              have c1 := (unhide KBK).cell 1
              have c2 := (unhide KBK).cell 2
              have c3 := (unhide KBK).cell 3
              have c4 := (unhide KBK).cell 4
              simp only [List.getElem?_toArray, List.getElem?_cons_succ, List.getElem?_cons_zero] at c0 c1 c2 c3 c4
              have f0 := (unhide KBK).frozen 0
              have f1 := (unhide KBK).frozen 1
              have f2 := (unhide KBK).frozen 2
              have f3 := (unhide KBK).frozen 3
              have f4 := (unhide KBK).frozen 4
              have R0 := hide (blk_five (unhide KBK) (.int .u32 (va2 : Int)) (.int .u64 ((nx + 1 : Nat) : Int)) (.int .u32 (mr2 : Int)) (.int .u32 (la2 : Int)) (.slice ax n2 cx))
              have R1 := hide (outM5 (unhide OX) (unhide KBK) (by decide) (.int .u32 (va2 : Int)) (.int .u64 ((nx + 1 : Nat) : Int)) (.int .u32 (mr2 : Int)) (.int .u32 (la2 : Int)) (.slice ax n2 cx))
              have R2 := hide (below5 (s := B5) (unhide BWK) hB5 (.int .u32 (va2 : Int)) (.int .u64 ((nx + 1 : Nat) : Int)) (.int .u32 (mr2 : Int)) (.int .u32 (la2 : Int)) (.slice ax n2 cx))
              rw [← unhide HN2] at R0 R1 R2
              clear KBK OX BWK KX
              have HN3 := HN2
              go_wp2
              rw [← unhide HN3]
              exact ⟨⟨k + 1, nx, ⟨va2, nx + 1, mr2, la2, ms2⟩, ax, cx, by go_num, rfl, by omega, by show nx < nx + 1; omega, HOKX, HF1, hide rfl, R0, R1, R2⟩, by simp [intOf]; omega⟩
            · have dk : ((kd : Int) == 1) = false := by simp; omega
              clear h1 HAPP
              have x0 := (unhide KX).cell 0
              have x1 := (unhide KX).cell 1
              have x2 := (unhide KX).cell 2
              have x3 := (unhide KX).cell 3
              have x4 := (unhide KX).cell 4
              simp only [List.getElem?_toArray, List.getElem?_cons_succ, List.getElem?_cons_zero] at x0 x1 x2 x3 x4
              have c1 := (unhide KBK).cell 1
              simp only [List.getElem?_toArray, List.getElem?_cons_succ, List.getElem?_cons_zero] at c1
              go_wp2_with fail
              refine (unhide HCK _ (unhide HTW _ (unhide BWK)) (unhide OX).row).mono ?_
              rintro e w5 ⟨rfl, b5⟩
              have KBK := hide ((unhide KBK).below b5)
              have KX := hide ((unhide KX).below b5)
              have OX := hide ((unhide OX).below b5)
              have BWK := hide (belows' (unhide BWK) b5)
              clear b5 HCK OT KC e0 c1 x0 x1 x2 x3 x4
              have x0 := (unhide KX).cell 0
              have x1 := (unhide KX).cell 1
              have x2 := (unhide KX).cell 2
              have x3 := (unhide KX).cell 3
              have x4 := (unhide KX).cell 4
              simp only [List.getElem?_toArray, List.getElem?_cons_succ, List.getElem?_cons_zero] at x0 x1 x2 x3 x4
              have c0 := (unhide KBK).cell 0
              have c1 := (unhide KBK).cell 1
              have c2 := (unhide KBK).cell 2
              have c3 := (unhide KBK).cell 3
              have c4 := (unhide KBK).cell 4
              simp only [List.getElem?_toArray, List.getElem?_cons_succ, List.getElem?_cons_zero] at c0 c1 c2 c3 c4
              have f0 := (unhide KBK).frozen 0
              have f1 := (unhide KBK).frozen 1
              have f2 := (unhide KBK).frozen 2
              have f3 := (unhide KBK).frozen 3
              have f4 := (unhide KBK).frozen 4
              have R0 := hide (blk_five (unhide KBK) (.int .u32 (va2 : Int)) (.int .u64 (nx2 : Int)) (.int .u32 (mr2 : Int)) (.int .u32 (la2 : Int)) (.slice ax n2 cx))
              have R1 := hide (outM5 (unhide OX) (unhide KBK) (by decide) (.int .u32 (va2 : Int)) (.int .u64 (nx2 : Int)) (.int .u32 (mr2 : Int)) (.int .u32 (la2 : Int)) (.slice ax n2 cx))
              have R2 := hide (below5 (s := B5) (unhide BWK) hB5 (.int .u32 (va2 : Int)) (.int .u64 (nx2 : Int)) (.int .u32 (mr2 : Int)) (.int .u32 (la2 : Int)) (.slice ax n2 cx))
              rw [← unhide HN2] at R0 R1 R2
              clear KBK OX BWK KX
              have HN3 := HN2
              go_wp2
              rw [← unhide HN3]
              exact ⟨⟨k + 1, last, ⟨va2, nx2, mr2, la2, ms2⟩, ax, cx, by go_num, rfl, by omega, by show last < nx2; omega, HOKX, HF1, hide rfl, R0, R1, R2⟩, by simp [intOf]; omega⟩
          · have dE : ((E1 : Int) != 0) = true := by simp; omega
            obtain ⟨hxb, ht0⟩ := unhide HN1 hE
            injection hxb with y1 y2 y3 y4 y5
            subst y1 y2 y3 y4 y5 ht0
            clear hE HY1 HN1 HCK KC
            have c0 := (unhide KBK).cell 0
            have c1 := (unhide KBK).cell 1
            have c2 := (unhide KBK).cell 2
            have c3 := (unhide KBK).cell 3
            have c4 := (unhide KBK).cell 4
            simp only [List.getElem?_toArray, List.getElem?_cons_succ, List.getElem?_cons_zero] at c0 c1 c2 c3 c4
            have x0 := (unhide KX).cell 0
            have x1 := (unhide KX).cell 1
            have x2 := (unhide KX).cell 2
            have x3 := (unhide KX).cell 3
            have x4 := (unhide KX).cell 4
            simp only [List.getElem?_toArray, List.getElem?_cons_succ, List.getElem?_cons_zero] at x0 x1 x2 x3 x4
            go_wp2_with fail
            refine (unhide HSM _ _ _ (unhide OX).row (unhide OMK).row).mono ?_
            rintro e w5 ⟨rfl, b5⟩
            have KBK := hide ((unhide KBK).below b5)
            have OMK := hide ((unhide OMK).below b5)
            have BWK := hide (belows' (unhide BWK) b5)
            clear b5 HSM OX OT KX c0 c1 c2 c3 c4 x0 x1 x2 x3 x4
            go_wp2
            exact ⟨⟨k + 1, last, ⟨va2, nx2, mr2, la2, ms2⟩, am, cm, by go_num, rfl, by omega, hlast, HOK, HFB, hide rfl, by show Hid (Blk _ _ _ (bxC _ (.slice am ms2.length cm))); rw [unhide HNM]; exact KBK, by show Hid (OutM _ (.slice am ms2.length cm) ms2); rw [unhide HNM]; exact OMK, BWK⟩, by simp [intOf]; omega⟩
      · have hlt1 : ¬ (k : Int) < (T : Int) := by omega
        have q1 := (unhide KBJ).cell 1
        simp only [bxC, List.getElem?_toArray, List.getElem?_cons_succ, List.getElem?_cons_zero] at q1
        have dz : decide (b.nx > last) = true := decide_eq_true (by omega)
        have dz2 : decide (last < b.nx) = true := decide_eq_true (by omega)
        have hn9 : b.nx ≤ 18446744073709551615 := (unhide HFB).2.1
        have hl9 : last ≤ 18446744073709551615 := by omega
        go_wp2
        go_ret
        exact ⟨rfl, unhide BJ⟩
end Go.Proofs.YtnhcpkcpgpobdaaDoor
