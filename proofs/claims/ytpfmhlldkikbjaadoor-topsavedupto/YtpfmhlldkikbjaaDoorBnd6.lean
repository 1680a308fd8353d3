/-
  A file system, files, texts and numbers that came in, and what the second form's bound says of them.
-/
import Derived.Test.YtpfmhlldkikbjaaDoorRows
import Derived.Test.YtpfmhlldkikbjaaDoorBnd5
import Derived.Deep.Slices
import Derived.Deep.Strs
import Derived.ProofKit
import Derived.OpenShut
import Derived.ChangeOld
set_option linter.unusedVariables false
namespace Go.Proofs.YtpfmhlldkikbjaaDoor
open Go.ChangeShapes Go.WideShapes Go.RowKit Go.Proofs.Dsk

theorem bulk_ge {H : Type} (f : Nat → DataW H) (n : Nat → Nat) : ∀ k : List Nat, (∀ i ∈ k, n i ≤ Rows.uptoBulk (f i)) → (k.map n).sum ≤ Rows.uptoBulkAll (k.map f)
  | [], _ => by simp [Rows.uptoBulkAll]
  | i :: r, h => by
    have h1 := h i (by simp)
    have h2 := bulk_ge f n r (fun j hj => h j (by simp [hj]))
    simp only [List.map_cons, Rows.uptoBulkAll, List.sum_cons]
    omega
theorem wf64 {n : Int} (h : (Lit.int .i64 n).wf = true) : -9223372036854775808 ≤ n ∧ n ≤ 9223372036854775807 := by
  simp only [Lit.wf, Bool.and_eq_true, decide_eq_true_eq] at h
  have h1 : IntKind.i64.min = -9223372036854775808 := by decide
  have h2 : IntKind.i64.max = 9223372036854775807 := by decide
  omega
theorem spot_none {W : World} {a : Addr} {v : Value} (h : W.cell? a = some v) : ∃ b off, a = ⟨b, off, none⟩ ∧ b < W.heap.size := by
  have hsp : a.spot = none := by
    cases hs : a.spot with
    | none => rfl
    | some y =>
      simp only [World.cell?, hs] at h
      split at h <;> simp at h
  obtain ⟨b, off, sp⟩ := a
  simp only at hsp
  subst hsp
  refine ⟨b, off, rfl, ?_⟩
  rcases Nat.lt_or_ge b W.heap.size with h' | h'
  · exact h'
  · simp [World.cell?, Array.getElem?_eq_none h'] at h
theorem add_lit0 (b off j : Nat) : Addr.add ⟨b, off, none⟩ j = ⟨b, off + j, none⟩ := by rw [Addr.add_lit]

/-- How much some files hold. -/
def sumF (l : List File) : Nat := (l.map fun f => f.name.size + f.data.size + 1).sum
def sumS (l : List ByteArray) : Nat := (l.map fun s => s.size + 1).sum

/-- A slice that lies nowhere is nil. -/
def NeatF (v : Value) : Prop := ∀ n cap, v = .slice none n cap → n = 0 ∧ cap = 0

set_option maxRecDepth 100000 in
theorem trod_file {H : Type} {enc : TypeId × Value → H} {W : World} {base : Nat} {held : Bool} {fuel : Nat} {cs : List Value} {x : DataW H × List MemPlace}
    (hf : DataW.trod enc Tryd.prog W base (fun _ => true) held fuel 69 cs = some x) : ∃ f : File, cs = cellsF f ∧ Fits f ∧ f.name.size + f.data.size + 1 ≤ Rows.uptoBulk x.1 := by
  obtain ⟨y0, y1, y2, n, rfl, hl, h0, h1, h2⟩ := Go.Deep.trod_struct3 Tryd.underlying69 hf
  have c3 : (Tryd.prog).cellsOf 69 = 3 := by kernel_rfl
  have cs1 : (Tryd.prog).cellsOf 9 = 1 := by kernel_rfl
  have ci1 : (Tryd.prog).cellsOf 3 = 1 := by kernel_rfl
  rw [c3] at hl
  match cs, hl with
  | [u0, u1, u2], _ =>
    simp only [cs1, ci1, List.drop_zero, List.drop_succ_cons, List.take_succ_cons, List.take_zero] at h0 h1 h2
    obtain ⟨s0, e0, f0, g0⟩ := DataW.trod_string Tryd.underlying9 h0
    obtain ⟨s1, e1, f1, g1⟩ := DataW.trod_string Tryd.underlying9 h1
    obtain ⟨s2, e2, f2, g2⟩ := DataW.trod_int Tryd.underlying3 h2
    simp only [List.cons.injEq, and_true] at e0 e1 e2
    subst e0 e1 e2
    have g3 := wf64 g2
    unfold maxLen at g0 g1
    refine ⟨⟨s0, s1, s2⟩, rfl, ⟨by show s0.size ≤ _; omega, by show s1.size ≤ _; omega, g3.1, g3.2⟩, ?_⟩
    rw [(Prod.mk.inj (show (y0.1, y0.2) = _ from f0)).1, (Prod.mk.inj (show (y1.1, y1.2) = _ from f1)).1, (Prod.mk.inj (show (y2.1, y2.2) = _ from f2)).1]
    simp [Rows.uptoBulk, Rows.uptoBulkAll]
    omega

theorem trod_rowF {H : Type} {enc : TypeId × Value → H} {W : World} {base : Nat} {held : Bool} {fuel : Nat} {cs : List Value} {x : DataW H × List MemPlace}
    (hf : DataW.trod enc Tryd.prog W base (fun _ => true) held fuel 29 cs = some x) : ∃ v l, cs = [v] ∧ RowF W v l ∧ NeatF v ∧ sumF l + 1 ≤ Rows.uptoBulk x.1 := by
  rcases Go.Deep.open_slice Tryd.underlying29 hf with ⟨rfl, rfl⟩ | ⟨a, len, cap, m, n, D, Pl, rfl, _, hl, hm, hmm, rfl, hx⟩
  · exact ⟨_, [], rfl, ⟨none, 0, rfl, by simp, by simp, Or.inl rfl⟩, fun n c h => by injection h with _ h1 h2; exact ⟨h1.symm, h2.symm⟩, by simp [Rows.uptoBulk, sumF]⟩
  · have hmc : m = cap := by simpa using hmm
    subst hmc
    have ce : (Tryd.prog).cellsOf 69 = 3 := by kernel_rfl
    have each : ∀ i, i < m → ∃ f : File, (∀ j u, (cellsF f)[j]? = some u → W.cell? ((a.add (i * 3)).add j) = some u) ∧ Fits f ∧ f.name.size + f.data.size + 1 ≤ Rows.uptoBulk (D i) := by
      intro i hi
      obtain ⟨cs', h1, h2⟩ := hx i hi
      rw [ce] at h1
      obtain ⟨f, rfl, hfit, hb⟩ := trod_file h2
      obtain ⟨_, _, hcell⟩ := World.cells?_some h1
      refine ⟨f, fun j u hj => ?_, hfit, hb⟩
      have hj3 : j < 3 := (List.getElem?_eq_some_iff.1 hj).1
      rw [hcell j (by omega)]
      simpa using hj
    obtain ⟨q, hq⟩ := Go.Deep.choose_lt each
    obtain ⟨l, hl'⟩ : ∃ l : List File, l = (List.range len).map q := ⟨_, rfl⟩
    have hll : l.length = len := by rw [hl']; simp
    have hget : ∀ i (h : i < l.length), l[i] = q i := fun i h => by simp [hl']
    refine ⟨_, l, rfl, ?_, fun n c h => by simp at h, ?_⟩
    · refine ⟨some a, m, by rw [hll], by unfold maxLen at hm; omega, fun y hy => ?_, ?_⟩
      · rw [hl'] at hy
        obtain ⟨i, hi, rfl⟩ := List.mem_map.1 hy
        exact (hq i (by have := List.mem_range.1 hi; omega)).2.1
      · by_cases h0 : len = 0
        · left; exact List.eq_nil_of_length_eq_zero (by omega)
        · right
          have hc0 := (hq 0 (by omega)).1 0 _ rfl
          have hx0 : (a.add (0 * 3)).add 0 = a := by simp [Addr.add]
          rw [hx0] at hc0
          obtain ⟨b, off, rfl, hb⟩ := spot_none hc0
          refine ⟨b, off, rfl, hb, fun j u hj => ?_⟩
          have hjl : j < l.length * 3 := by
            rcases Nat.lt_or_ge j (flatF l).length with h' | h'
            · rwa [flatF_length] at h'
            · rw [List.getElem?_eq_none h'] at hj; cases hj
          have hi : j / 3 < l.length := by omega
          have e : (flatF l).drop (j / 3 * 3) = cellsF l[j / 3] ++ flatF (l.drop (j / 3 + 1)) := by rw [← flatF_drop, List.drop_eq_getElem_cons hi, flatF_cons]
          have hg : (cellsF l[j / 3])[j % 3]? = some u := by
            have h1 : (flatF l)[j / 3 * 3 + j % 3]? = some u := by rw [show j / 3 * 3 + j % 3 = j by omega]; exact hj
            rw [← List.getElem?_drop, e, List.getElem?_append_left (by show j % 3 < 3; omega)] at h1
            exact h1
          rw [hget _ hi] at hg
          have := (hq (j / 3) (by omega)).1 (j % 3) u hg
          rw [add_lit0, add_lit0, show off + j / 3 * 3 + j % 3 = off + j by omega] at this
          exact this
    · have hb := bulk_ge D (fun i => (q i).name.size + (q i).data.size + 1) (List.range len) (fun i hi => (hq i (by have := List.mem_range.1 hi; omega)).2.2)
      have hs : sumF l = ((List.range len).map fun i => (q i).name.size + (q i).data.size + 1).sum := by rw [hl', sumF, List.map_map]; rfl
      simp only [Rows.uptoBulk]
      omega
end Go.Proofs.YtpfmhlldkikbjaaDoor

/-
  A file system, texts and numbers that came in.
-/
set_option linter.unusedVariables false
namespace Go.Proofs.YtpfmhlldkikbjaaDoor
open Go.ChangeShapes Go.WideShapes Go.RowKit Go.Proofs.Dsk

theorem sum_one1 : ∀ l : List Nat, (l.map fun _ => 1).sum = l.length
  | [] => rfl
  | _ :: r => by rw [List.map_cons, List.sum_cons, sum_one1 r, List.length_cons]; omega
set_option maxRecDepth 100000 in
theorem trod_fs {H : Type} {enc : TypeId × Value → H} {W : World} {base : Nat} {held : Bool} {fuel : Nat} {cs : List Value} {x : DataW H × List MemPlace}
    (hf : DataW.trod enc Tryd.prog W base (fun _ => true) held fuel 31 cs = some x) : ∃ (d : Fs) (v : Value), cs = (sysCells d v).toList ∧ RowF W v d.files ∧ FitAll d ∧ NeatF v ∧ sumF d.files + 1 ≤ Rows.uptoBulk x.1 := by
  obtain ⟨xs, n, _, rfl, hl, hlen, hx⟩ := DataW.trod_struct Tryd.underlying31 hf
  have c5 : (Tryd.prog).cellsOf 31 = 5 := by kernel_rfl
  have cf1 : (Tryd.prog).cellsOf 29 = 1 := by kernel_rfl
  have ci1 : (Tryd.prog).cellsOf 3 = 1 := by kernel_rfl
  have cb1 : (Tryd.prog).cellsOf 4 = 1 := by kernel_rfl
  rw [c5] at hl
  match xs, hlen with
  | [y0, y1, y2, y3, y4], _ =>
    have h0 := hx 0 _ rfl
    have h1 := hx 1 _ rfl
    have h2 := hx 2 _ rfl
    have h3 := hx 3 _ rfl
    have h4 := hx 4 _ rfl
    match cs, hl with
    | [u0, u1, u2, u3, u4], _ =>
      simp [cf1, ci1, cb1] at h0 h1 h2 h3 h4
      obtain ⟨s0, e0, f0, g0⟩ := DataW.trod_int Tryd.underlying3 h0
      obtain ⟨v, l, e1, hr, hnt, hb⟩ := trod_rowF h1
      obtain ⟨s2, e2, f2, g2⟩ := DataW.trod_int Tryd.underlying3 h2
      obtain ⟨s3, e3, f3, g3⟩ := DataW.trod_int Tryd.underlying3 h3
      obtain ⟨s4, e4, f4⟩ := DataW.trod_bool Tryd.underlying4 h4
      simp only [List.cons.injEq, and_true] at e0 e1 e2 e3 e4
      subst e0 e1 e2 e3 e4
      refine ⟨⟨s0, l, s2, s3, s4⟩, _, rfl, hr, ⟨⟨wf64 g0, wf64 g2, wf64 g3⟩, ?_, ?_⟩, hnt, ?_⟩
      · obtain ⟨_, _, _, _, h, _⟩ := hr; exact h
      · obtain ⟨_, _, _, h, _⟩ := hr; exact h
      · show sumF l + 1 ≤ _
        simp only [List.map_cons, List.map_nil, Rows.uptoBulk, Rows.uptoBulkAll]
        omega

set_option maxRecDepth 100000 in
/-- A file system that came in. -/
theorem open_fs {H : Type} {enc : TypeId × Value → H} {W : World} {base base' : Nat} {held : Bool} {fuel : Nat} {v : Value} {x : DataW H × List MemPlace} {r : Reach} (hv : Value.okWide Tryd.prog W r base' 31 v)
    (hf : DataW.trod enc Tryd.prog W base (fun _ => true) held fuel 31 v.cells.toList = some x) : ∃ (d : Fs) (a : Option Addr) (n cap : Nat), v = fsV d (.slice a n cap) ∧ RowF W (.slice a n cap) d.files ∧ FitAll d ∧ NeatF (.slice a n cap) ∧ sumF d.files + 1 ≤ Rows.uptoBulk x.1 := by
  obtain ⟨cs, rfl, _⟩ := okWide_struct Tryd.underlying31 hv
  obtain ⟨d, u, hc, hr, hfit, hnt, hb⟩ := trod_fs hf
  obtain ⟨a, cap, hu, _⟩ := id hr
  subst hu
  refine ⟨d, a, d.files.length, cap, ?_, hr, hfit, hnt, hb⟩
  have : cs = sysCells d (.slice a d.files.length cap) := by
    have h2 : cs.toList = (sysCells d (.slice a d.files.length cap)).toList := by simpa [Value.cells] using hc
    exact Array.toList_inj.1 h2
  rw [this]
  rfl

set_option maxRecDepth 100000 in
theorem trod_rowS {H : Type} {enc : TypeId × Value → H} {W : World} {base : Nat} {held : Bool} {fuel : Nat} {cs : List Value} {x : DataW H × List MemPlace}
    (hf : DataW.trod enc Tryd.prog W base (fun _ => true) held fuel 72 cs = some x) : ∃ v l, cs = [v] ∧ RowS W v l ∧ sumS l + 1 ≤ Rows.uptoBulk x.1 := by
  rcases Go.Deep.open_slice Tryd.underlying72 hf with ⟨rfl, rfl⟩ | ⟨a, len, cap, m, n, D, Pl, rfl, _, hl, hm, hmm, rfl, hx⟩
  · exact ⟨_, [], rfl, ⟨none, 0, rfl, by simp, by simp, Or.inl rfl⟩, by simp [Rows.uptoBulk, sumS]⟩
  · have hmc : m = cap := by simpa using hmm
    subst hmc
    have ce : (Tryd.prog).cellsOf 9 = 1 := by kernel_rfl
    have each : ∀ i, i < m → ∃ s : ByteArray, W.cell? (a.add i) = some (.string s) ∧ s.size ≤ maxLen ∧ s.size + 1 ≤ Rows.uptoBulk (D i) := by
      intro i hi
      obtain ⟨cs', h1, h2⟩ := hx i hi
      rw [ce, Nat.mul_one] at h1
      obtain ⟨s0, rfl, f0, g0⟩ := DataW.trod_string Tryd.underlying9 h2
      obtain ⟨_, _, hcell⟩ := World.cells?_some h1
      have hc0 := hcell 0 (by omega)
      have hx0 : (a.add i).add 0 = a.add i := by simp [Addr.add]
      rw [hx0] at hc0
      refine ⟨s0, by rw [hc0]; rfl, g0, ?_⟩
      rw [(Prod.mk.inj f0).1]; simp [Rows.uptoBulk]
    obtain ⟨q, hq⟩ := Go.Deep.choose_lt each
    obtain ⟨l, hl'⟩ : ∃ l : List ByteArray, l = (List.range len).map q := ⟨_, rfl⟩
    have hll : l.length = len := by rw [hl']; simp
    refine ⟨_, l, rfl, ?_, ?_⟩
    · refine ⟨some a, m, by rw [hll], by unfold maxLen at hm; omega, fun y hy => ?_, ?_⟩
      · rw [hl'] at hy
        obtain ⟨i, hi, rfl⟩ := List.mem_map.1 hy
        have := (hq i (by have := List.mem_range.1 hi; omega)).2.1
        unfold maxLen at this
        omega
      · by_cases h0 : len = 0
        · left; exact List.eq_nil_of_length_eq_zero (by omega)
        · right
          have hc0 := (hq 0 (by omega)).1
          have hx0 : a.add 0 = a := by simp [Addr.add]
          rw [hx0] at hc0
          obtain ⟨b, off, rfl, hb⟩ := spot_none hc0
          refine ⟨b, off, rfl, hb, fun j hj => ?_⟩
          have := (hq j (by omega)).1
          rw [add_lit0] at this
          rw [this]
          simp [hl']
    · have hb := bulk_ge D (fun i => (q i).size + 1) (List.range len) (fun i hi => (hq i (by have := List.mem_range.1 hi; omega)).2.2)
      have hs : sumS l = ((List.range len).map fun i => (q i).size + 1).sum := by rw [hl', sumS, List.map_map]; rfl
      simp only [Rows.uptoBulk]
      omega
set_option maxRecDepth 100000 in
theorem trod_rowI {H : Type} {enc : TypeId × Value → H} {W : World} {base : Nat} {held : Bool} {fuel : Nat} {cs : List Value} {x : DataW H × List MemPlace}
    (hf : DataW.trod enc Tryd.prog W base (fun _ => true) held fuel 23 cs = some x) : ∃ v l, cs = [v] ∧ RowI W v l ∧ l.length + 1 ≤ Rows.uptoBulk x.1 := by
  rcases Go.Deep.open_slice Tryd.underlying23 hf with ⟨rfl, rfl⟩ | ⟨a, len, cap, m, n, D, Pl, rfl, _, hl, hm, hmm, rfl, hx⟩
  · exact ⟨_, [], rfl, ⟨none, 0, rfl, by simp, by simp, Or.inl rfl⟩, by simp [Rows.uptoBulk]⟩
  · have hmc : m = cap := by simpa using hmm
    subst hmc
    have ce : (Tryd.prog).cellsOf 3 = 1 := by kernel_rfl
    have each : ∀ i, i < m → ∃ s : Int, W.cell? (a.add i) = some (.int .i64 s) ∧ (-9223372036854775808 ≤ s ∧ s ≤ 9223372036854775807) ∧ 1 ≤ Rows.uptoBulk (D i) := by
      intro i hi
      obtain ⟨cs', h1, h2⟩ := hx i hi
      rw [ce, Nat.mul_one] at h1
      obtain ⟨s0, rfl, f0, g0⟩ := DataW.trod_int Tryd.underlying3 h2
      obtain ⟨_, _, hcell⟩ := World.cells?_some h1
      have hc0 := hcell 0 (by omega)
      have hx0 : (a.add i).add 0 = a.add i := by simp [Addr.add]
      rw [hx0] at hc0
      refine ⟨s0, by rw [hc0]; rfl, wf64 g0, ?_⟩
      rw [(Prod.mk.inj f0).1]; simp [Rows.uptoBulk]
    obtain ⟨q, hq⟩ := Go.Deep.choose_lt each
    obtain ⟨l, hl'⟩ : ∃ l : List Int, l = (List.range len).map q := ⟨_, rfl⟩
    have hll : l.length = len := by rw [hl']; simp
    refine ⟨_, l, rfl, ?_, ?_⟩
    · refine ⟨some a, m, by rw [hll], by unfold maxLen at hm; omega, fun y hy => ?_, ?_⟩
      · rw [hl'] at hy
        obtain ⟨i, hi, rfl⟩ := List.mem_map.1 hy
        exact (hq i (by have := List.mem_range.1 hi; omega)).2.1
      · by_cases h0 : len = 0
        · left; exact List.eq_nil_of_length_eq_zero (by omega)
        · right
          have hc0 := (hq 0 (by omega)).1
          have hx0 : a.add 0 = a := by simp [Addr.add]
          rw [hx0] at hc0
          obtain ⟨b, off, rfl, hb⟩ := spot_none hc0
          refine ⟨b, off, rfl, hb, fun j hj => ?_⟩
          have := (hq j (by omega)).1
          rw [add_lit0] at this
          rw [this]
          simp [hl']
    · have hb := bulk_ge D (fun _ => 1) (List.range len) (fun i hi => (hq i (by have := List.mem_range.1 hi; omega)).2.2)
      have hs : ((List.range len).map fun _ => 1).sum = len := by rw [sum_one1, List.length_range]
      simp only [Rows.uptoBulk]
      omega
section
variable {H : Type} {enc : TypeId × Value → H} {W : World} {base : Nat} {held : Bool} {fuel : Nat} {v : Value} {x : DataW H × List MemPlace}
theorem open_rowF (hv : ∃ a len cap, v = .slice a len cap) (hf : DataW.trod enc Tryd.prog W base (fun _ => true) held fuel 29 v.cells.toList = some x) : ∃ l, RowF W v l ∧ sumF l + 1 ≤ Rows.uptoBulk x.1 := by
  obtain ⟨a, len, cap, rfl⟩ := hv
  obtain ⟨v, l, hc, hr, _, hs⟩ := trod_rowF hf
  simp [Value.cells] at hc
  subst hc
  exact ⟨l, hr, hs⟩
theorem open_rowS (hv : ∃ a len cap, v = .slice a len cap) (hf : DataW.trod enc Tryd.prog W base (fun _ => true) held fuel 72 v.cells.toList = some x) : ∃ l, RowS W v l ∧ sumS l + 1 ≤ Rows.uptoBulk x.1 := by
  obtain ⟨a, len, cap, rfl⟩ := hv
  obtain ⟨v, l, hc, hr, hs⟩ := trod_rowS hf
  simp [Value.cells] at hc
  subst hc
  exact ⟨l, hr, hs⟩
theorem open_rowI (hv : ∃ a len cap, v = .slice a len cap) (hf : DataW.trod enc Tryd.prog W base (fun _ => true) held fuel 23 v.cells.toList = some x) : ∃ l, RowI W v l ∧ List.length l + 1 ≤ Rows.uptoBulk x.1 := by
  obtain ⟨a, len, cap, rfl⟩ := hv
  obtain ⟨v, l, hc, hr, hs⟩ := trod_rowI hf
  simp [Value.cells] at hc
  subst hc
  exact ⟨l, hr, hs⟩
end
end Go.Proofs.YtpfmhlldkikbjaaDoor
