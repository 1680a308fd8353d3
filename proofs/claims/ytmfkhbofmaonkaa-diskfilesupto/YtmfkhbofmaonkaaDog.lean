/-
  A file system, texts and numbers that came in.
-/
import Derived.Test.YtmfkhbofmaonkaaDof
set_option linter.unusedVariables false
namespace Go.Proofs.Ytmfkhbofmaonkaa
open Go.ChangeShapes Go.WideShapes Go.RowKit Go.Proofs.Dsk

theorem sum_one1 : ∀ l : List Nat, (l.map fun _ => 1).sum = l.length
  | [] => rfl
  | _ :: r => by rw [List.map_cons, List.sum_cons, sum_one1 r, List.length_cons]; omega
theorem trod_fs {H : Type} {enc : TypeId × Value → H} {W : World} {base : Nat} {held : Bool} {fuel : Nat} {cs : List Value} {x : DataW H × List MemPlace}
    (hf : DataW.trod enc Try.prog W base (fun _ => true) held fuel 24 cs = some x) : ∃ (d : Fs) (v : Value), cs = (sysCells d v).toList ∧ RowF W v d.files ∧ FitAll d ∧ NeatF v ∧ sumF d.files + 1 ≤ Rows.uptoBulk x.1 := by
  obtain ⟨xs, n, _, rfl, hl, hlen, hx⟩ := DataW.trod_struct Try.underlying24 hf
  have c5 : (Try.prog).cellsOf 24 = 5 := by kernel_rfl
  have cf1 : (Try.prog).cellsOf 22 = 1 := by kernel_rfl
  have ci1 : (Try.prog).cellsOf 3 = 1 := by kernel_rfl
  have cb1 : (Try.prog).cellsOf 4 = 1 := by kernel_rfl
  rw [c5] at hl
  match xs, hlen with
  | [y0, y1, y2, y3, y4], _ =>
    have h0 := hx 0 _ rfl
    have h1 := hx 1 _ rfl
    have h2 := hx 2 _ rfl
    have h3 := hx 3 _ rfl
    have h4 := hx 4 _ rfl
    match cs, hl with
    | [u0, u1, u2, u3, u4], _ =>
      simp [cf1, ci1, cb1] at h0 h1 h2 h3 h4
      obtain ⟨s0, e0, f0, g0⟩ := DataW.trod_int Try.underlying3 h0
      obtain ⟨v, l, e1, hr, hnt, hb⟩ := trod_rowF h1
      obtain ⟨s2, e2, f2, g2⟩ := DataW.trod_int Try.underlying3 h2
      obtain ⟨s3, e3, f3, g3⟩ := DataW.trod_int Try.underlying3 h3
      obtain ⟨s4, e4, f4⟩ := DataW.trod_bool Try.underlying4 h4
      simp only [List.cons.injEq, and_true] at e0 e1 e2 e3 e4
      subst e0 e1 e2 e3 e4
      refine ⟨⟨s0, l, s2, s3, s4⟩, _, rfl, hr, ⟨⟨wf64 g0, wf64 g2, wf64 g3⟩, ?_, ?_⟩, hnt, ?_⟩
      · obtain ⟨_, _, _, _, h, _⟩ := hr; exact h
      · obtain ⟨_, _, _, h, _⟩ := hr; exact h
      · show sumF l + 1 ≤ _
        simp only [List.map_cons, List.map_nil, Rows.uptoBulk, Rows.uptoBulkAll]
        omega

/-- A file system that came in. -/
theorem open_fs {H : Type} {enc : TypeId × Value → H} {W : World} {base base' : Nat} {held : Bool} {fuel : Nat} {v : Value} {x : DataW H × List MemPlace} {r : Reach} (hv : Value.okWide Try.prog W r base' 24 v)
    (hf : DataW.trod enc Try.prog W base (fun _ => true) held fuel 24 v.cells.toList = some x) : ∃ (d : Fs) (a : Option Addr) (n cap : Nat), v = fsV d (.slice a n cap) ∧ RowF W (.slice a n cap) d.files ∧ FitAll d ∧ NeatF (.slice a n cap) ∧ sumF d.files + 1 ≤ Rows.uptoBulk x.1 := by
  obtain ⟨cs, rfl, _⟩ := okWide_struct Try.underlying24 hv
  obtain ⟨d, u, hc, hr, hfit, hnt, hb⟩ := trod_fs hf
  obtain ⟨a, cap, hu, _⟩ := id hr
  subst hu
  refine ⟨d, a, d.files.length, cap, ?_, hr, hfit, hnt, hb⟩
  have : cs = sysCells d (.slice a d.files.length cap) := by
    have h2 : cs.toList = (sysCells d (.slice a d.files.length cap)).toList := by simpa [Value.cells] using hc
    exact Array.toList_inj.1 h2
  rw [this]
  rfl

theorem trod_rowS {H : Type} {enc : TypeId × Value → H} {W : World} {base : Nat} {held : Bool} {fuel : Nat} {cs : List Value} {x : DataW H × List MemPlace}
    (hf : DataW.trod enc Try.prog W base (fun _ => true) held fuel 30 cs = some x) : ∃ v l, cs = [v] ∧ RowS W v l ∧ sumS l + 1 ≤ Rows.uptoBulk x.1 := by
  rcases Go.Deep.open_slice Try.underlying30 hf with ⟨rfl, rfl⟩ | ⟨a, len, cap, m, n, D, Pl, rfl, _, hl, hm, hmm, rfl, hx⟩
  · exact ⟨_, [], rfl, ⟨none, 0, rfl, by simp, by simp, Or.inl rfl⟩, by simp [Rows.uptoBulk, sumS]⟩
  · have hmc : m = cap := by simpa using hmm
    subst hmc
    have ce : (Try.prog).cellsOf 9 = 1 := by kernel_rfl
    have each : ∀ i, i < m → ∃ s : ByteArray, W.cell? (a.add i) = some (.string s) ∧ s.size ≤ maxLen ∧ s.size + 1 ≤ Rows.uptoBulk (D i) := by
      intro i hi
      obtain ⟨cs', h1, h2⟩ := hx i hi
      rw [ce, Nat.mul_one] at h1
      obtain ⟨s0, rfl, f0, g0⟩ := DataW.trod_string Try.underlying9 h2
      obtain ⟨_, _, hcell⟩ := World.cells?_some h1
      have hc0 := hcell 0 (by omega)
      have hx0 : (a.add i).add 0 = a.add i := by simp [Addr.add]
      rw [hx0] at hc0
      refine ⟨s0, by rw [hc0]; rfl, g0, ?_⟩
      rw [(Prod.mk.inj f0).1]; simp [Rows.uptoBulk]
    obtain ⟨q, hq⟩ := Go.Deep.choose_lt each
    obtain ⟨l, hl'⟩ : ∃ l : List ByteArray, l = (List.range len).map q := ⟨_, rfl⟩
    have hll : l.length = len := by rw [hl']; simp
    refine ⟨_, l, rfl, ?_, ?_⟩
    · refine ⟨some a, m, by rw [hll], by unfold maxLen at hm; omega, fun y hy => ?_, ?_⟩
      · rw [hl'] at hy
        obtain ⟨i, hi, rfl⟩ := List.mem_map.1 hy
        have := (hq i (by have := List.mem_range.1 hi; omega)).2.1
        unfold maxLen at this
        omega
      · by_cases h0 : len = 0
        · left; exact List.eq_nil_of_length_eq_zero (by omega)
        · right
          have hc0 := (hq 0 (by omega)).1
          have hx0 : a.add 0 = a := by simp [Addr.add]
          rw [hx0] at hc0
          obtain ⟨b, off, rfl, hb⟩ := spot_none hc0
          refine ⟨b, off, rfl, hb, fun j hj => ?_⟩
          have := (hq j (by omega)).1
          rw [add_lit0] at this
          rw [this]
          simp [hl']
    · have hb := bulk_ge D (fun i => (q i).size + 1) (List.range len) (fun i hi => (hq i (by have := List.mem_range.1 hi; omega)).2.2)
      have hs : sumS l = ((List.range len).map fun i => (q i).size + 1).sum := by rw [hl', sumS, List.map_map]; rfl
      simp only [Rows.uptoBulk]
      omega
theorem trod_rowI {H : Type} {enc : TypeId × Value → H} {W : World} {base : Nat} {held : Bool} {fuel : Nat} {cs : List Value} {x : DataW H × List MemPlace}
    (hf : DataW.trod enc Try.prog W base (fun _ => true) held fuel 39 cs = some x) : ∃ v l, cs = [v] ∧ RowI W v l ∧ l.length + 1 ≤ Rows.uptoBulk x.1 := by
  rcases Go.Deep.open_slice Try.underlying39 hf with ⟨rfl, rfl⟩ | ⟨a, len, cap, m, n, D, Pl, rfl, _, hl, hm, hmm, rfl, hx⟩
  · exact ⟨_, [], rfl, ⟨none, 0, rfl, by simp, by simp, Or.inl rfl⟩, by simp [Rows.uptoBulk]⟩
  · have hmc : m = cap := by simpa using hmm
    subst hmc
    have ce : (Try.prog).cellsOf 3 = 1 := by kernel_rfl
    have each : ∀ i, i < m → ∃ s : Int, W.cell? (a.add i) = some (.int .i64 s) ∧ (-9223372036854775808 ≤ s ∧ s ≤ 9223372036854775807) ∧ 1 ≤ Rows.uptoBulk (D i) := by
      intro i hi
      obtain ⟨cs', h1, h2⟩ := hx i hi
      rw [ce, Nat.mul_one] at h1
      obtain ⟨s0, rfl, f0, g0⟩ := DataW.trod_int Try.underlying3 h2
      obtain ⟨_, _, hcell⟩ := World.cells?_some h1
      have hc0 := hcell 0 (by omega)
      have hx0 : (a.add i).add 0 = a.add i := by simp [Addr.add]
      rw [hx0] at hc0
      refine ⟨s0, by rw [hc0]; rfl, wf64 g0, ?_⟩
      rw [(Prod.mk.inj f0).1]; simp [Rows.uptoBulk]
    obtain ⟨q, hq⟩ := Go.Deep.choose_lt each
    obtain ⟨l, hl'⟩ : ∃ l : List Int, l = (List.range len).map q := ⟨_, rfl⟩
    have hll : l.length = len := by rw [hl']; simp
    refine ⟨_, l, rfl, ?_, ?_⟩
    · refine ⟨some a, m, by rw [hll], by unfold maxLen at hm; omega, fun y hy => ?_, ?_⟩
      · rw [hl'] at hy
        obtain ⟨i, hi, rfl⟩ := List.mem_map.1 hy
        exact (hq i (by have := List.mem_range.1 hi; omega)).2.1
      · by_cases h0 : len = 0
        · left; exact List.eq_nil_of_length_eq_zero (by omega)
        · right
          have hc0 := (hq 0 (by omega)).1
          have hx0 : a.add 0 = a := by simp [Addr.add]
          rw [hx0] at hc0
          obtain ⟨b, off, rfl, hb⟩ := spot_none hc0
          refine ⟨b, off, rfl, hb, fun j hj => ?_⟩
          have := (hq j (by omega)).1
          rw [add_lit0] at this
          rw [this]
          simp [hl']
    · have hb := bulk_ge D (fun _ => 1) (List.range len) (fun i hi => (hq i (by have := List.mem_range.1 hi; omega)).2.2)
      have hs : ((List.range len).map fun _ => 1).sum = len := by rw [sum_one1, List.length_range]
      simp only [Rows.uptoBulk]
      omega
section
variable {H : Type} {enc : TypeId × Value → H} {W : World} {base : Nat} {held : Bool} {fuel : Nat} {v : Value} {x : DataW H × List MemPlace}
theorem open_rowF (hv : ∃ a len cap, v = .slice a len cap) (hf : DataW.trod enc Try.prog W base (fun _ => true) held fuel 22 v.cells.toList = some x) : ∃ l, RowF W v l ∧ sumF l + 1 ≤ Rows.uptoBulk x.1 := by
  obtain ⟨a, len, cap, rfl⟩ := hv
  obtain ⟨v, l, hc, hr, _, hs⟩ := trod_rowF hf
  simp [Value.cells] at hc
  subst hc
  exact ⟨l, hr, hs⟩
theorem open_rowS (hv : ∃ a len cap, v = .slice a len cap) (hf : DataW.trod enc Try.prog W base (fun _ => true) held fuel 30 v.cells.toList = some x) : ∃ l, RowS W v l ∧ sumS l + 1 ≤ Rows.uptoBulk x.1 := by
  obtain ⟨a, len, cap, rfl⟩ := hv
  obtain ⟨v, l, hc, hr, hs⟩ := trod_rowS hf
  simp [Value.cells] at hc
  subst hc
  exact ⟨l, hr, hs⟩
theorem open_rowI (hv : ∃ a len cap, v = .slice a len cap) (hf : DataW.trod enc Try.prog W base (fun _ => true) held fuel 39 v.cells.toList = some x) : ∃ l, RowI W v l ∧ List.length l + 1 ≤ Rows.uptoBulk x.1 := by
  obtain ⟨a, len, cap, rfl⟩ := hv
  obtain ⟨v, l, hc, hr, hs⟩ := trod_rowI hf
  simp [Value.cells] at hc
  subst hc
  exact ⟨l, hr, hs⟩
end
end Go.Proofs.Ytmfkhbofmaonkaa
