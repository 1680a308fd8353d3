/-
  A slice of letters that came in, as letters; what the second form's bound says of it.
-/
import Derived.Test.YtdallfakfhajdaaGreatDoorRtt
import Derived.Test.YtdallfakfhajdaaGreatDoorRsm
import Derived.ProofKit
import Derived.OpenShut
import Derived.ChangeOld
import Derived.SliceStrings
set_option linter.unusedVariables false
namespace Go.Proofs.YtdallfakfhajdaaGreatDoor
open Go.ChangeShapes Go.RowKit Go.Proofs.Rns

theorem bulk_lits {H : Type} (k : IntKind) (l : List Int) : Rows.uptoBulkAll (H := H) (lits k l) = l.length := by
  induction l with
  | nil => rfl
  | cons n r ih =>
    show Rows.uptoBulk (DataW.lit (.int k n)) + Rows.uptoBulkAll (lits k r) = _
    rw [ih]
    simp [Rows.uptoBulk]
    omega

theorem i32_range {n : Int} (h : (Lit.int .i32 n).wf = true) : -2147483648 ≤ n ∧ n ≤ 2147483647 := by
  simpa [Lit.wf, IntKind.min, IntKind.max, IntKind.signed, IntKind.bits] using h

theorem open_rowI {H : Type} {enc : TypeId × Value → H} {W : World} {base : Nat} {held : Bool} {fuel : Nat} {v : Value} {x : DataW H × List MemPlace} (hv : ∃ a len cap, v = .slice a len cap)
    (hf : DataW.trod enc Tryz.prog W base (fun _ => true) held fuel 22 v.cells.toList = some x) : ∃ l, RowI W v l ∧ l.length + 1 ≤ Rows.uptoBulk x.1 := by
  obtain ⟨a, len, cap, rfl⟩ := hv
  rcases open_ints Tryz.underlying22 Tryz.underlying21 (by kernel_rfl) hf with ⟨hcs, rfl⟩ | ⟨y, l, c, zs, hcs, _, hl, hm, hz, rfl, hcell, hwz⟩
  · simp [Value.cells] at hcs
    obtain ⟨rfl, rfl, rfl⟩ := hcs
    exact ⟨[], ⟨none, 0, rfl, by simp, Or.inl rfl⟩, by simp [Rows.uptoBulk]⟩
  · simp [Value.cells] at hcs
    obtain ⟨rfl, rfl, rfl⟩ := hcs
    have hzl : zs.length = cap := by simpa using hz
    have hlen : (zs.take len).length = len := by simp; omega
    refine ⟨zs.take len, ⟨some y, cap, by rw [hlen], fun n hn => i32_range (hwz n (List.mem_of_mem_take hn)), ?_⟩, ?_⟩
    · by_cases h0 : len = 0
      · left; subst h0; simp
      · right
        have hc0 := hcell 0 (by omega)
        have hx0 : y.add 0 = y := by simp [Addr.add]
        rw [hx0] at hc0
        have hsp : y.spot = none := by
          cases hs : y.spot with
          | none => rfl
          | some q =>
            simp only [World.cell?, hs] at hc0
            split at hc0 <;> simp at hc0
        obtain ⟨b, off, sp⟩ := y
        simp only at hsp
        subst hsp
        refine ⟨b, off, rfl, ?_, ?_⟩
        · rcases Nat.lt_or_ge b W.heap.size with h' | h'
          · exact h'
          · simp [World.cell?, Array.getElem?_eq_none h'] at hc0
        · intro j hj
          rw [hlen] at hj
          have hcj := hcell j (by omega)
          have ha : Addr.add ⟨b, off, none⟩ j = ⟨b, off + j, none⟩ := by
            unfold Addr.add
            by_cases h0 : j = 0
            · simp [h0]
            · simp [h0]
          rw [ha] at hcj
          rw [hcj]
          have hjz : j < zs.length := by omega
          simp [List.getD, List.getElem?_eq_getElem hjz]
    · simp only [Rows.uptoBulk, bulk_lits]
      omega

/-- A slice that lies nowhere is nil. -/
def Neat (v : Value) : Prop := ∀ n cap, v = .slice none n cap → n = 0 ∧ cap = 0
theorem open_neat {H : Type} {enc : TypeId × Value → H} {W : World} {base : Nat} {held : Bool} {fuel : Nat} {v : Value} {x : DataW H × List MemPlace} (hv : ∃ a len cap, v = .slice a len cap)
    (hf : DataW.trod enc Tryz.prog W base (fun _ => true) held fuel 22 v.cells.toList = some x) : Neat v := by
  obtain ⟨a, len, cap, rfl⟩ := hv
  rcases open_ints Tryz.underlying22 Tryz.underlying21 (by kernel_rfl) hf with ⟨hcs, rfl⟩ | ⟨y, l, c, zs, hcs, _, hl, hm, hz, rfl, hcell, hwz⟩
  · simp [Value.cells] at hcs
    obtain ⟨rfl, rfl, rfl⟩ := hcs
    intro n cap h
    simp at h
    exact ⟨h.1.symm, h.2.symm⟩
  · simp [Value.cells] at hcs
    obtain ⟨rfl, rfl, rfl⟩ := hcs
    intro n cap h
    simp at h

theorem open_lecap {H : Type} {enc : TypeId × Value → H} {W : World} {base : Nat} {held : Bool} {fuel : Nat} {a : Option Addr} {len cap : Nat} {x : DataW H × List MemPlace}
    (hf : DataW.trod enc Tryz.prog W base (fun _ => true) held fuel 22 (Value.slice a len cap).cells.toList = some x) : len ≤ cap := by
  rcases open_ints Tryz.underlying22 Tryz.underlying21 (by kernel_rfl) hf with ⟨hcs, rfl⟩ | ⟨y, l, c, zs, hcs, _, hl, hm, hz, rfl, hcell, hwz⟩
  · simp [Value.cells] at hcs
    obtain ⟨rfl, rfl, rfl⟩ := hcs
    exact Nat.le_refl _
  · simp [Value.cells] at hcs
    obtain ⟨rfl, rfl, rfl⟩ := hcs
    omega

/-- The five tables, as the witness lays them. -/
def laidArr (g : Nat) : Array Value :=
  if g = 0 then namesC.toArray else
  if g = 2 then (winT.map fun n : Nat => Value.int .i32 (n : Int)).toArray
  else if g = 3 then (lat9T.map fun n : Nat => Value.int .i32 (n : Int)).toArray
  else if g = 5 then ((List.range 256).map fun c => Value.int .u8 (Lib.firstT c : Int)).toArray
  else ((List.range 16).flatMap fun i => [Value.int .u8 (Lib.accLo i : Int), Value.int .u8 (Lib.accHi i : Int)]).toArray
def laidObj (g : Nat) : Obj → Obj
  | .cells _ t frozen => .cells (laidArr g) t frozen
  | o => o
end Go.Proofs.YtdallfakfhajdaaGreatDoor
