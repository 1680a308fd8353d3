/-
  The answers that the document gives (missivelaw04.lives).
-/
import Derived.Test.YtmfkhbofmaonkaaDcw
import Derived.Test.YtmfkhbofmaonkaaDrn
import Derived.Test.YtmfkhbofmaonkaaDli
set_option linter.unusedVariables false
set_option linter.unusedSimpArgs false
namespace Go.Proofs.Ytmfkhbofmaonkaa
open Go.RowKit Go.Proofs.Dsk

def L1 : Fs := ⟨10, [], -1, -1, false⟩
def L2 : Fs := ⟨10, [⟨⟨#[97]⟩, ⟨#[]⟩, 0⟩], -1, -1, false⟩
def L3 : Fs := ⟨10, [⟨⟨#[97]⟩, ⟨#[97, 98]⟩, 0⟩], -1, -1, false⟩
def L4 : Fs := ⟨10, [⟨⟨#[97]⟩, ⟨#[97, 98]⟩, 2⟩], -1, -1, false⟩
def L5 : Fs := ⟨10, [⟨⟨#[97]⟩, ⟨#[97, 98, 99, 100]⟩, 2⟩], -1, -1, false⟩
def L6 : Fs := ⟨10, [⟨⟨#[97]⟩, ⟨#[97, 98, 99]⟩, 3⟩], -1, -1, false⟩
def L8 : Fs := ⟨10, [⟨⟨#[98]⟩, ⟨#[97, 98, 99]⟩, 3⟩], -1, -1, false⟩
def L10 : Fs := ⟨10, [⟨⟨#[98]⟩, ⟨#[97]⟩, 1⟩], -1, -1, false⟩
def L11 : Fs := ⟨10, [], -1, -1, false⟩
theorem l1_is : makeR 10 = (L1, 0) := by decide
theorem l2_is : createR L1 ⟨#[97]⟩ = (L2, 0) := by decide
theorem l3_is : appendR L2 ⟨#[97]⟩ [⟨#[97]⟩, ⟨#[98]⟩] = (L3, 0) := by decide
theorem l4_is : syncR L3 ⟨#[97]⟩ = (L4, 0) := by decide
theorem l5_is : appendR L4 ⟨#[97]⟩ [⟨#[99, 100]⟩] = (L5, 0) := by decide
theorem l6_is : crashR L5 [1] = (L6, 0) := by decide
theorem l7_is : readR L6 ⟨#[97]⟩ = (⟨#[97, 98, 99]⟩, 0) := by decide
theorem l8_is : renameR L6 ⟨#[97]⟩ ⟨#[98]⟩ = (L8, 0) := by decide
theorem l9_is : listR L8 = ([⟨#[98]⟩], 0) := by decide
theorem l10_is : cutR L8 ⟨#[98]⟩ 1 = (L10, 0) := by decide
theorem l11_is : deleteR L10 ⟨#[98]⟩ = (L11, 0) := by decide
theorem l12_is : readR L11 ⟨#[98]⟩ = (ByteArray.empty, 3) := by decide
theorem l13_is : appendR L8 ⟨#[98]⟩ [⟨#[49, 50, 51, 52, 53, 54, 55, 56]⟩] = (L8, 8) := by decide
theorem l14_is : right L10 = true := by decide
theorem RowF.form {w : World} {v : Value} {l : List File} {n : Nat} (h : RowF w v l) (hn : l.length = n) : ∃ a cap, v = .slice a n cap := by
  obtain ⟨a, cap, hv, _⟩ := h
  exact ⟨a, cap, by rw [hv, hn]⟩
theorem RowS.form {w : World} {v : Value} {l : List ByteArray} {n : Nat} (h : RowS w v l) (hn : l.length = n) : ∃ a cap, v = .slice a n cap := by
  obtain ⟨a, cap, hv, _⟩ := h
  exact ⟨a, cap, by rw [hv, hn]⟩
theorem rowS_new (w : World) (p : Nat) (hp : p = w.heap.size) (l : List ByteArray) (n : Nat) (hn : l.length = n) (h6 : n ≤ 1024) (hs : ∀ s ∈ l, s.size ≤ 1024) : RowS (w.alloc (Obj.cells (l.map Value.string).toArray 9)) (.slice (some ⟨p, 0, none⟩) n n) l := by
  subst hn
  subst hp
  refine ⟨_, l.length, rfl, by omega, fun s h => Nat.le_trans (hs s h) (by omega), Or.inr ⟨w.heap.size, 0, rfl, by simp, fun j hj => ?_⟩⟩
  rw [Nat.zero_add, (Blk.new w _ _).cell j]
  simp [List.getElem?_eq_getElem hj]
theorem rowI_new (w : World) (p : Nat) (hp : p = w.heap.size) : RowI (w.alloc (Obj.cells #[.int .i64 1] 3)) (.slice (some ⟨p, 0, none⟩) 1 1) [1] := by
  subst hp
  exact ⟨_, 1, rfl, by simp, by simp, Or.inr ⟨w.heap.size, 0, rfl, by simp, fun j hj => by
    have : j = 0 := by simpa using hj
    subst this
    rw [Nat.zero_add, (Blk.new w _ _).cell 0]
    rfl⟩⟩

theorem fit1 : FitAll L1 := ⟨⟨⟨by decide, by decide⟩, ⟨by decide, by decide⟩, ⟨by decide, by decide⟩⟩, fun f hf => by simp [L1] at hf, by decide⟩
theorem fit2 : FitAll L2 := ⟨⟨⟨by decide, by decide⟩, ⟨by decide, by decide⟩, ⟨by decide, by decide⟩⟩, fun f hf => by
  have h : f = L2.files[0] := by simpa [L2] using hf
  rw [h]
  exact ⟨by decide, by decide, by decide, by decide⟩, by decide⟩
theorem fit3 : FitAll L3 := ⟨⟨⟨by decide, by decide⟩, ⟨by decide, by decide⟩, ⟨by decide, by decide⟩⟩, fun f hf => by
  have h : f = L3.files[0] := by simpa [L3] using hf
  rw [h]
  exact ⟨by decide, by decide, by decide, by decide⟩, by decide⟩
theorem fit4 : FitAll L4 := ⟨⟨⟨by decide, by decide⟩, ⟨by decide, by decide⟩, ⟨by decide, by decide⟩⟩, fun f hf => by
  have h : f = L4.files[0] := by simpa [L4] using hf
  rw [h]
  exact ⟨by decide, by decide, by decide, by decide⟩, by decide⟩
theorem fit5 : FitAll L5 := ⟨⟨⟨by decide, by decide⟩, ⟨by decide, by decide⟩, ⟨by decide, by decide⟩⟩, fun f hf => by
  have h : f = L5.files[0] := by simpa [L5] using hf
  rw [h]
  exact ⟨by decide, by decide, by decide, by decide⟩, by decide⟩
theorem fit6 : FitAll L6 := ⟨⟨⟨by decide, by decide⟩, ⟨by decide, by decide⟩, ⟨by decide, by decide⟩⟩, fun f hf => by
  have h : f = L6.files[0] := by simpa [L6] using hf
  rw [h]
  exact ⟨by decide, by decide, by decide, by decide⟩, by decide⟩
theorem fit8 : FitAll L8 := ⟨⟨⟨by decide, by decide⟩, ⟨by decide, by decide⟩, ⟨by decide, by decide⟩⟩, fun f hf => by
  have h : f = L8.files[0] := by simpa [L8] using hf
  rw [h]
  exact ⟨by decide, by decide, by decide, by decide⟩, by decide⟩
theorem fit10 : FitAll L10 := ⟨⟨⟨by decide, by decide⟩, ⟨by decide, by decide⟩, ⟨by decide, by decide⟩⟩, fun f hf => by
  have h : f = L10.files[0] := by simpa [L10] using hf
  rw [h]
  exact ⟨by decide, by decide, by decide, by decide⟩, by decide⟩
theorem fit11 : FitAll L11 := ⟨⟨⟨by decide, by decide⟩, ⟨by decide, by decide⟩, ⟨by decide, by decide⟩⟩, fun f hf => by simp [L11] at hf, by decide⟩
end Go.Proofs.Ytmfkhbofmaonkaa
