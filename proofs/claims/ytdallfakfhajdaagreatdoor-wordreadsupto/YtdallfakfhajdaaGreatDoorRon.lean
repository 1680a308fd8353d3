/-
  What the document's one of layer 6 does, over this seat's program.
-/
import Derived.Test.YtdallfakfhajdaaGreatDoorRof
import Derived.Laws.IdiomStrings
set_option linter.unusedVariables false
namespace Go.Proofs.YtdallfakfhajdaaGreatDoor
open Go.RowKit Go.Proofs.Rns

/-- A literal of bytes, as a string. -/
theorem lit_conv (w : World) (xs : List Int) (hx : ∀ x ∈ xs, 0 ≤ x ∧ x ≤ 255) (cs : Array Value) (hcs : cs = (xs.map fun x => Value.int .u8 x).toArray) (m : Nat) (hm : m = xs.length) :
    (convert 36 9 (.slice (some ⟨w.heap.size, 0, none⟩) m m)).run Tryz.prog (w.alloc (.cells cs 5)) = .ok (.string (bts (xs.map fun x => x.toNat.toUInt8))) (w.alloc (.cells cs 5)) := by
  subst hm
  have hl : xs.length = (xs.map fun x => x.toNat.toUInt8).length := by simp
  have h := run_convert_bytes_back (P := Tryz.prog) (w.alloc (.cells cs 5)) 36 9 5 ⟨w.heap.size, 0, none⟩ xs.length (xs.map fun x => x.toNat.toUInt8) Tryz.underlying36 Tryz.underlying5 Tryz.underlying9 (fun j hj => by
    have hj' : j < xs.length := by simpa using hj
    have hadd : Addr.add ⟨w.heap.size, 0, none⟩ j = ⟨w.heap.size, j, none⟩ := by simp only [Addr.add, Nat.zero_add]; split <;> simp_all
    rw [hadd]
    have hB : Blk (w.alloc (.cells cs 5)) w.heap.size 5 cs := Blk.new w _ _
    rw [Blk.cell hB, hcs]
    have hr := hx xs[j] (List.getElem_mem hj')
    simp [List.getElem?_eq_getElem hj']
    omega)
  rw [← hl] at h
  exact h

set_option maxHeartbeats 1000000 in
set_option maxRecDepth 100000 in
/-- The document's one. -/
theorem oneB_any (n : Int) (w : World) (h : isL n = true) :
    Calls Tryz.prog 85 #[.int .i32 n] w fun e w' => e = .returned (.string (bts (Lib.encodeRune n))) ∧ Below w.heap.size w w' := by
  have hn : 0 ≤ n ∧ n ≤ 1114111 ∧ (n < 55296 ∨ 57343 < n) := by simpa [isL] using h
  clear h
  obtain ⟨h0, h1, hs⟩ := hn
  have hb : Below w.heap.size w w := Below.refl _ _
  by_cases q1 : n < 128
  · have hc := lit_conv w [n] (by simp; omega) _ rfl 1 rfl
    rw [show Lib.encodeRune n = [n].map fun x => x.toNat.toUInt8 by unfold Lib.encodeRune; rw [Lib.encodeRuneZ_one h0 (by omega)]]
    generalize bts ([n].map fun x => x.toNat.toUInt8) = x at hc ⊢
    simp only [List.map_cons, List.map_nil] at hc
    clear hs
    go_enter Tryz.func85, Tryz.ntmps85
    go_wp2
    go_ret
    exact ⟨rfl, hb.alloc (Nat.le_refl _) _⟩
  by_cases q2 : n < 2048
  · have hc := lit_conv w [192 + n / 64, 128 + n % 64] (by simp; omega) _ rfl 2 rfl
    rw [show Lib.encodeRune n = [192 + n / 64, 128 + n % 64].map fun x => x.toNat.toUInt8 by unfold Lib.encodeRune; rw [Lib.encodeRuneZ_two (by omega) (by omega)]]
    generalize bts ([192 + n / 64, 128 + n % 64].map fun x => x.toNat.toUInt8) = x at hc ⊢
    simp only [List.map_cons, List.map_nil] at hc
    clear hs
    go_enter Tryz.func85, Tryz.ntmps85
    go_wp2
    go_ret
    exact ⟨rfl, hb.alloc (Nat.le_refl _) _⟩
  by_cases q3 : n < 65536
  · have hc := lit_conv w [224 + n / 4096, 128 + n / 64 % 64, 128 + n % 64] (by simp; omega) _ rfl 3 rfl
    rw [show Lib.encodeRune n = [224 + n / 4096, 128 + n / 64 % 64, 128 + n % 64].map fun x => x.toNat.toUInt8 by unfold Lib.encodeRune; rw [Lib.encodeRuneZ_three (by omega)]]
    generalize bts ([224 + n / 4096, 128 + n / 64 % 64, 128 + n % 64].map fun x => x.toNat.toUInt8) = x at hc ⊢
    simp only [List.map_cons, List.map_nil] at hc
    clear hs
    go_enter Tryz.func85, Tryz.ntmps85
    go_wp2
    go_ret
    exact ⟨rfl, hb.alloc (Nat.le_refl _) _⟩
  · have hc := lit_conv w [240 + n / 262144, 128 + n / 4096 % 64, 128 + n / 64 % 64, 128 + n % 64] (by simp; omega) _ rfl 4 rfl
    rw [show Lib.encodeRune n = [240 + n / 262144, 128 + n / 4096 % 64, 128 + n / 64 % 64, 128 + n % 64].map fun x => x.toNat.toUInt8 by unfold Lib.encodeRune; rw [Lib.encodeRuneZ_four (by omega) (by omega)]]
    generalize bts ([240 + n / 262144, 128 + n / 4096 % 64, 128 + n / 64 % 64, 128 + n % 64].map fun x => x.toNat.toUInt8) = x at hc ⊢
    simp only [List.map_cons, List.map_nil] at hc
    clear hs
    go_enter Tryz.func85, Tryz.ntmps85
    go_wp2
    go_ret
    exact ⟨rfl, hb.alloc (Nat.le_refl _) _⟩
end Go.Proofs.YtdallfakfhajdaaGreatDoor
