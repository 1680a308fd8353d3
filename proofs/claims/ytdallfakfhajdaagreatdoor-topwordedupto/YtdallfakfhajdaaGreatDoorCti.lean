/-
  A piece of a row of letters, as it is taken, over this seat's program.
-/
import Derived.Test.YtdallfakfhajdaaGreatDoorRec
set_option linter.unusedVariables false
namespace Go.Proofs.YtdallfakfhajdaaGreatDoor
open Go.RowKit Go.Proofs.Rns

/-- A piece of a row of letters. -/
def cutI (l : List Int) (f t : Nat) : List Int := (l.drop f).take (t - f)
theorem cutI_len (l : List Int) {f t : Nat} (h : t ≤ l.length) : (cutI l f t).length = t - f := by
  unfold cutI
  rw [List.length_take, List.length_drop]
  omega
theorem cut_rowI {w : World} {a : Option Addr} {cap : Nat} {l : List Int} {f t : Nat} (h : RowI w (.slice a l.length cap) l) (hft : f ≤ t) (htl : t ≤ l.length) (hcap : l.length ≤ cap) : RowI w (sliced a f t cap 1) (cutI l f t) := by
  obtain ⟨a', cap', hv, hn, hc⟩ := h
  injection hv with h1 h2 h3
  subst h1 h3
  have hlen := cutI_len l (f := f) htl
  refine ⟨if cap = f then a else a.map (·.add (f * 1)), cap - f, by unfold sliced; rw [hlen], fun n hm => hn n (List.mem_of_mem_drop (List.mem_of_mem_take hm)), ?_⟩
  rcases hc with hc | ⟨b, off, ha, hlt, hc⟩
  · left
    subst hc
    simp [cutI]
  · by_cases he : f = t
    · left
      subst he
      simp [cutI]
    · right
      refine ⟨b, off + f, ?_, hlt, fun j hj => ?_⟩
      · rw [if_neg (by omega), ha]
        simp [Addr.add]
      · rw [hlen] at hj
        have := hc (f + j) (by omega)
        rw [Nat.add_assoc, this]
        simp [cutI]
set_option maxRecDepth 100000 in
/-- The piece, as it is taken. -/
theorem cut_run (a : Option Addr) (n cap : Nat) (f t : Nat) (hft : f ≤ t) (htl : t ≤ cap) (w : World) :
    (Instr.slice 22 (.slice a n cap) (some (.int .i64 (f : Int))) (some (.int .i64 (t : Int))) none).run Tryz.prog w = .ok (sliced a f t cap 1) w := by
  rw [run_slice_lh (P := Tryz.prog) w 22 a n cap (by kernel_rfl) .i64 .i64 f t (by omega) (by omega) (by omega)]
  obtain ⟨i0, hi, hz0, hz1, hz2⟩ := info_parts rInfo
  have he : Tryz.prog.elem 22 = 21 := by kernel_rfl
  rw [he]
  go_simp

theorem cutI_take (l : List Int) (m : Nat) : cutI l 0 m = l.take m := by unfold cutI; simp
theorem cutI_drop (l : List Int) (m : Nat) : cutI l m l.length = l.drop m := by
  unfold cutI
  rw [List.take_of_length_le (by simp)]
set_option maxRecDepth 100000 in
theorem upto_run (a : Option Addr) (n cap : Nat) (t : Nat) (htl : t ≤ cap) (w : World) :
    (Instr.slice 22 (.slice a n cap) none (some (.int .i64 (t : Int))) none).run Tryz.prog w = .ok (sliced a 0 t cap 1) w := by
  rw [run_slice_h (P := Tryz.prog) w 22 a n cap (by kernel_rfl) .i64 t (by omega) (by omega)]
  have he : Tryz.prog.elem 22 = 21 := by kernel_rfl
  rw [he]
  go_simp
set_option maxRecDepth 100000 in
theorem from_run (a : Option Addr) (n cap : Nat) (f : Nat) (htl : f ≤ n) (w : World) :
    (Instr.slice 22 (.slice a n cap) (some (.int .i64 (f : Int))) none none).run Tryz.prog w = .ok (sliced a f n cap 1) w := by
  rw [run_slice_l (P := Tryz.prog) w 22 a n cap (by kernel_rfl) .i64 f (by omega) (by omega)]
  have he : Tryz.prog.elem 22 = 21 := by kernel_rfl
  rw [he]
  go_simp
end Go.Proofs.YtdallfakfhajdaaGreatDoor
