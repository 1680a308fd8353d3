/-
  What stands around missivetop.TopFolded: a name in the other letters, a piece of a row of letters, its folds, over this seat's program.
-/
import Derived.Test.YtekhfbbnlojcoaaDoorWhb
import Derived.Test.YtekhfbbnlojcoaaDoorByt
import Derived.Test.YtekhfbbnlojcoaaDoorFfo
import Derived.Test.YtekhfbbnlojcoaaDoorSkn
import Derived.Test.YtekhfbbnlojcoaaDoorBgn
set_option linter.unusedVariables false
namespace Go.Proofs.YtekhfbbnlojcoaaDoor
open Go.RowKit Go.Proofs.Hed Go.Proofs.Rns Go.Proofs.Fol Go.Proofs.Kmp

/-- A letter in the other letters. -/
def swB (c : UInt8) : UInt8 := if 97 ≤ c.toNat ∧ c.toNat ≤ 122 then c - 32 else if 65 ≤ c.toNat ∧ c.toNat ≤ 90 then c + 32 else c
theorem sm_sw (c : UInt8) : smB (swB c) = smB c := by
  have h : ∀ n : Fin 256, smB (swB (UInt8.ofNat n.val)) = smB (UInt8.ofNat n.val) := by decide +kernel
  have := h ⟨c.toNat, c.toNat_lt⟩
  simpa using this
theorem sw_small {c : UInt8} (h : 97 ≤ c.toNat ∧ c.toNat ≤ 122) : ((swB c).toNat : Int) = (c.toNat : Int) - 32 := by
  unfold swB
  rw [if_pos h, UInt8.toNat_sub]
  simp
  omega
theorem sw_great {c : UInt8} (h : 65 ≤ c.toNat ∧ c.toNat ≤ 90) : ((swB c).toNat : Int) = (c.toNat : Int) + 32 := by
  unfold swB
  rw [if_neg (by omega), if_pos h, UInt8.toNat_add]
  simp
  omega
theorem sw_none {c : UInt8} (h : ¬ (97 ≤ c.toNat ∧ c.toNat ≤ 122)) (h' : ¬ (65 ≤ c.toNat ∧ c.toNat ≤ 90)) : swB c = c := by
  unfold swB
  rw [if_neg h, if_neg h']
theorem found_sw {l : List Fld} {k : Nat} (hk : k < l.length) : l[k].2 ∈ allL (bts (l[k].1.data.toList.map swB)) l := by
  unfold allL
  rw [List.mem_map]
  refine ⟨l[k], List.mem_filter.mpr ⟨List.getElem_mem hk, ?_⟩, rfl⟩
  unfold called
  rw [decide_eq_true_iff, toList_bts]
  unfold smL
  rw [List.map_map]
  apply List.map_congr_left
  intro c _
  exact (sm_sw c).symm

/-- A piece of a row of letters. -/
def cutI (l : List Int) (f t : Nat) : List Int := (l.drop f).take (t - f)
theorem cutI_len (l : List Int) {f t : Nat} (h : t ≤ l.length) : (cutI l f t).length = t - f := by
  unfold cutI
  rw [List.length_take, List.length_drop]
  omega
theorem cut_fold (l : List Int) (f t : Nat) : decide (0 < places ((cutI l f t).map oneL) (l.map oneL)) = true := by
  rw [decide_eq_true_iff, places_pos]
  apply List.IsInfix.map
  exact (List.take_prefix _ _).isInfix.trans (List.drop_suffix _ _).isInfix
theorem cut_rowI {w : World} {a : Option Addr} {cap : Nat} {l : List Int} {f t : Nat} (h : RowI w (.slice a l.length cap) l) (hft : f ≤ t) (htl : t ≤ l.length) (hcap : l.length ≤ cap) : RowI w (sliced a f t cap 1) (cutI l f t) := by
  obtain ⟨a', cap', hv, hn, hc⟩ := h
  injection hv with h1 h2 h3
  subst h1 h3
  have hlen := cutI_len l (f := f) htl
  refine ⟨if cap = f then a else a.map (·.add (f * 1)), cap - f, by unfold sliced; rw [hlen], fun n hm => hn n (List.mem_of_mem_drop (List.mem_of_mem_take hm)), ?_⟩
  rcases hc with hc | ⟨b, off, ha, hlt, hc⟩
  · left
    subst hc
    simp [cutI]
  · by_cases he : f = t
    · left
      subst he
      simp [cutI]
    · right
      refine ⟨b, off + f, ?_, hlt, fun j hj => ?_⟩
      · rw [if_neg (by omega), ha]
        simp [Addr.add]
      · rw [hlen] at hj
        have := hc (f + j) (by omega)
        rw [Nat.add_assoc, this]
        simp [cutI]
set_option maxRecDepth 100000 in
/-- The piece, as it is taken. -/
theorem cut_run (a : Option Addr) (n cap : Nat) (f t : Nat) (hft : f ≤ t) (htl : t ≤ cap) (w : World) :
    (Instr.slice 37 (.slice a n cap) (some (.int .i64 (f : Int))) (some (.int .i64 (t : Int))) none).run Tryd.prog w = .ok (sliced a f t cap 1) w := by
  rw [run_slice_lh (P := Tryd.prog) w 37 a n cap (by kernel_rfl) .i64 .i64 f t (by omega) (by omega) (by omega)]
  obtain ⟨i0, hi, hz0, hz1, hz2⟩ := info_parts rInfo
  have he : Tryd.prog.elem 37 = 21 := by kernel_rfl
  rw [he]
  go_simp
end Go.Proofs.YtekhfbbnlojcoaaDoor
