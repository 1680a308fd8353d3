/-
  What cmp.Compare at uint32, and slices.SortFunc by a span's lesser end do, over this seat's program.
-/
import Derived.Test.YtihgmpebpkjmkaaGreatDoorNwe
import Derived.Test.YtihgmpebpkjmkaaGreatDoorSho
set_option linter.unusedVariables false
namespace Go.Proofs.YtihgmpebpkjmkaaGreatDoor
open Go.RowKit Go.Shelf Go.Sort Go.Lib Go.Proofs.Nst

theorem isNaN_any (x : Nat) (w : World) : Calls Tryz.prog 55 #[.int .u32 (x : Int)] w fun e w' => e = .returned (.bool false) ∧ w' = w := by
  have h : ((x : Int) == (x : Int)) = true := by simp
  go_enter Tryz.func55, Tryz.ntmps55
  go_wp2
  go_ret
  exact ⟨by simp, rfl⟩
set_option maxHeartbeats 400000 in
theorem compare_any (x y : Nat) (w : World) : Calls Tryz.prog 31 #[.int .u32 (x : Int), .int .u32 (y : Int)] w fun e w' => e = .returned (.int .i64 (Lib.compareInt (x : Int) (y : Int))) ∧ w' = w := by
  have HX := hide (fun W => isNaN_any x W)
  have HY := hide (fun W => isNaN_any y W)
  have HC : Hid (Lib.compareInt (x : Int) (y : Int) = if (x : Int) < y then -1 else if (x : Int) > y then 1 else 0) := hide rfl
  go_enter Tryz.func31, Tryz.ntmps31
  go_wp2_with fail
  refine (unhide HX _).mono ?_
  rintro e w1 ⟨rfl, hw1⟩
  subst hw1
  go_wp2_with fail
  refine (unhide HY _).mono ?_
  rintro e w2 ⟨rfl, hw2⟩
  subst hw2
  by_cases h1 : (x : Int) < (y : Int)
  · have HV : Hid (Lib.compareInt (x : Int) (y : Int) = -1) := hide (by rw [unhide HC, if_pos h1])
    go_wp2
    go_ret
    exact ⟨by rw [unhide HV]; rfl, rfl⟩
  · by_cases h2 : (x : Int) > (y : Int)
    · have HV : Hid (Lib.compareInt (x : Int) (y : Int) = 1) := hide (by rw [unhide HC, if_neg h1, if_pos h2])
      go_wp2
      go_ret
      exact ⟨by rw [unhide HV]; rfl, rfl⟩
    · have HV : Hid (Lib.compareInt (x : Int) (y : Int) = 0) := hide (by rw [unhide HC, if_neg h1, if_neg h2])
      go_wp2
      go_ret
      exact ⟨by rw [unhide HV]; rfl, rfl⟩
def cfS (x y : Sp) : Int := Lib.compareInt (x.1 : Int) (y.1 : Int)
theorem ltS (x y : Sp) : ltOf cfS x y = decide (x.1 < y.1) := by
  unfold ltOf cfS Lib.compareInt
  by_cases h1 : (x.1 : Int) < (y.1 : Int)
  · have : x.1 < y.1 := by omega
    simp [h1, this]
  · have h3 : ¬ x.1 < y.1 := by omega
    by_cases h2 : (x.1 : Int) > (y.1 : Int) <;> simp [h1, h2, h3]
theorem swoS : SWO (ltOf cfS) where
  irrefl x := by rw [ltS]; simp
  trans x y z h1 h2 := by rw [ltS] at *; simp at *; omega
  ntrans x y z h1 h2 := by rw [ltS] at *; simp at *; omega
set_option maxHeartbeats 400000 in
theorem less_any (x y : Sp) (W : World) : Calls Tryz.prog 54 #[.agg #[.int .u32 (x.1 : Int), .int .u32 (x.2 : Int)], .agg #[.int .u32 (y.1 : Int), .int .u32 (y.2 : Int)]] W fun e w' => e = .returned (.int .i64 (cfS x y)) ∧ w' = (W.alloc (.cells #[.int .u32 (x.1 : Int), .int .u32 (x.2 : Int)] 79)).alloc (.cells #[.int .u32 (y.1 : Int), .int .u32 (y.2 : Int)] 79) := by
  have HC := hide (fun W => compare_any x.1 y.1 W)
  have HE : Hid (cfS x y = Lib.compareInt (x.1 : Int) (y.1 : Int)) := hide rfl
  generalize x.1 = x1 at HC HE ⊢
  generalize y.1 = y1 at HC HE ⊢
  go_enter Tryz.func54, Tryz.ntmps54
  go_wp2_with fail
  refine (unhide HC _).mono ?_
  rintro e w1 ⟨rfl, hw1⟩
  subst hw1
  go_wp2
  go_ret
  exact ⟨by rw [unhide HE]; rfl, rfl⟩
theorem cmpS (blk off size : Nat) (w : World) : CmpLays Tryz.prog 54 #[] cellsS 2 cfS blk off size w := by
  intro m os dk hs x y
  refine (less_any x y _).mono ?_
  rintro e w' ⟨rfl, rfl⟩
  refine ⟨rfl, 0, #[.cells #[.int .u32 (x.1 : Int), .int .u32 (x.2 : Int)] 79, .cells #[.int .u32 (y.1 : Int), .int .u32 (y.2 : Int)] 79], ?_⟩
  rw [alloc_eq_grow, alloc_eq_grow, grow_grow]
  rfl
theorem below_sort {w : World} {blk off n : Nat} {d : Array Sp} {os : Array Obj} (hblk : blk < w.heap.size) : Below blk w (sortWorldK cellsS 2 w blk off n d os) := by
  unfold sortWorldK putRowK putRow mapBlock Sort.ahead grow
  refine ⟨rfl, rfl, rfl, ?_, fun k hk => ?_⟩
  · simp
  · have hks : k < w.heap.size := by omega
    simp only [Array.getElem?_append]
    rw [if_pos (by simpa using hks), Array.getElem?_modify, if_neg (by omega)]
theorem flatK_get (L : List Sp) (j : Nat) (hj : j < L.length * 2) : (flatK cellsS 2 L.toArray)[j]! = ((flatG cellsS L)[j]?).getD default := by
  rw [get_flatK cellsS 2 L.toArray j (by simpa using hj)]
  have h1 := flatG_get cellsS_len L (j / 2) (by omega) (j % 2) (by omega)
  rw [show j / 2 * 2 + j % 2 = j by omega] at h1
  rw [h1, getElem!_pos L.toArray (j / 2) (by simp; omega)]
  simp only [List.getElem_toArray]
  have h2 : j % 2 = 0 ∨ j % 2 = 1 := by omega
  rcases h2 with h2 | h2 <;> rw [h2] <;> rfl
theorem holds_own {w : World} {B g cap : Nat} {L : List Sp} (h : w.ownsRow B 79 2 (.slice (some ⟨g, 0, none⟩) L.length cap) L.length (flatG cellsS L)) : HoldsK cellsS 2 w g 0 L.toArray := by
  intro j hj
  rw [size_flatK] at hj
  simp only [List.size_toArray] at hj
  obtain ⟨g', cap', hv, hg, hgl, hcell, hfz⟩ := ownG_at cellsS_len h (j := j / 2) (by omega)
  injection hv with e1
  injection e1 with e1
  injection e1 with e1
  subst e1
  have h1 := hcell (j % 2) (by omega)
  rw [show j / 2 * 2 + j % 2 = j by omega] at h1
  refine ⟨?_, by rw [Nat.zero_add]; exact hfz j⟩
  rw [Nat.zero_add, h1, flatK_get L j hj]
  have h2 := flatG_get cellsS_len L (j / 2) (by omega) (j % 2) (by omega)
  rw [show j / 2 * 2 + j % 2 = j by omega] at h2
  rw [h2]
  have h3 : j % 2 = 0 ∨ j % 2 = 1 := by omega
  rcases h3 with h3 | h3 <;> rw [h3] <;> rfl
theorem row_holds {w : World} {g cap : Nat} {R : List Sp} (h : HoldsK cellsS 2 w g 0 R.toArray) (hg : g < w.heap.size) (hl : R.length ≤ 4194304) (hf : ∀ x ∈ R, FitS x) : RowSp w (.slice (some ⟨g, 0, none⟩) R.length cap) R := by
  refine ⟨_, _, rfl, by omega, hf, .inr ⟨g, 0, rfl, hg, fun j u hj => ?_⟩⟩
  have hjl : j < R.length * 2 := by
    rcases Nat.lt_or_ge j (flatG cellsS R).length with h' | h'
    · rwa [flatG_length cellsS_len] at h'
    · rw [List.getElem?_eq_none h'] at hj; cases hj
  have h1 := (h j (by rw [size_flatK]; simpa using hjl)).1
  rw [flatK_get R j hjl, hj] at h1
  exact h1
/-- Sorting spans of the call's own by their lesser ends. -/
theorem sort_any (B g cap : Nat) (L : List Sp) (w : World) (h : w.ownsRow B 79 2 (.slice (some ⟨g, 0, none⟩) L.length cap) L.length (flatG cellsS L)) (hl : L.length ≤ 4194304) (hgB : B ≤ g) (hg : g < w.heap.size) (hf : ∀ x ∈ L, FitS x) :
    Calls Tryz.prog 53 #[.slice (some ⟨g, 0, none⟩) L.length cap, .func (.func 54) #[] #[]] w fun e w' => e = .returned (.tuple #[]) ∧ ∃ R : List Sp, R.Perm L ∧ R.Pairwise (fun a b => a.1 ≤ b.1) ∧ R.length = L.length ∧ RowSp w' (.slice (some ⟨g, 0, none⟩) L.length cap) R ∧ Below B w w' := by
  have hH := holds_own h
  have hcon := AnyQ.slices_SortFunc Tryz.sortSp 2 Tryz.isAgg79 Tryz.sizeOf79 cellsS (fun _ => rfl) (fun x v hv => by simp [cellsS] at hv; rcases hv with rfl | rfl <;> rfl) cfS swoS 54 #[] g 0 cap L.toArray w (enters_of Tryz.func54 (by kernel_rfl) rfl) (cmpS g 0 L.toArray.size w) hH hg (by simp; omega)
  change Calls Tryz.prog 53 _ _ _ at hcon
  simp only [List.size_toArray] at hcon
  refine hcon.mono ?_
  rintro e w' ⟨rfl, d', n, os, hp, hs, rfl⟩
  obtain ⟨hsz, _, hperm⟩ := hp
  simp only [List.size_toArray] at hsz
  have hpl : d'.toList.Perm L := by
    have e1 : d'.extract 0 L.length = d' := by rw [← hsz]; simp
    have e2 : L.toArray.extract 0 L.length = L.toArray := by simp
    rw [e1, e2] at hperm
    simpa using hperm
  refine ⟨rfl, d'.toList, hpl, ?_, by simpa using hsz, ?_, (below_sort hg).mono hgB⟩
  · rw [List.pairwise_iff_getElem]
    intro i j hi hj hij
    have hi' : i < d'.size := by simpa using hi
    have hj' : j < d'.size := by simpa using hj
    have h9 := hs i j (Nat.zero_le _) hij (by omega)
    rw [ltS, getElem!_pos d' i hi', getElem!_pos d' j hj'] at h9
    simp at h9
    simpa using h9
  · have h9 := holdsK_sortWorldK_c cellsS 2 w g 0 L.toArray d' n os hH hg (by simpa using hsz)
    have h10 := row_holds (cap := cap) (R := d'.toList) (by simpa using h9) (lt_sortWorldK cellsS 2 w g 0 n d' os hg) (by have : d'.toList.length = d'.size := rfl; omega) (fun x hx => hf x (hpl.mem_iff.1 hx))
    rw [show d'.toList.length = L.length by simpa using hsz] at h10
    exact h10
end Go.Proofs.YtihgmpebpkjmkaaGreatDoor
