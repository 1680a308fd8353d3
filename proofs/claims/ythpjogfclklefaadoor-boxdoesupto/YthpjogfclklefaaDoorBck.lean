/-
  Boxes and changes as they lie in memory; what box.Check and Make do, over this seat's program.
-/
import Derived.Test.YthpjogfclklefaaDoorBob
import Derived.Test.YthpjogfclklefaaDoorPch
set_option linter.unusedVariables false
set_option linter.unusedSimpArgs false
namespace Go.Proofs.YthpjogfclklefaaDoor
open Go.RowKit

/-- A box. -/
structure Bx where
  va : Nat
  nx : Nat
  mr : Nat
  la : Nat
  ms : List Msg
def bxC (b : Bx) (v : Value) : Array Value := #[.int .u32 (b.va : Int), .int .u64 (b.nx : Int), .int .u32 (b.mr : Int), .int .u32 (b.la : Int), v]
def bxV (b : Bx) (v : Value) : Value := .agg (bxC b v)
def FitB (b : Bx) : Prop := b.va ≤ 4294967295 ∧ b.nx ≤ 18446744073709551615 ∧ b.mr ≤ 4294967295 ∧ b.la ≤ 4294967295
/-- What box.Check tells. -/
def okB (b : Bx) : Bool := decide (b.va ≠ 0 ∧ 1 ≤ b.nx ∧ b.nx ≤ 4294967296 ∧ b.mr ≤ b.la ∧ b.la < b.nx) && (decide (b.ms.length ≤ 4096) && mailsOk b.nx 1 b.ms)
def chkB (b : Bx) : Nat := if okB b = true then 0 else 2
theorem RowM.length {w : World} {a : Option Addr} {n cap : Nat} {l : List Msg} (h : RowM w (.slice a n cap) l) : n = l.length := RowG.len h

set_option maxHeartbeats 4000000 in
set_option maxRecDepth 100000 in
theorem bcheck_any (b : Bx) (v : Value) (w : World) (ht : LTab w) (h : RowM w v b.ms) (hf : FitB b) :
    Calls Tryd.prog 13 #[bxV b v] w fun e w' => e = .returned (.int .i64 (chkB b : Int)) ∧ Below w.heap.size w w' := by
  obtain ⟨va, nx, mk, la, ms⟩ := b
  simp only [FitB] at hf
  simp only at h
  obtain ⟨hf1, hf2, hf3, hf4⟩ := hf
  have HR := hide h
  obtain ⟨a, cap, rfl, hl, _, _⟩ := h
  obtain ⟨n, hnn⟩ : ∃ n, ms.length = n := ⟨_, rfl⟩
  rw [hnn] at HR hl ⊢
  have HN := hide hnn
  clear hnn
  obtain ⟨V, hV⟩ : ∃ V, V = Value.slice a n cap := ⟨_, rfl⟩
  have HA := hide (show Below w.heap.size w (w.alloc (.cells #[.int .u32 (va : Int), .int .u64 (nx : Int), .int .u32 (mk : Int), .int .u32 (la : Int), .slice a n cap] 26)) from (Below.refl _ w).alloc (Nat.le_refl _) _)
  have HT := hide ht
  clear ht hV V
  obtain ⟨C, hC⟩ : ∃ C, chkB ⟨va, nx, mk, la, ms⟩ = C := ⟨_, rfl⟩
  rw [hC]
  have HC := hide hC
  clear hC
  simp only [bxV, bxC]
  by_cases c0 : va = 0
  · have d0 : ((va : Int) == 0) = true := by simp; omega
    obtain rfl : 2 = C := by
      rw [← unhide HC]; unfold chkB okB; rw [if_neg]; simp only [Bool.and_eq_true, decide_eq_true_eq]; rintro ⟨h, _⟩; omega
    clear c0
    go_enter Tryd.func13, Tryd.ntmps13
    go_wp2
    go_ret
    exact ⟨rfl, unhide HA⟩
  · have d0 : ((va : Int) == 0) = false := by simp; omega
    by_cases c1 : nx < 1
    · have d1 : decide ((nx : Int) < 1) = true := by exact decide_eq_true (by omega)
      obtain rfl : 2 = C := by
        rw [← unhide HC]; unfold chkB okB; rw [if_neg]; simp only [Bool.and_eq_true, decide_eq_true_eq]; rintro ⟨h, _⟩; omega
      clear c1
      go_enter Tryd.func13, Tryd.ntmps13
      go_wp2
      go_ret
      exact ⟨rfl, unhide HA⟩
    · have d1 : decide ((nx : Int) < 1) = false := by exact decide_eq_false (by omega)
      by_cases c2 : nx > 4294967296
      · have d2 : decide ((nx : Int) > 4294967296) = true := by exact decide_eq_true (by omega)
        obtain rfl : 2 = C := by
          rw [← unhide HC]; unfold chkB okB; rw [if_neg]; simp only [Bool.and_eq_true, decide_eq_true_eq]; rintro ⟨h, _⟩; omega
        clear c2
        go_enter Tryd.func13, Tryd.ntmps13
        go_wp2
        go_ret
        exact ⟨rfl, unhide HA⟩
      · have d2 : decide ((nx : Int) > 4294967296) = false := by exact decide_eq_false (by omega)
        by_cases c3 : mk > la
        · have d3 : decide (la < mk) = true := by exact decide_eq_true (by omega)
          obtain rfl : 2 = C := by
            rw [← unhide HC]; unfold chkB okB; rw [if_neg]; simp only [Bool.and_eq_true, decide_eq_true_eq]; rintro ⟨h, _⟩; omega
          clear c3
          go_enter Tryd.func13, Tryd.ntmps13
          go_wp2
          go_ret
          exact ⟨rfl, unhide HA⟩
        · have d3 : decide (la < mk) = false := by exact decide_eq_false (by omega)
          by_cases c4 : la ≥ nx
          · have d4 : decide (nx ≤ la) = true := by exact decide_eq_true (by omega)
            obtain rfl : 2 = C := by
              rw [← unhide HC]; unfold chkB okB; rw [if_neg]; simp only [Bool.and_eq_true, decide_eq_true_eq]; rintro ⟨h, _⟩; omega
            clear c4
            go_enter Tryd.func13, Tryd.ntmps13
            go_wp2
            go_ret
            exact ⟨rfl, unhide HA⟩
          · have d4 : decide (nx ≤ la) = false := by exact decide_eq_false (by omega)
            by_cases c5 : n > 4096
            · have d5 : decide ((n : Int) > 4096) = true := by exact decide_eq_true (by omega)
              obtain rfl : 2 = C := by
                rw [← unhide HC]; unfold chkB okB; rw [if_neg]; simp only [Bool.and_eq_true, decide_eq_true_eq]; rintro ⟨_, h, _⟩; have := unhide HN; omega
              clear c5
              go_enter Tryd.func13, Tryd.ntmps13
              go_wp2
              go_ret
              exact ⟨rfl, unhide HA⟩
            · have d5 : decide ((n : Int) > 4096) = false := by exact decide_eq_false (by omega)
              have HM := hide (fun W (hW : LTab W) (hR : RowM W (.slice a n cap) ms) => areMails_any (.slice a n cap) ms nx W hW hR hf2)
              have HRA := hide ((unhide HR).below (unhide HA))
              have HTA := hide ((unhide HT).below (unhide HA))
              obtain ⟨r, hr⟩ : ∃ r, mailsOk nx 1 ms = r := ⟨_, rfl⟩
              rw [hr] at HM
              have HC2 : Hid ((if r = true then 0 else 2) = C) := hide (by
                rw [← unhide HC]; unfold chkB okB
                simp only
                rw [hr, unhide HN, decide_eq_true (by omega : n ≤ 4096), decide_eq_true (by omega : va ≠ 0 ∧ 1 ≤ nx ∧ nx ≤ 4294967296 ∧ mk ≤ la ∧ la < nx)]
                simp)
              clear hr HC HN HR HT
              go_enter Tryd.func13, Tryd.ntmps13
              go_wp2_with fail
              refine (unhide HM _ (unhide HTA) (unhide HRA)).mono ?_
              rintro e w1 ⟨rfl, b1⟩
              have HB := hide (belows' (unhide HA) b1)
              clear b1 HM HTA HRA HA
              cases r with
              | false =>
                have hc : 2 = C := by simpa using unhide HC2
                subst hc
                go_wp2
                go_ret
                exact ⟨rfl, unhide HB⟩
              | true =>
                have hc : 0 = C := by simpa using unhide HC2
                subst hc
                go_wp2
                go_ret
                exact ⟨rfl, unhide HB⟩

theorem below5 {B s : Nat} {w W : World} (h : Below B w W) (hs : B ≤ s) : ∀ u0 u1 u2 u3 u4, Below B w (((((W.setCell ⟨s, 0, none⟩ u0).setCell ⟨s, 1, none⟩ u1).setCell ⟨s, 2, none⟩ u2).setCell ⟨s, 3, none⟩ u3).setCell ⟨s, 4, none⟩ u4) := by
  intro u0 u1 u2 u3 u4
  exact (((((h.setCell (p := ⟨s, 0, none⟩) hs _).setCell (p := ⟨s, 1, none⟩) hs _).setCell (p := ⟨s, 2, none⟩) hs _).setCell (p := ⟨s, 3, none⟩) hs _).setCell (p := ⟨s, 4, none⟩) hs _)
def makeB (va : Nat) : Bx := if va = 0 then ⟨0, 0, 0, 0, []⟩ else ⟨va, 1, 0, 0, []⟩
set_option maxHeartbeats 1000000 in
theorem bmake_any (va : Nat) (w : World) : Calls Tryd.prog 8 #[.int .u32 (va : Int)] w fun e w' => e = .returned (.tuple #[bxV (makeB va) (.slice none 0 0), .int .i64 (if va = 0 then 1 else 0)]) ∧ Below w.heap.size w w' := by
  have hb := hide ((Below.refl _ w).alloc (Nat.le_refl _) (Obj.cells #[.int .u32 0, .int .u64 0, .int .u32 0, .int .u32 0, .slice none 0 0] 26))
  by_cases h : va = 0
  · have d : ((va : Int) == 0) = true := by simp; omega
    unfold makeB
    rw [if_pos h, if_pos h]
    clear h
    simp only [bxV, bxC]
    go_enter Tryd.func8, Tryd.ntmps8
    go_wp2
    refine bodyPost_ret (v := .tuple #[.agg #[.int .u32 0, .int .u64 0, .int .u32 0, .int .u32 0, .slice none 0 0], .int .i64 1]) ?_ rfl ⟨rfl, unhide hb⟩
    rw [results_cell_tmp rfl]
    go_simp
  · have d : ((va : Int) == 0) = false := by simp; omega
    unfold makeB
    rw [if_neg h, if_neg h]
    clear h
    simp only [bxV, bxC]
    go_enter Tryd.func8, Tryd.ntmps8
    go_wp2
    refine bodyPost_ret (v := .tuple #[.agg #[.int .u32 (va : Int), .int .u64 1, .int .u32 0, .int .u32 0, .slice none 0 0], .int .i64 0]) ?_ rfl ⟨rfl, (Below.refl _ w).alloc (Nat.le_refl _) _⟩
    rw [results_cell_tmp rfl]
    go_simp
end Go.Proofs.YthpjogfclklefaaDoor
