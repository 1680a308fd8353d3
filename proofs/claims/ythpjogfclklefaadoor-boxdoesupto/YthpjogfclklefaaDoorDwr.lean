/-
  What date.digit, writeTwo, writeDay and Write do, over this seat's program.
-/
import Derived.Test.YthpjogfclklefaaDoorDmo
import Derived.Test.YthpjogfclklefaaDoorWrb
import Derived.Test.YthpjogfclklefaaDoorWdn
set_option linter.unusedVariables false
namespace Go.Proofs.YthpjogfclklefaaDoor
open Go.RowKit Go.Proofs.Dcl

/-- A digit's byte. -/
def dg (n : Nat) : UInt8 := UInt8.ofNat (48 + n)
theorem dg_nat (n : Nat) (h : n < 10) : (dg n).toNat = 48 + n := by unfold dg; simp; omega
/-- Two digits. -/
def twoL (n : Nat) : List UInt8 := [dg (n / 10), dg (n % 10)]
/-- A day's text. -/
def dayT (y m d : Nat) : List UInt8 := (if 10 ≤ d then [dg (d / 10)] else []) ++ ([dg (d % 10)] ++ ([45] ++ (nmL (m - 1) ++ ([45] ++ (twoL (y / 100) ++ twoL (y % 100))))))

set_option maxHeartbeats 400000 in
theorem digit_any (n : Nat) (w : World) (h : n < 10) :
    Calls Tryd.prog 67 #[.int .i64 (n : Int)] w fun e w' => e = .returned (.int .u8 ((dg n).toNat : Int)) ∧ w' = w := by
  rw [dg_nat n h]
  have h' : (n : Int) < 10 := by omega
  go_enter Tryd.func67, Tryd.ntmps67
  go_wp2
  go_ret
  exact ⟨ret_int (by omega), rfl⟩

set_option maxHeartbeats 1000000 in
theorem wTwo {u W : World} {l : List UInt8} (h : Wr u W l) (n : Nat) (hn : n < 100) (hl : l.length ≤ 900) :
    Calls Tryd.prog 56 #[.pointer (some ⟨u.heap.size, 0, none⟩), .int .i64 (n : Int)] W fun e w' => e = .returned (.tuple #[]) ∧ Wr u w' (l ++ twoL n) := by
  have H1 := hide (fun W => digit_any (n / 10) W (by omega))
  have H2 := hide (fun W => digit_any (n % 10) W (by omega))
  rw [show ((n / 10 : Nat) : Int) = (n : Int) / 10 by omega] at H1
  rw [show ((n % 10 : Nat) : Int) = (n : Int) % 10 by omega] at H2
  have HW := hide h
  clear h
  go_enter Tryd.func56, Tryd.ntmps56
  go_wp2_with fail
  refine (unhide H1 _).mono ?_
  rintro e _ ⟨rfl, rfl⟩
  go_wp2_with fail
  refine (wByte (unhide HW) (dg (n / 10)) _ rfl (by omega)).mono ?_
  rintro e W1 ⟨rfl, h1⟩
  have HW1 := hide h1
  clear h1
  go_wp2_with fail
  refine (unhide H2 _).mono ?_
  rintro e _ ⟨rfl, rfl⟩
  go_wp2_with fail
  refine (wByte (unhide HW1) (dg (n % 10)) _ rfl (by simp; omega)).mono ?_
  rintro e W2 ⟨rfl, h2⟩
  go_wp2
  go_end0
  exact ⟨rfl, by rw [List.append_assoc] at h2; exact h2⟩

theorem LTab.wr {u W : World} {l : List UInt8} (h : LTab u) (hw : Wr u W l) : LTab W := h.below hw.bel

theorem dim_le (y m : Int) : dim y m ≤ 31 := (dim_bd y m).2

set_option maxHeartbeats 2000000 in
theorem wDay {u W : World} {l : List UInt8} (h : Wr u W l) (ht : LTab u) (y m d : Nat) (hv : vldB y m d = true) (n : Int) (hn : num y m d = n) (hl : l.length ≤ 800) :
    Calls Tryd.prog 58 #[.pointer (some ⟨u.heap.size, 0, none⟩), .int .i64 n] W fun e w' => e = .returned (.tuple #[]) ∧ Wr u w' (l ++ dayT y m d) := by
  have HC := hide (civil_any n W (ht.wr h))
  obtain ⟨y1, y2, m1, m2, d1, d2⟩ := vld_iff.1 hv
  have d3 := dim_le y m
  have HV := hide (And.intro hv hn)
  have HW := hide h
  clear hv hn h ht
  obtain ⟨k, rfl⟩ : ∃ k, m = k + 1 := ⟨m - 1, by omega⟩
  have hk : k < 12 := by omega
  have hnl := nmL_len k hk
  have HN := hide (fun W => nameOf_any k W hk)
  have HY1 := hide (fun W (l : List UInt8) (h : Wr u W l) (hl : l.length ≤ 900) => wTwo h (y / 100) (by omega) hl)
  have HY2 := hide (fun W (l : List UInt8) (h : Wr u W l) (hl : l.length ≤ 900) => wTwo h (y % 100) (by omega) hl)
  rw [show ((y / 100 : Nat) : Int) = (y : Int) / 100 by omega] at HY1
  rw [show ((y % 100 : Nat) : Int) = (y : Int) % 100 by omega] at HY2
  have H1 := hide (fun W => digit_any (d / 10) W (by omega))
  have H2 := hide (fun W => digit_any (d % 10) W (by omega))
  rw [show ((d / 10 : Nat) : Int) = (d : Int) / 10 by omega] at H1
  rw [show ((d % 10 : Nat) : Int) = (d : Int) % 10 by omega] at H2
  have hd31 : d ≤ 31 := by omega
  clear d2 d3
  have hfin : ∀ (l0 : List UInt8), l0.length ≤ 901 → (l0 = l ++ (if 10 ≤ d then [dg (d / 10)] else [])) → l0 ++ [dg (d % 10)] ++ [45] ++ (bts (nmL k)).data.toList ++ [45] ++ twoL (y / 100) ++ twoL (y % 100) = l ++ dayT y (k + 1) d := by
    intro l0 _ h0
    rw [h0, toList_bts]
    simp [dayT]
  have HFIN := hide hfin
  clear hfin
  by_cases h10 : 10 ≤ d
  · rw [if_pos h10] at HFIN
    have h10' : 10 ≤ (d : Int) := by omega
    go_enter Tryd.func58, Tryd.ntmps58
    go_wp2_with fail
    refine (unhide HC).mono ?_
    rintro e W1 ⟨v, rfl, hc, hb⟩
    have HW1 := hide ((unhide HW).below hb)
    obtain rfl := civ_known hc (unhide HV).1 (unhide HV).2
    clear hc hb HW HC HV
    go_wp2_with fail
    refine (unhide H1 _).mono ?_
    rintro e _ ⟨rfl, rfl⟩
    go_wp2_with fail
    refine (wByte (unhide HW1) (dg (d / 10)) _ rfl (by omega)).mono ?_
    rintro e W2 ⟨rfl, h⟩
    have HW2 := hide h
    clear h HW1
    go_wp2_with fail
    refine (unhide H2 _).mono ?_
    rintro e _ ⟨rfl, rfl⟩
    go_wp2_with fail
    refine (wByte (unhide HW2) (dg (d % 10)) _ rfl (by first | omega | (simp; omega) | (rw [size_bts, hnl]; omega) | (rw [size_bts, hnl]; simp; omega) | (simp [toList_bts, hnl]; omega) | (simp [toList_bts, hnl, twoL]; omega))).mono ?_
    rintro e W3 ⟨rfl, h⟩
    have HW3 := hide h
    clear h HW2
    go_wp2_with fail
    refine (wByte (unhide HW3) 45 45 rfl (by first | omega | (simp; omega) | (rw [size_bts, hnl]; omega) | (rw [size_bts, hnl]; simp; omega) | (simp [toList_bts, hnl]; omega) | (simp [toList_bts, hnl, twoL]; omega))).mono ?_
    rintro e W4 ⟨rfl, h⟩
    have HW4 := hide h
    clear h HW3
    go_wp2_with fail
    refine (unhide HN _).mono ?_
    rintro e _ ⟨rfl, rfl⟩
    go_wp2_with fail
    refine (wStr (unhide HW4) (bts (nmL k)) (by first | omega | (simp; omega) | (rw [size_bts, hnl]; omega) | (rw [size_bts, hnl]; simp; omega) | (simp [toList_bts, hnl]; omega) | (simp [toList_bts, hnl, twoL]; omega))).mono ?_
    rintro e W5 ⟨rfl, h⟩
    have HW5 := hide h
    clear h HW4
    go_wp2_with fail
    refine (wByte (unhide HW5) 45 45 rfl (by first | omega | (simp; omega) | (rw [size_bts, hnl]; omega) | (rw [size_bts, hnl]; simp; omega) | (simp [toList_bts, hnl]; omega) | (simp [toList_bts, hnl, twoL]; omega))).mono ?_
    rintro e W6 ⟨rfl, h⟩
    have HW6 := hide h
    clear h HW5
    go_wp2_with fail
    refine (unhide HY1 _ _ (unhide HW6) (by first | omega | (simp; omega) | (rw [size_bts, hnl]; omega) | (rw [size_bts, hnl]; simp; omega) | (simp [toList_bts, hnl]; omega) | (simp [toList_bts, hnl, twoL]; omega))).mono ?_
    rintro e W7 ⟨rfl, h⟩
    have HW7 := hide h
    clear h HW6
    go_wp2_with fail
    refine (unhide HY2 _ _ (unhide HW7) (by first | omega | (simp; omega) | (rw [size_bts, hnl]; omega) | (rw [size_bts, hnl]; simp; omega) | (simp [toList_bts, hnl]; omega) | (simp [toList_bts, hnl, twoL]; omega))).mono ?_
    rintro e W8 ⟨rfl, h⟩
    go_wp2
    go_end0
    exact ⟨rfl, by rw [unhide HFIN (l ++ [dg (d / 10)]) (by simp; omega) rfl] at h; exact h⟩
  · rw [if_neg h10] at HFIN
    have h10' : ¬ 10 ≤ (d : Int) := by omega
    go_enter Tryd.func58, Tryd.ntmps58
    go_wp2_with fail
    refine (unhide HC).mono ?_
    rintro e W1 ⟨v, rfl, hc, hb⟩
    have HW1 := hide ((unhide HW).below hb)
    obtain rfl := civ_known hc (unhide HV).1 (unhide HV).2
    clear hc hb HW HC HV
    have HW2 := HW1
    clear HW1
    go_wp2_with fail
    refine (unhide H2 _).mono ?_
    rintro e _ ⟨rfl, rfl⟩
    go_wp2_with fail
    refine (wByte (unhide HW2) (dg (d % 10)) _ rfl (by first | omega | (simp; omega) | (rw [size_bts, hnl]; omega) | (rw [size_bts, hnl]; simp; omega) | (simp [toList_bts, hnl]; omega) | (simp [toList_bts, hnl, twoL]; omega))).mono ?_
    rintro e W3 ⟨rfl, h⟩
    have HW3 := hide h
    clear h HW2
    go_wp2_with fail
    refine (wByte (unhide HW3) 45 45 rfl (by first | omega | (simp; omega) | (rw [size_bts, hnl]; omega) | (rw [size_bts, hnl]; simp; omega) | (simp [toList_bts, hnl]; omega) | (simp [toList_bts, hnl, twoL]; omega))).mono ?_
    rintro e W4 ⟨rfl, h⟩
    have HW4 := hide h
    clear h HW3
    go_wp2_with fail
    refine (unhide HN _).mono ?_
    rintro e _ ⟨rfl, rfl⟩
    go_wp2_with fail
    refine (wStr (unhide HW4) (bts (nmL k)) (by first | omega | (simp; omega) | (rw [size_bts, hnl]; omega) | (rw [size_bts, hnl]; simp; omega) | (simp [toList_bts, hnl]; omega) | (simp [toList_bts, hnl, twoL]; omega))).mono ?_
    rintro e W5 ⟨rfl, h⟩
    have HW5 := hide h
    clear h HW4
    go_wp2_with fail
    refine (wByte (unhide HW5) 45 45 rfl (by first | omega | (simp; omega) | (rw [size_bts, hnl]; omega) | (rw [size_bts, hnl]; simp; omega) | (simp [toList_bts, hnl]; omega) | (simp [toList_bts, hnl, twoL]; omega))).mono ?_
    rintro e W6 ⟨rfl, h⟩
    have HW6 := hide h
    clear h HW5
    go_wp2_with fail
    refine (unhide HY1 _ _ (unhide HW6) (by first | omega | (simp; omega) | (rw [size_bts, hnl]; omega) | (rw [size_bts, hnl]; simp; omega) | (simp [toList_bts, hnl]; omega) | (simp [toList_bts, hnl, twoL]; omega))).mono ?_
    rintro e W7 ⟨rfl, h⟩
    have HW7 := hide h
    clear h HW6
    go_wp2_with fail
    refine (unhide HY2 _ _ (unhide HW7) (by first | omega | (simp; omega) | (rw [size_bts, hnl]; omega) | (rw [size_bts, hnl]; simp; omega) | (simp [toList_bts, hnl]; omega) | (simp [toList_bts, hnl, twoL]; omega))).mono ?_
    rintro e W8 ⟨rfl, h⟩
    go_wp2
    go_end0
    exact ⟨rfl, by rw [unhide HFIN l (by omega) (by simp)] at h; exact h⟩

end Go.Proofs.YthpjogfclklefaaDoor
