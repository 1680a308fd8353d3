/-
  What fold.letter and fold.part do, and slices.Sort and slices.Compact at numbers that rise already, and are few, over this seat's program.
-/
import Derived.Test.YtpblbeaifolldaaDoorSkn
import Derived.BigQuiet
set_option linter.unusedVariables false
namespace Go.Proofs.YtpblbeaifolldaaDoor
open Go.RowKit Go.Proofs.Rns

set_option maxHeartbeats 400000 in
theorem letter_is (n : Int) (w : World) (h : 0 ≤ n ∧ n < 55296) :
    Calls Tryd.prog 64 #[.int .i32 n] w fun e w' => e = .returned (.int .u64 n) ∧ w' = w := by
  have HV := hide (Tryd.utf8_ValidRune n w)
  have hv : Lib.validRune n = true := by unfold Lib.validRune; simp; omega
  rw [hv] at HV
  go_enter Tryd.func64, Tryd.ntmps64
  go_wp2_with fail
  refine (unhide HV).mono ?_
  rintro e w1 ⟨rfl, rfl⟩
  go_wp2
  go_ret
  exact ⟨by go_num, rfl⟩

set_option maxHeartbeats 400000 in
theorem part_is (a b c : Int) (w : World) (ha : 0 ≤ a ∧ a < 128) (hb : 0 ≤ b ∧ b < 128) (hc : 0 ≤ c ∧ c < 128) :
    Calls Tryd.prog 36 #[.int .i32 a, .int .i32 b, .int .i32 c] w fun e w' => e = .returned (.int .u64 (bits .or .u64 (bits .or .u64 (a * 4398046511104) (b * 2097152)) c)) ∧ w' = w := by
  have H1 := hide (letter_is a w (by omega))
  have H2 := hide (letter_is b w (by omega))
  have H3 := hide (letter_is c w (by omega))
  go_enter Tryd.func36, Tryd.ntmps36
  go_wp2_with fail
  refine (unhide H1).mono ?_
  rintro e w1 ⟨rfl, rfl⟩
  go_wp2_with fail
  refine (unhide H2).mono ?_
  rintro e w1 ⟨rfl, rfl⟩
  go_wp2_with fail
  refine (unhide H3).mono ?_
  rintro e w1 ⟨rfl, rfl⟩
  go_wp2
  go_ret
  exact ⟨by go_num, rfl⟩

set_option maxHeartbeats 400000 in
theorem isNaN_no (x : Int) (w : World) : Calls Tryd.prog 127 #[.int .u64 x] w fun e w' => e = .returned (.bool false) ∧ w' = w := by
  have hb : (x != x) = false := by simp
  go_enter Tryd.func127, Tryd.ntmps127
  go_wp2
  go_ret
  exact ⟨by simp, rfl⟩
set_option maxHeartbeats 400000 in
theorem less_no (x y : Int) (w : World) (h : y ≤ x) : Calls Tryd.prog 108 #[.int .u64 x, .int .u64 y] w fun e w' => e = .returned (.bool false) ∧ w' = w := by
  have hb : decide (x < y) = false := by simp; omega
  have H1 := hide (isNaN_no x w)
  go_enter Tryd.func108, Tryd.ntmps108
  go_wp2_with fail
  refine (unhide H1).mono ?_
  rintro e w1 ⟨rfl, rfl⟩
  go_wp2
  go_ret
  exact ⟨ret_b (by simp), rfl⟩

/-- Numbers of 64 bits, cell for cell. -/
def URow (w : World) (g : Nat) (l : List Int) : Prop := ∀ j (h : j < l.length), w.cell? ⟨g, j, none⟩ = some (.int .u64 l[j])
theorem URow.drewN {w : World} {g : Nat} {l : List Int} (h : URow w g l) (n : Nat) : URow (w.drewN n) g l := h

set_option maxHeartbeats 1000000 in
set_option maxRecDepth 100000 in
theorem insertion_is (g cap : Nat) (l : List Int) (w : World) (h : URow w g l) (hl : l.length ≤ 12) (hr : ∀ j (h : j + 1 < l.length), l[j] ≤ l[j + 1]) :
    Calls Tryd.prog 102 #[.slice (some ⟨g, 0, none⟩) l.length cap, .int .i64 0, .int .i64 l.length] w fun e w' => e = .returned (.tuple #[]) ∧ ∃ q, w' = w.drewN q := by
  have HU := hide h
  have HR := hide hr
  clear h hr
  go_enter Tryd.func102, Tryd.ntmps102
  go_wp2
  go_loopw [6] (fun z wr => ∃ (i q : Nat), z = .int .i64 i ∧ 1 ≤ i ∧ i ≤ 13 ∧ wr = w.drewN q) (fun z _ => 13 - (intOf z).toNat)
  case atStart => exact ⟨1, 0, rfl, Nat.le_refl _, by omega, rfl⟩
  case round =>
    obtain ⟨i, q, rfl, hi1, hi2, rfl⟩ := hrel
    by_cases hlt : i < l.length
    · have hlt1 : (i : Int) < (l.length : Int) := by omega
      go_wp2
      go_loopw [7] (fun z wr => z = .int .i64 i ∧ ∃ (q : Nat), wr = w.drewN q) (fun _ _ => 0)
      case atStart => exact ⟨rfl, q, rfl⟩
      case round =>
        obtain ⟨rfl, q, hq⟩ := hrel
        have HQ := hide hq
        obtain ⟨i1, hi1'⟩ : ∃ i1, i1 + 1 = i := ⟨i - 1, by omega⟩
        obtain ⟨x, hx⟩ : ∃ x, l[i] = x := ⟨_, rfl⟩
        obtain ⟨y, hy⟩ : ∃ y, l[i1]'(by omega) = y := ⟨_, rfl⟩
        have c1 : wr.cell? ⟨g, i, none⟩ = some (.int .u64 x) := by rw [← hx, hq]; exact unhide HU i hlt
        have c0 : wr.cell? ⟨g, i1, none⟩ = some (.int .u64 y) := by rw [← hy, hq]; exact unhide HU i1 (by omega)
        have hle : y ≤ x := by
          have := unhide HR i1 (by omega)
          rw [← hx, ← hy]
          simpa [hi1'] using this
        have v1 : IntKind.i64.wrap ((i : Int) - 1) = (i1 : Int) := by rw [IntKind.wrap_i64]; omega
        have hd : decide (0 < i) = true := by simp; omega
        have hd' : (0 : Int) < (i : Int) := by omega
        have hlt2 : (i1 : Int) < (l.length : Int) := by omega
        have HL := hide (fun W => less_no x y W hle)
        clear hle hi1' hx hy hq
        go_wp2
        go_quiet ((go_at_call 108; exact Calls.quiet_of_same (unhide HL _)))
        go_wp2
        exact ⟨⟨i + 1, q + nq, by go_num, by omega, by omega, by rw [unhide HQ]; simp⟩, by simp [intOf]; omega⟩
    · have hlt1 : ¬ (i : Int) < (l.length : Int) := by omega
      go_wp2
      go_end0
      exact ⟨rfl, q, rfl⟩

set_option maxHeartbeats 1000000 in
set_option maxRecDepth 100000 in
theorem pdq_is (g cap : Nat) (lim : Int) (l : List Int) (w : World) (h : URow w g l) (hl : l.length ≤ 12) (hr : ∀ j (h : j + 1 < l.length), l[j] ≤ l[j + 1]) :
    Calls Tryd.prog 88 #[.slice (some ⟨g, 0, none⟩) l.length cap, .int .i64 0, .int .i64 l.length, .int .i64 lim] w fun e w' => e = .returned (.tuple #[]) ∧ ∃ q, w' = w.drewN q := by
  have HI := hide (insertion_is g cap l w h hl hr)
  clear h hr
  have hl' : (l.length : Int) ≤ 12 := by omega
  go_enter Tryd.func88, Tryd.ntmps88
  go_wp2
  go_loopw [1, 2, 3, 8, 9] (fun x1 x2 x3 x4 x5 wr => x1 = .int .i64 0 ∧ x2 = .int .i64 l.length ∧ x3 = .int .i64 lim ∧ wr = w) (fun _ _ _ _ _ _ => 0)
  case atStart => exact ⟨rfl, rfl, rfl, rfl⟩
  case round =>
    obtain ⟨rfl, rfl, rfl, rfl⟩ := hrel
    go_wp2_with fail
    refine (unhide HI).mono ?_
    rintro e w1 ⟨rfl, q, rfl⟩
    go_wp2
    (try simp only [Exit.inBlock, Exit.then])
    refine bodyPost_ret (results_none rfl _ _ _) rfl ?_
    exact ⟨rfl, q, rfl⟩

set_option maxHeartbeats 1000000 in
theorem sort_is (g cap : Nat) (l : List Int) (w : World) (h : URow w g l) (hl : l.length ≤ 12) (hr : ∀ j (h : j + 1 < l.length), l[j] ≤ l[j + 1]) :
    Calls Tryd.prog 65 #[.slice (some ⟨g, 0, none⟩) l.length cap] w fun e w' => e = .returned (.tuple #[]) ∧ ∃ q, w' = w.drewN q := by
  have HP := hide (fun lim => pdq_is g cap lim l w h hl hr)
  have HL := hide (Tryd.bits_Len (l.length : Int) w (by omega) (by omega))
  clear h hr
  go_enter Tryd.func65, Tryd.ntmps65
  go_wp2_with fail
  refine (unhide HL).mono ?_
  rintro e w1 ⟨rfl, rfl⟩
  go_wp2_with fail
  refine (unhide HP _).mono ?_
  rintro e w2 ⟨rfl, q, rfl⟩
  go_wp2
  go_end0
  exact ⟨rfl, q, rfl⟩

set_option maxHeartbeats 1000000 in
set_option maxRecDepth 100000 in
theorem compact_is (g cap : Nat) (l : List Int) (w : World) (h : URow w g l) (hl : l.length ≤ 12) (h2 : 2 ≤ l.length) (hr : ∀ j (h : j + 1 < l.length), l[j] < l[j + 1]) :
    Calls Tryd.prog 66 #[.slice (some ⟨g, 0, none⟩) l.length cap] w fun e w' => e = .returned (.slice (some ⟨g, 0, none⟩) l.length cap) ∧ ∃ q, w' = w.drewN q := by
  have HU := hide h
  have HR := hide hr
  have hl2 : ¬ (l.length : Int) < 2 := by omega
  clear h hr
  go_enter Tryd.func66, Tryd.ntmps66
  go_wp2
  go_loopw [3] (fun z wr => ∃ (i q : Nat), z = .int .i64 i ∧ 1 ≤ i ∧ i ≤ l.length ∧ wr = w.drewN q) (fun z _ => 13 - (intOf z).toNat)
  case atStart => exact ⟨1, 0, rfl, Nat.le_refl _, by omega, rfl⟩
  case round =>
    obtain ⟨i, q, rfl, hi1, hi2, rfl⟩ := hrel
    by_cases hlt : i < l.length
    · have hlt1 : (i : Int) < (l.length : Int) := by omega
      obtain ⟨i1, hi1'⟩ : ∃ i1, i1 + 1 = i := ⟨i - 1, by omega⟩
      have c1 : w.cell? ⟨g, i, none⟩ = some (.int .u64 l[i]) := unhide HU i hlt
      have c0 : w.cell? ⟨g, i1, none⟩ = some (.int .u64 (l[i1]'(by omega))) := unhide HU i1 (by omega)
      have hle : l[i1]'(by omega) < l[i] := by
        have := unhide HR i1 (by omega)
        simpa [hi1'] using this
      have v1 : IntKind.i64.wrap ((i : Int) - 1) = (i1 : Int) := by rw [IntKind.wrap_i64]; omega
      have hlt2 : (i1 : Int) < (l.length : Int) := by omega
      have hbe : (l[i] == l[i1]'(by omega)) = false := by simp; omega
      generalize l[i] = x at c1 hbe
      generalize l[i1]'(by omega) = y at c0 hbe
      clear hle hi1'
      go_wp2
      go_quiet (fail)
      go_wp2
      exact ⟨⟨i + 1, q + nq, by go_num, by omega, by omega, rfl⟩, by simp [intOf]; omega⟩
    · have hlt1 : ¬ (i : Int) < (l.length : Int) := by omega
      go_wp2
      go_ret
      exact ⟨rfl, q, rfl⟩

set_option maxHeartbeats 1000000 in
theorem rising_is (g cap : Nat) (l : List Int) (w : World) (h : URow w g l) (hl : l.length ≤ 12) (h2 : 2 ≤ l.length) (hr : ∀ j (h : j + 1 < l.length), l[j] < l[j + 1]) :
    Calls Tryd.prog 37 #[.slice (some ⟨g, 0, none⟩) l.length cap] w fun e w' => e = .returned (.slice (some ⟨g, 0, none⟩) l.length cap) ∧ ∃ q, w' = w.drewN q := by
  have HS := hide (sort_is g cap l w h hl (fun j hj => Int.le_of_lt (hr j hj)))
  have HC := hide (fun q => compact_is g cap l (w.drewN q) (h.drewN q) hl h2 hr)
  clear h hr
  go_enter Tryd.func37, Tryd.ntmps37
  go_wp2_with fail
  refine (unhide HS).mono ?_
  rintro e w1 ⟨rfl, q, rfl⟩
  go_wp2_with fail
  refine (unhide HC _).mono ?_
  rintro e w2 ⟨rfl, q2, rfl⟩
  go_wp2
  go_ret
  exact ⟨rfl, q + q2, rfl⟩
end Go.Proofs.YtpblbeaifolldaaDoor
