/-
  What the document's Digits of layer 3 and wide of layer 10 do, over this seat's program, for the numbers of dates.
-/
import Derived.Test.YthpjogfclklefaaDoorDwr
import Derived.Test.YthpjogfclklefaaDoorByt
import Derived.Laws.IdiomStrings
set_option linter.unusedVariables false
namespace Go.Proofs.YthpjogfclklefaaDoor
open Go.RowKit Go.Proofs.Dcl

/-- A number's digits. -/
def decL (n : Nat) : List UInt8 := if n < 10 then [dg n] else decL (n / 10) ++ [dg (n % 10)]
termination_by n
decreasing_by omega
theorem decL_lt {n : Nat} (h : n < 10) : decL n = [dg n] := by rw [decL, if_pos h]
theorem decL_ge {n : Nat} (h : 10 ≤ n) : decL n = decL (n / 10) ++ [dg (n % 10)] := by rw [decL, if_neg (by omega)]
theorem decL_two {n : Nat} (h : 10 ≤ n) (h2 : n < 100) : decL n = [dg (n / 10), dg (n % 10)] := by rw [decL_ge h, decL_lt (by omega)]; rfl
theorem decL_three {n : Nat} (h : 100 ≤ n) (h2 : n < 1000) : decL n = [dg (n / 100), dg (n / 10 % 10), dg (n % 10)] := by
  rw [decL_ge (by omega), decL_two (by omega) (by omega), show n / 10 / 10 = n / 100 by omega]; rfl
theorem decL_four {n : Nat} (h : 1000 ≤ n) (h2 : n < 10000) : decL n = [dg (n / 1000), dg (n / 100 % 10), dg (n / 10 % 10), dg (n % 10)] := by
  rw [decL_ge (by omega), decL_three (by omega) (by omega), show n / 10 / 100 = n / 1000 by omega, show n / 10 / 10 % 10 = n / 100 % 10 by omega]; rfl
theorem decL_len (n : Nat) (h : n < 10000) : 1 ≤ (decL n).length ∧ (decL n).length ≤ 4 := by
  by_cases a : n < 10
  · rw [decL_lt a]; simp
  by_cases b : n < 100
  · rw [decL_two (by omega) b]; simp
  by_cases c : n < 1000
  · rw [decL_three (by omega) c]; simp
  · rw [decL_four (by omega) h]; simp
/-- A number of so many digits. -/
def wideL (n k : Nat) : List UInt8 := List.replicate (k - (decL n).length) 48 ++ decL n
theorem dg_zero : dg 0 = 48 := rfl
theorem wide_two {n : Nat} (h : n < 100) : wideL n 2 = twoL n := by
  unfold wideL twoL
  by_cases a : n < 10
  · rw [decL_lt a, show n / 10 = 0 by omega, show n % 10 = n by omega, dg_zero]; rfl
  · rw [decL_two (by omega) h]; rfl
theorem wide_four {n : Nat} (h : n < 10000) : wideL n 4 = twoL (n / 100) ++ twoL (n % 100) := by
  unfold wideL twoL
  by_cases a : n < 10
  · rw [decL_lt a, show n / 100 / 10 = 0 by omega, show n / 100 % 10 = 0 by omega, show n % 100 / 10 = 0 by omega, show n % 100 % 10 = n by omega, dg_zero]; rfl
  by_cases b : n < 100
  · rw [decL_two (by omega) b, show n / 100 / 10 = 0 by omega, show n / 100 % 10 = 0 by omega, show n % 100 / 10 = n / 10 by omega, show n % 100 % 10 = n % 10 by omega, dg_zero]; rfl
  by_cases c : n < 1000
  · rw [decL_three (by omega) c, show n / 100 / 10 = 0 by omega, show n / 100 % 10 = n / 100 by omega, show n % 100 / 10 = n / 10 % 10 by omega, show n % 100 % 10 = n % 10 by omega, dg_zero]; rfl
  · rw [decL_four (by omega) h, show n / 100 / 10 = n / 1000 by omega, show n % 100 / 10 = n / 10 % 10 by omega, show n % 100 % 10 = n % 10 by omega]; rfl
theorem wide_one {n : Nat} (h : n < 100) : wideL n 1 = (if 10 ≤ n then [dg (n / 10)] else []) ++ [dg (n % 10)] := by
  unfold wideL
  by_cases a : n < 10
  · rw [decL_lt a, if_neg (by omega), show n % 10 = n by omega]; rfl
  · rw [decL_two (by omega) h, if_pos (by omega)]; rfl
/-- The document's text of a day. -/
theorem docW {y m d : Nat} (hy : y < 10000) (hd : d < 100) : wideL d 1 ++ ([45] ++ (nmL (m - 1) ++ ([45] ++ wideL y 4))) = dayT y m d := by
  rw [wide_one hd, wide_four hy]
  unfold dayT
  simp

/-- A literal of one byte, as a string. -/
theorem lit_one (w : World) (x : Nat) (hx : x ≤ 255) :
    (convert 86 9 (.slice (some ⟨w.heap.size, 0, none⟩) 1 1)).run Tryd.prog (w.alloc (.cells #[.int .u8 (x : Int)] 5)) = .ok (.string (bts [UInt8.ofNat x])) (w.alloc (.cells #[.int .u8 (x : Int)] 5)) := by
  refine run_convert_bytes_back (P := Tryd.prog) (w.alloc (.cells #[.int .u8 (x : Int)] 5)) 86 9 5 ⟨w.heap.size, 0, none⟩ 1 [UInt8.ofNat x] Tryd.underlying86 Tryd.underlying5 Tryd.underlying9 (fun j hj => ?_)
  have hj' : j = 0 := by simp at hj; omega
  subst hj'
  have hadd : Addr.add ⟨w.heap.size, 0, none⟩ 0 = ⟨w.heap.size, 0, none⟩ := by simp [Addr.add]
  rw [hadd, Blk.cell (Blk.new w _ _)]
  simp
  omega

theorem ret_strD {a b : ByteArray} (h : a = b) : Ending.returned (.string a) = .returned (.string b) := by rw [h]
theorem bts_app (a b : List UInt8) : bts a ++ bts b = bts (a ++ b) := by
  apply ext_list
  simp [bts]
theorem size_ahead (s : ByteArray) : ((⟨#[48]⟩ : ByteArray) ++ s).size = s.size + 1 := by
  rw [ByteArray.size_append, Nat.add_comm]
  rfl
theorem wrap_u (q : Nat) (h : q < 10000) : IntKind.u64.wrap (q : Int) = (q : Int) := by
  simp only [IntKind.wrap, IntKind.signed, IntKind.bits]
  simp
  omega

set_option maxHeartbeats 1000000 in
set_option maxRecDepth 100000 in
theorem refDigs_any (n : Nat) : ∀ w : World, n < 10000 →
    Calls Tryd.prog 64 #[.int .u64 (n : Int)] w fun e w' => e = .returned (.string (bts (decL n))) ∧ Below w.heap.size w w' := by
  induction n using Nat.strongRecOn with
  | _ n ih =>
    intro w hn
    obtain ⟨q, hq⟩ : ∃ q, q = n / 10 := ⟨_, rfl⟩
    obtain ⟨r, hr⟩ : ∃ r, r = n % 10 := ⟨_, rfl⟩
    have h1 : (n : Int) % 10 = (r : Int) := by omega
    have h2 : (n : Int) / 10 = (q : Int) := by omega
    have hm : r < 10 := by omega
    have hlc := fun W => lit_one W (48 + r) (by omega)
    have hc : ((48 + r : Nat) : Int) = 48 + (r : Int) := by omega
    rw [hc] at hlc
    obtain ⟨x, hx⟩ : ∃ x, x = bts [UInt8.ofNat (48 + r)] := ⟨_, rfl⟩
    rw [← hx] at hlc
    have HX := hide hx
    have hxs : x.size = 1 := by rw [hx, size_bts]; rfl
    clear hc hx
    by_cases h9 : 9 < n
    · have HI := hide (fun W => ih q (by omega) W (by omega))
      have hl := decL_len q (by omega)
      have HD : Hid (decL n = decL q ++ [UInt8.ofNat (48 + r)]) := hide (by rw [decL_ge (by omega), hr, hq]; rfl)
      obtain ⟨s1, hs1⟩ : ∃ s1, s1 = bts (decL q) := ⟨_, rfl⟩
      rw [← hs1] at HI
      have hz : s1.size ≤ 4 := by rw [hs1, size_bts]; omega
      have hz2 : s1.size + x.size ≤ 10 := by omega
      have HS := hide hs1
      have h9' : (9 : Int) < (n : Int) := by omega
      have hwq := wrap_u q (by omega)
      clear ih hs1 hl hr hq h9 hn
      go_enter Tryd.func64, Tryd.ntmps64
      go_wp2_with fail
      refine (unhide HI _).mono ?_
      rintro e w2 ⟨rfl, hb⟩
      have HB := hide (belows' ((Below.refl _ w).alloc (Nat.le_refl _) (.cells #[.int .u8 (48 + (r : Int))] 5)) hb)
      clear hb HI hlc
      go_wp2
      go_ret
      exact ⟨ret_strD (a := s1 ++ x) (by rw [unhide HD, unhide HS, unhide HX, bts_app]), unhide HB⟩
    · have HD : Hid (bts (decL n) = x) := hide (by rw [decL_lt (by omega), unhide HX, hr, show n % 10 = n by omega]; rfl)
      have h9' : ¬ (9 : Int) < (n : Int) := by omega
      clear ih hr hq h9 hn
      go_enter Tryd.func64, Tryd.ntmps64
      go_wp2
      go_ret
      exact ⟨ret_strD (a := x) (unhide HD).symm, (Below.refl _ w).alloc (Nat.le_refl _) _⟩

set_option maxHeartbeats 1000000 in
set_option maxRecDepth 100000 in
theorem refWide_any (n k : Nat) (w : World) (hn : n < 10000) (hk : k ≤ 4) :
    Calls Tryd.prog 52 #[.int .i64 (n : Int), .int .i64 (k : Int)] w fun e w' => e = .returned (.string (bts (wideL n k))) ∧ Below w.heap.size w w' := by
  have HD := hide (fun W => refDigs_any n W hn)
  have hl := decL_len n hn
  obtain ⟨L, hL⟩ : ∃ L, L = decL n := ⟨_, rfl⟩
  rw [← hL] at HD hl
  have HL := hide hL
  clear hL
  go_enter Tryd.func52, Tryd.ntmps52
  go_wp2_with fail
  refine (unhide HD _).mono ?_
  rintro e w2 ⟨rfl, hb⟩
  have HB := hide hb
  clear hb HD
  have hs0 := size_bts L
  go_wp2
  go_loop [5] (fun v => ∃ j : Nat, v = .string (bts (List.replicate j 48 ++ L)) ∧ (j = 0 ∨ j + L.length ≤ k)) (fun v => match v with | .string s => k - s.size | _ => 0)
  case atStart => exact ⟨0, by simp, Or.inl rfl⟩
  case round =>
    obtain ⟨j, rfl, hj⟩ := hrel
    have hsz : (bts (List.replicate j 48 ++ L)).size = j + L.length := by rw [size_bts]; simp
    have hnx : bts (List.replicate (j + 1) 48 ++ L) = ⟨#[48]⟩ ++ bts (List.replicate j 48 ++ L) := by
      apply ext_list
      simp [bts, List.replicate_succ]
    have HN := hide hnx
    obtain ⟨s, hs⟩ : ∃ s, s = bts (List.replicate j 48 ++ L) := ⟨_, rfl⟩
    rw [← hs] at hsz HN ⊢
    have HS := hide hs
    clear hnx hs
    by_cases hlt : j + L.length < k
    · have hlt' : (s.size : Int) < (k : Int) := by omega
      have hb1 : s.size ≤ 8 := by omega
      go_wp2
      go_round
      case rel => exact ⟨j + 1, by rw [unhide HN], by omega⟩
      case measure =>
        have hz2 := size_ahead s
        show k - ((⟨#[48]⟩ : ByteArray) ++ s).size < k - s.size
        omega
    · have hlt' : ¬ (s.size : Int) < (k : Int) := by omega
      have HE : Hid (wideL n k = List.replicate j 48 ++ L) := hide (by
        unfold wideL
        rw [← unhide HL]
        congr 2
        omega)
      go_wp2
      go_ret
      exact ⟨by rw [unhide HE, unhide HS]; rfl, unhide HB⟩
end Go.Proofs.YthpjogfclklefaaDoor
