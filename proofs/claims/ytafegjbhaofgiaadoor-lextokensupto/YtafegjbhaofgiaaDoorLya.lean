/-
  What missiveref03.Digits and missiveref28.one do, over this seat's program.
-/
import Derived.Test.YtafegjbhaofgiaaDoorLxz
import Derived.Test.YtafegjbhaofgiaaDoorLxj
import Derived.Test.YtafegjbhaofgiaaDoorRow
import Derived.Deep.QuietTactic
import Derived.BigQuiet
import Derived.Deep.RegionHeld3
set_option linter.unusedVariables false
set_option linter.unusedSimpArgs false
namespace Go.Proofs.YtafegjbhaofgiaaDoor
open Go.RowKit Go.Proofs.Lx

/-- A literal of one byte, as a string. -/
theorem lit_oneL (w : World) (x : Nat) (hx : x ≤ 255) :
    (convert 56 9 (.slice (some ⟨w.heap.size, 0, none⟩) 1 1)).run Tryd.prog (w.alloc (.cells #[.int .u8 (x : Int)] 5)) = .ok (.string (bts [UInt8.ofNat x])) (w.alloc (.cells #[.int .u8 (x : Int)] 5)) := by
  refine run_convert_bytes_back (P := Tryd.prog) (w.alloc (.cells #[.int .u8 (x : Int)] 5)) 56 9 5 ⟨w.heap.size, 0, none⟩ 1 [UInt8.ofNat x] Tryd.underlying56 Tryd.underlying5 Tryd.underlying9 (fun j hj => ?_)
  have hj' : j = 0 := by simp at hj; omega
  subst hj'
  have hadd : Addr.add ⟨w.heap.size, 0, none⟩ 0 = ⟨w.heap.size, 0, none⟩ := by simp [Addr.add]
  rw [hadd, Blk.cell (Blk.new w _ _)]
  simp
  omega
theorem ret_strL {a b : ByteArray} (h : a = b) : Ending.returned (.string a) = .returned (.string b) := by rw [h]

set_option maxHeartbeats 1000000 in
set_option maxRecDepth 100000 in
theorem digitsL_any (n : Nat) (hn : n ≤ 18446744073709551615) (w : World) : Calls Tryd.prog 50 #[.int .u64 (n : Int)] w fun e w' => e = .returned (.string (bts (Lib.decDigits n))) ∧ Below w.heap.size w w' := by
  induction n using Nat.strongRecOn generalizing w with
  | _ n ih =>
    obtain ⟨d, hd⟩ : ∃ d, d = n % 10 := ⟨_, rfl⟩
    have hd9 : d ≤ 9 := by omega
    have hm1 : (n : Int) % 10 = (d : Int) := by omega
    have hm2 : (n : Int).tmod 10 = (d : Int) := by rw [Int.tmod_eq_emod_of_nonneg (by omega)]; omega
    have hlit := fun W => lit_oneL W (48 + d) (by omega)
    rw [show ((48 + d : Nat) : Int) = 48 + (d : Int) by omega] at hlit
    obtain ⟨X, hX⟩ : ∃ X, X = bts [UInt8.ofNat (48 + d)] := ⟨_, rfl⟩
    rw [← hX] at hlit
    have hXz : X.size = 1 := by rw [hX, size_bts]; rfl
    have hal : ∀ W : World, Below W.heap.size W (W.alloc (.cells #[.int .u8 (48 + (d : Int))] 5)) := fun W => (Below.refl _ W).alloc (Nat.le_refl _) _
    have HAL := hide hal
    clear hal
    by_cases h9 : n < 10
    · have h9' : ¬ 9 < (n : Int) := by omega
      have HF : Hid (bts (Lib.decDigits n) = X) := hide (by rw [Lib.decDigits_one h9, hX]; congr 3; omega)
      clear ih hX hd h9
      go_enter Tryd.func50, Tryd.ntmps50
      go_wp2
      go_ret
      exact ⟨ret_strL (unhide HF).symm, unhide HAL w⟩
    · have h9' : 9 < (n : Int) := by omega
      obtain ⟨q, hq⟩ : ∃ q, q = n / 10 := ⟨_, rfl⟩
      have hq1 : (n : Int) / 10 = (q : Int) := by omega
      have hq2 : (n : Int).tdiv 10 = (q : Int) := by rw [Int.tdiv_eq_ediv_of_nonneg (by omega)]; omega
      have IH := hide (fun W => ih q (by omega) (by omega) W)
      obtain ⟨Y, hY⟩ : ∃ Y, Y = bts (Lib.decDigits q) := ⟨_, rfl⟩
      rw [← hY] at IH
      have hYz : Y.size ≤ 20 := by
        rw [hY, size_bts, Lib.decDigits_length]
        have := Lib.numDigits_eq q (by omega) (by omega)
        split at this <;> omega
      have HF : Hid (bts (Lib.decDigits n) = Y ++ X) := hide (by
        rw [Lib.decDigits, dif_neg h9, hX, hY]
        apply ext_list
        rw [toList_bts, ByteArray.data_append, Array.toList_append, toList_bts, toList_bts, ← hq, ← hd])
      clear ih hX hY hd hq h9
      go_enter Tryd.func50, Tryd.ntmps50
      go_wp2_with fail
      refine (unhide IH _).mono ?_
      rintro e w1 ⟨rfl, b1⟩
      have B1 := hide ((unhide HAL w).trans (b1.mono (unhide HAL w).size))
      clear b1 IH
      go_wp2
      go_ret
      exact ⟨ret_strL (unhide HF).symm, unhide B1⟩
end Go.Proofs.YtafegjbhaofgiaaDoor
