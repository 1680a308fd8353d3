/-
  What vari.write and vari.Put do, over this seat's program: Put answers the number's bytes, and no older memory turns.
-/
import Derived.Test.YtpfmhlldkikbjaaDoorStr
import Derived.Test.YtpfmhlldkikbjaaDoorNum
import Derived.Test.YtpfmhlldkikbjaaDoorShelf
import Derived.BigCall
import Derived.Laws.BitsAllLaws
set_option linter.unusedVariables false
namespace Go.Proofs.YtpfmhlldkikbjaaDoor
open Go.RowKit Go.Proofs.Num

theorem or128_fin : ∀ x : Fin 256, x.val ||| 128 = x.val % 128 + 128 := by decide +kernel
theorem or128 (m : Nat) : bits .or .u8 ((m : Int) % 256) 128 = ((m % 128 + 128 : Nat) : Int) := by
  have h1 : ((m : Int) % 256) = ((m % 256 : Nat) : Int) := by omega
  rw [h1]
  refine (u8_or_nat (m % 256) 128 (by omega) (by omega)).trans ?_
  have := or128_fin ⟨m % 256, by omega⟩
  simp only at this
  rw [this]
  omega

set_option maxHeartbeats 1000000 in
set_option maxRecDepth 100000 in
theorem vwrite_any (B b : Nat) (l : List UInt8) (n : Nat) (w : World) (hn : n < 18446744073709551616) (h : Lib.IsBuilderF 49 5 B b (Lib.byteCells l) w) (hlen : l.length + 10 ≤ 140737488355328) (hBw : B ≤ w.heap.size) :
    Calls Tryd.prog 40 #[.pointer (some ⟨b, 0, none⟩), .int .u64 n] w fun e w' => e = .returned (.tuple #[]) ∧ Lib.IsBuilderF 49 5 B b (Lib.byteCells (l ++ putL n)) w' ∧ Below B w w' ∧ Lib.OthersKept 5 (some b) w w' := by
  have hl10 := putL_len10 hn
  go_enter Tryd.func40, Tryd.ntmps40
  go_wp2
  go_loopw [1] (fun v wr => ∃ (m : Nat) (acc : List UInt8), v = .int .u64 m ∧ m < 18446744073709551616 ∧ acc ++ putL m = l ++ putL n ∧ Lib.IsBuilderF 49 5 B b (Lib.byteCells acc) wr ∧ Below B w wr ∧ Lib.OthersKept 5 (some b) w wr) (fun v wr => (intOf v).toNat)
  case atStart => exact ⟨n, l, rfl, hn, rfl, h, Below.refl _ _, Lib.OthersKept.refl _ _ _⟩
  case round =>
    obtain ⟨m, acc, rfl, hm, hacc, hI, hbw, hok⟩ := hrel
    have hal := congrArg List.length hacc
    have hpm := putL_pos m
    simp at hal
    have hbs := hbw.size
    by_cases h128 : 128 ≤ m
    · have hor := or128 m
      have h1 : ((m : Int) % 256) = ((m % 256 : Nat) : Int) := by omega
      have hu : (((m % 128 + 128 : Nat)) : Int) = ((UInt8.ofNat (m % 128 + 128)).toNat : Int) := by simp; omega
      rw [putL_big h128] at hacc
      have H1 := hide hor
      have H2 := hide hu
      have H3 := hide hacc
      clear hor hu hacc h1
      go_wp2_with (go_at_call 55; refine (writeByte_k B b (Lib.byteCells acc) _ _ hI (by rw [Lib.byteCells_length]; omega) (by omega)).mono ?_)
      rintro e w1 ⟨rfl, h1, hb1, hk1⟩
      rw [unhide H1, byteCells_snoc acc _ _ (unhide H2)] at h1
      go_wp2
      go_roundw
      case rel => exact ⟨m / 128, acc ++ [UInt8.ofNat (m % 128 + 128)], by go_num, by omega, by rw [← unhide H3]; simp, Or.inr h1, hbw.trans hb1, hok.trans hk1⟩
      case measure => simp [intOf]; omega
    · have hu : (m : Int) = ((UInt8.ofNat m).toNat : Int) := by simp; omega
      rw [putL_small (by omega)] at hacc
      have H2 := hide hu
      have H3 := hide hacc
      clear hu hacc
      go_wp2_with (go_at_call 55; refine (writeByte_k B b (Lib.byteCells acc) _ _ hI (by rw [Lib.byteCells_length]; omega) (by omega)).mono ?_)
      rintro e w1 ⟨rfl, h1, hb1, hk1⟩
      rw [byteCells_snoc acc _ _ (unhide H2), unhide H3] at h1
      go_wp2
      go_end0
      exact ⟨rfl, Or.inr h1, hbw.trans hb1, hok.trans hk1⟩

set_option maxHeartbeats 1000000 in
set_option maxRecDepth 100000 in
/-- vari.Put answers the number's bytes. -/
theorem put_any (n : Nat) (w : World) (hn : n < 18446744073709551616) :
    Calls Tryd.prog 15 #[.int .u64 n] w fun e w' => e = .returned (.string ⟨(putL n).toArray⟩) ∧ Below w.heap.size w w' := by
  go_enter Tryd.func15, Tryd.ntmps15
  go_wp2_with (go_at_call 40; refine (vwrite_any w.heap.size w.heap.size [] n _ hn (Lib.IsBuilderF.of (Lib.fresh_isBuilder 49 5 w)) (by simp) (by simp)).mono ?_)
  rintro e w1 ⟨rfl, h1, hb1, hk1⟩
  have hs := hb1.size
  simp at hs h1
  go_wp2_with (go_at_call 18; refine (Tryd.Builder_String_any_k w.heap.size w.heap.size (putL n) _ h1 (by omega)).mono ?_)
  rintro e w2 ⟨rfl, _, hb2, _⟩
  go_wp2
  go_ret
  exact ⟨rfl, (((Below.refl _ w).alloc (Nat.le_refl _) _).trans hb1).trans hb2⟩
end Go.Proofs.YtpfmhlldkikbjaaDoor
