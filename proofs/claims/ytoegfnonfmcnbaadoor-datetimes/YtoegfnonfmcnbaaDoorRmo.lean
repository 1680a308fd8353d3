/-
  What the document's month of layer 10 does, over this seat's program.
-/
import Derived.Test.YtoegfnonfmcnbaaDoorDmo
import Derived.Test.YtoegfnonfmcnbaaDoorRsl
set_option linter.unusedVariables false
namespace Go.Proofs.YtoegfnonfmcnbaaDoor
open Go.RowKit Go.Proofs.Dcl

set_option maxHeartbeats 1000000 in
theorem refMonth_any (s : ByteArray) (w : World) (hs : s.size ≤ 1099511627776) :
    Calls Tryd.prog 19 #[.string s] w fun e w' => e = .returned (.int .i64 (monR s.data.toList : Int)) ∧ Below w.heap.size w w' := by
  go_enter Tryd.func19, Tryd.ntmps19
  go_wp2
  go_loopw [3] (fun i wr => ∃ k : Nat, i = .int .i64 (k : Int) ∧ k ≤ 12 ∧ Hid (monR s.data.toList = monF s.data.toList (12 - k) k) ∧ Hid (Below w.heap.size w wr)) (fun i _ => 12 - (intOf i).toNat)
  case atStart => exact ⟨0, rfl, by omega, hide rfl, hide (Below.refl _ _)⟩
  case round =>
    obtain ⟨k, rfl, hk, HE, HB⟩ := hrel
    by_cases hlt : k < 12
    · have hlt' : (k : Int) < 12 := by omega
      have hp := name_part k hlt
      have hsl : ∀ W : World, (Instr.slice 9 (.string (bts [74, 97, 110, 70, 101, 98, 77, 97, 114, 65, 112, 114, 77, 97, 121, 74, 117, 110, 74, 117, 108, 65, 117, 103, 83, 101, 112, 79, 99, 116, 78, 111, 118, 68, 101, 99])) (some (.int .i64 (3 * (k : Int)))) (some (.int .i64 (3 * (k : Int) + 3))) none).run Tryd.prog W = .ok (.string (bts (nmL k))) W := by
        intro W
        have := slice_km (bts [74, 97, 110, 70, 101, 98, 77, 97, 114, 65, 112, 114, 77, 97, 121, 74, 117, 110, 74, 117, 108, 65, 117, 103, 83, 101, 112, 79, 99, 116, 78, 111, 118, 68, 101, 99]) (k * 3) 3 (by rw [size_bts]; simp; omega) W
        rw [hp] at this
        rwa [show ((k * 3 : Nat) : Int) = 3 * (k : Int) by omega, show 3 * (k : Int) + ((3 : Nat) : Int) = 3 * (k : Int) + 3 by omega] at this
      simp only [bts, List.toArray] at hsl
      have HL := hide (fun W => refLike_any s (bts (nmL k)) W hs (by rw [size_bts, nmL_len k hlt]; omega))
      have he := unhide HE
      obtain ⟨f, hf⟩ : ∃ f, 12 - k = f + 1 := ⟨11 - k, by omega⟩
      rw [hf] at he
      unfold monF at he
      rw [toList_bts] at HL
      have HNB : Hid (bts (nmL k) = { data := (nmL k).toArray }) := hide rfl
      clear HE hp
      by_cases hm : smL s.data.toList = smL (nmL k)
      · rw [if_pos hm] at he
        rw [decide_eq_true hm] at HL
        have HE := hide he
        clear hm he hf
        go_wp2_with fail
        refine (unhide HL _).mono ?_
        rintro e w2 ⟨rfl, b2⟩
        have HB2 := hide (belows' (unhide HB) b2)
        clear b2
        go_wp2
        go_ret
        exact ⟨by rw [unhide HE]; go_num, unhide HB2⟩
      · rw [if_neg hm] at he
        rw [decide_eq_false hm] at HL
        have HE := hide he
        have hf' : f = 12 - (k + 1) := by omega
        subst hf'
        clear hm he hf
        go_wp2_with fail
        refine (unhide HL _).mono ?_
        rintro e w2 ⟨rfl, b2⟩
        have HB2 := hide (belows' (unhide HB) b2)
        clear b2
        go_wp2
        exact ⟨⟨k + 1, by go_num, by omega, HE, HB2⟩, by simp [intOf]; omega⟩
    · have hk2 : k = 12 := by omega
      subst hk2
      have HE2 : Hid (monR s.data.toList = 0) := hide (by rw [unhide HE]; rfl)
      clear HE
      go_wp2
      go_ret
      exact ⟨by rw [unhide HE2]; rfl, unhide HB⟩
end Go.Proofs.YtoegfnonfmcnbaaDoor
