/-
  What date.monthOf and the moment's has, take and readDay do, over this seat's program.
-/
import Derived.Test.YtdallfakfhajdaaGreatDoorDtx
import Derived.Test.YtdallfakfhajdaaGreatDoorCts
set_option linter.unusedVariables false
namespace Go.Proofs.YtdallfakfhajdaaGreatDoor
open Go.RowKit Go.Proofs.Dcl

theorem nmL_len (k : Nat) (h : k < 12) : (nmL k).length = 3 := by
  have : k = 0 ∨ k = 1 ∨ k = 2 ∨ k = 3 ∨ k = 4 ∨ k = 5 ∨ k = 6 ∨ k = 7 ∨ k = 8 ∨ k = 9 ∨ k = 10 ∨ k = 11 := by omega
  rcases this with rfl | rfl | rfl | rfl | rfl | rfl | rfl | rfl | rfl | rfl | rfl | rfl <;> rfl

def monV (m : Nat) : Value := if m = 0 then .tuple #[.int .i64 0, .bool false] else .tuple #[.int .i64 (m : Int), .bool true]

set_option maxHeartbeats 1000000 in
theorem monthOf_any (s : ByteArray) (w : World) (hs : s.size ≤ 281474976710656) :
    Calls Tryz.prog 63 #[.string s] w fun e w' => e = .returned (monV (monR s.data.toList)) ∧ ∃ q, w' = w.drewN q := by
  go_enter Tryz.func63, Tryz.ntmps63
  go_wp2
  go_loopw [5] (fun i wr => ∃ k q : Nat, i = .int .i64 (k : Int) ∧ k ≤ 12 ∧ Hid (monR s.data.toList = monF s.data.toList (12 - k) k) ∧ wr = w.drewN q) (fun i _ => 12 - (intOf i).toNat)
  case atStart => exact ⟨0, 0, rfl, by omega, hide rfl, rfl⟩
  case round =>
    obtain ⟨k, q, rfl, hk, HE, rfl⟩ := hrel
    by_cases hlt : k < 12
    · have hlt' : (k : Int) < 12 := by omega
      have HN := hide (fun W => nameOf_any k W hlt)
      have HL := hide (fun W => like_any s (bts (nmL k)) W hs (by rw [size_bts, nmL_len k hlt]; omega))
      have he := unhide HE
      obtain ⟨f, hf⟩ : ∃ f, 12 - k = f + 1 := ⟨11 - k, by omega⟩
      rw [hf] at he
      unfold monF at he
      rw [toList_bts] at HL
      clear HE
      by_cases hm : smL s.data.toList = smL (nmL k)
      · rw [if_pos hm] at he
        rw [decide_eq_true hm] at HL
        have HE := hide he
        clear hm he hf
        go_wp2_with fail
        refine (unhide HN _).mono ?_
        rintro e _ ⟨rfl, rfl⟩
        go_wp2_with fail
        refine (unhide HL _).mono ?_
        rintro e _ ⟨rfl, q2, rfl⟩
        go_wp2
        go_ret2
        exact ⟨by rw [unhide HE]; simp [monV], q + q2, by first | rfl | rw [World.drewN_drewN]⟩
      · rw [if_neg hm] at he
        rw [decide_eq_false hm] at HL
        have HE := hide he
        have hf' : f = 12 - (k + 1) := by omega
        subst hf'
        clear hm he hf
        go_wp2_with fail
        refine (unhide HN _).mono ?_
        rintro e _ ⟨rfl, rfl⟩
        go_wp2_with fail
        refine (unhide HL _).mono ?_
        rintro e _ ⟨rfl, q2, rfl⟩
        go_wp2
        go_roundw
        case rel => exact ⟨k + 1, q + q2, by go_num, by omega, HE, by first | rfl | rw [World.drewN_drewN]⟩
        case measure => simp [intOf]; omega
    · obtain rfl : k = 12 := by omega
      go_wp2
      go_ret2
      exact ⟨by rw [unhide HE]; rfl, q, rfl⟩

/-- A moment at work: its day, second, zone, and what is left of its text. -/
def Mom (w : World) (b : Nat) (d s z : Int) (l : ByteArray) : Prop := Blk w b 94 #[.int .i64 d, .int .i64 s, .int .i64 z, .string l]

theorem Mom.left {w : World} {b : Nat} {d s z : Int} {l : ByteArray} (h : Mom w b d s z l) (l' : ByteArray) : Mom (w.setCell ⟨b, 3, none⟩ (.string l')) b d s z l' := Blk.set h 3 (.string l')
theorem Mom.day {w : World} {b : Nat} {d s z : Int} {l : ByteArray} (h : Mom w b d s z l) (d' : Int) : Mom (w.setCell ⟨b, 0, none⟩ (.int .i64 d')) b d' s z l := Blk.set h 0 (.int .i64 d')
theorem Mom.drew {w : World} {b : Nat} {d s z : Int} {l : ByteArray} (h : Mom w b d s z l) (q : Nat) : Mom (w.drewN q) b d s z l := h

/-- What is left behind a byte that is asked for. -/
def behindB (c : UInt8) (l : ByteArray) : ByteArray := if l.data.toList.head? = some c then l.extract 1 l.size else l

set_option maxHeartbeats 1000000 in
theorem take_any (b : Nat) (d s z : Int) (l : ByteArray) (k : Nat) (w : World) (hM : Mom w b d s z l) (hs : l.size ≤ 281474976710656) (hk : k ≤ 281474976710656) :
    Calls Tryz.prog 110 #[.pointer (some ⟨b, 0, none⟩), .int .i64 (k : Int)] w fun e w' => e = .returned (.string (bts (l.data.toList.take k))) ∧ w' = w.setCell ⟨b, 3, none⟩ (.string (bts (l.data.toList.drop k))) := by
  have c3 : w.cell? ⟨b, 3, none⟩ = some (.string l) := (Blk.cell hM 3).trans rfl
  have f3 := Blk.frozen hM 3
  clear hM
  by_cases hlt : k ≤ l.size
  · have hlt' : (k : Int) ≤ (l.size : Int) := by omega
    have S1 := fun W => slice_upto l (k : Int) k rfl hlt W
    have S2 := fun W => slice_from l (k : Int) k rfl hlt W
    have e1 : l.extract 0 k = bts (l.data.toList.take k) := ext_list (by rw [toList_upto, toList_bts])
    have e2 : l.extract k l.size = bts (l.data.toList.drop k) := ext_list (by rw [toList_from, toList_bts])
    rw [e1] at S1
    rw [e2] at S2
    generalize bts (l.data.toList.take k) = p at S1 ⊢
    generalize bts (l.data.toList.drop k) = q at S2 ⊢
    clear e1 e2
    have hmin : min (k : Int) (l.size : Int) = (k : Int) := by omega
    go_enter Tryz.func110, Tryz.ntmps110
    go_wp2
    go_ret
    exact ⟨rfl, rfl⟩
  · have hlt' : ¬ (k : Int) ≤ (l.size : Int) := by omega
    have S1 := fun W => slice_upto l (l.size : Int) l.size rfl (Nat.le_refl _) W
    have S2 := fun W => slice_from l (l.size : Int) l.size rfl (Nat.le_refl _) W
    have e1 : l.extract 0 l.size = bts (l.data.toList.take k) := ext_list (by rw [toList_upto, toList_bts, List.take_of_length_le (by rw [sizeL]; omega), List.take_of_length_le (by rw [sizeL]; omega)])
    have e2 : l.extract l.size l.size = bts (l.data.toList.drop k) := ext_list (by rw [toList_from, toList_bts, List.drop_of_length_le (by rw [sizeL]; omega), List.drop_of_length_le (by rw [sizeL]; omega)])
    rw [e1] at S1
    rw [e2] at S2
    generalize bts (l.data.toList.take k) = p at S1 ⊢
    generalize bts (l.data.toList.drop k) = q at S2 ⊢
    clear e1 e2
    have hmin : min (k : Int) (l.size : Int) = (l.size : Int) := by omega
    go_enter Tryz.func110, Tryz.ntmps110
    go_wp2
    go_ret
    exact ⟨rfl, rfl⟩

end Go.Proofs.YtdallfakfhajdaaGreatDoor
