/-
  What word.One does, over this seat's program.
-/
import Derived.Test.YtdallfakfhajdaaGreatDoorWrx
set_option linter.unusedVariables false
namespace Go.Proofs.YtdallfakfhajdaaGreatDoor
open Go.RowKit Go.Proofs.Enc Go.Proofs.Rns

theorem rdN_le (l : List UInt8) : rdN (rdW l) ≤ l.length := by
  unfold rdW
  cases opW l with
  | none => simp [rdN]
  | some r =>
    simp only
    unfold rdP
    split
    · split
      · split
        · simp [rdN]
        · simp only [rdN]; omega
      · simp [rdN]
    · simp [rdN]
/-- What One answers: the letters, what is behind them, and why not. -/
def oneW (l : List UInt8) : List Nat × List UInt8 × Nat := if rdN (rdW l) = 0 then ([], [], 7) else (rdL (rdW l), l.drop (rdN (rdW l)), 0)

set_option maxHeartbeats 4000000 in
theorem one_word (s : ByteArray) (w : World) (ht : RTabN w) (hes : ErrS w) (hs : s.size ≤ 40000000) :
    Calls Tryz.prog 9 #[.string s] w fun e w' => ∃ v, e = .returned (.tuple #[v, .string (bts (oneW s.data.toList).2.1), .int .i64 (oneW s.data.toList).2.2]) ∧ w'.ownsRow w.heap.size 21 1 v (oneW s.data.toList).1.length (runeC (oneW s.data.toList).1) ∧ Below w.heap.size w w' := by
  have HRW := hide (readWord_any s w ht hes hs)
  have hle := rdN_le s.data.toList
  rw [sizeL] at hle
  clear ht hes
  by_cases hz : rdN (rdW s.data.toList) = 0
  · have HF : Hid (oneW s.data.toList = ([], [], 7)) := hide (by unfold oneW; rw [if_pos hz])
    rw [hz] at HRW
    clear hz hle
    go_enter Tryz.func9, Tryz.ntmps9
    go_wp2_with fail
    refine (unhide HRW).mono ?_
    rintro e w2 ⟨v, rfl, ho, hb⟩
    have HB := hide hb
    clear hb ho HRW
    go_wp2
    go_ret3
    exact ⟨_, by rw [unhide HF]; rfl, by rw [unhide HF]; exact own_none _ _ _, unhide HB⟩
  · have hb : bts (s.data.toList.drop (rdN (rdW s.data.toList))) = s.extract (rdN (rdW s.data.toList)) s.size := by apply ext_list; rw [toList_bts, toList_from]
    have HF : Hid (oneW s.data.toList = (rdL (rdW s.data.toList), s.data.toList.drop (rdN (rdW s.data.toList)), 0)) := hide (by unfold oneW; rw [if_neg hz])
    obtain ⟨n, hn⟩ : ∃ n, n = rdN (rdW s.data.toList) := ⟨_, rfl⟩
    rw [← hn] at HRW HF hle hz hb
    have hsl := fun W => slice_from s n n rfl hle W
    have HCL := hide (fun W => clone_str (s.extract n s.size) W (by rw [size_part _ _ _ (Nat.le_refl _)]; omega))
    rw [← hb] at hsl HCL
    have HBT : Hid (bts (oneW s.data.toList).2.1 = bts (s.data.toList.drop n)) := hide (by rw [unhide HF])
    generalize bts (s.data.toList.drop n) = t at hsl HCL HBT
    have hzi : ¬ (n : Int) = 0 := by omega
    clear hb hn
    go_enter Tryz.func9, Tryz.ntmps9
    go_wp2_with fail
    refine (unhide HRW).mono ?_
    rintro e w2 ⟨v, rfl, ho, hb⟩
    have HB := hide hb
    have HO := hide ho
    clear hb ho HRW
    go_wp2_with fail
    refine (unhide HCL _).mono ?_
    rintro e w3 ⟨rfl, hb⟩
    have HO3 := hide (own_below (unhide HO) hb)
    have HB3 := hide (belows' (unhide HB) hb)
    clear hb HCL HB HO
    go_wp2
    go_ret3
    exact ⟨v, by rw [unhide HBT, unhide HF]; rfl, by rw [unhide HF]; exact unhide HO3, unhide HB3⟩
end Go.Proofs.YtdallfakfhajdaaGreatDoor
