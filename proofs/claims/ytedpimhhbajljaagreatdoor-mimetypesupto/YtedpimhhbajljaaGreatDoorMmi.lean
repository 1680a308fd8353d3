/-
  What the cut of a part of mime does, over this seat's program.
-/
import Derived.Test.YtedpimhhbajljaaGreatDoorMmh
set_option linter.unusedVariables false
set_option linter.unusedSimpArgs false
namespace Go.Proofs.YtedpimhhbajljaaGreatDoor
open Go.RowKit Go.Proofs.Hed

/-- The ends of the texts of a part's own parts, as pieces of its body. -/
def kidsP (lv : Int) (ty body bd : List UInt8) : List (Nat × Nat) :=
  if lv ≥ 8 then [] else if ty = [109, 101, 115, 115, 97, 103, 101, 47, 114, 102, 99, 56, 50, 50] then [(0, body.length)]
  else if Lib.hasPrefix ty [109, 117, 108, 116, 105, 112, 97, 114, 116, 47] = true ∧ bd ≠ [] then betw body ([45, 45] ++ bd) else []
theorem eqL (s : ByteArray) (l : List UInt8) : (s.toList == l) = decide (s.data.toList = l) := by
  rw [ByteArray.toList_eq]
  by_cases h : s.data.toList = l
  · rw [h]; simp
  · rw [decide_eq_false h]; simpa using h
theorem all_of (s : ByteArray) : s.extract 0 s.size = s := by
  apply ext_list
  rw [toList_upto]
  exact List.take_of_length_le (by rw [sizeL]; omega)

set_option maxHeartbeats 2000000 in
set_option maxRecDepth 100000 in
theorem cutM_any (P : Nat) (lv : Int) (ty body bd : ByteArray) (x2 x3 x4 x5 : Value) (w : World) (hp : Blk w P 77 #[.int .i64 lv, .string ty, x2, x3, x4, x5]) (hs : body.size ≤ 16777216) (hb : bd.size ≤ 16777216) :
    Calls Tryz.prog 69 #[.pointer (some ⟨P, 0, none⟩), .string body, .string bd] w fun e w' => ∃ v, e = .returned v ∧ w'.ownsRow w.heap.size 9 1 v (kidsP lv ty.data.toList body.data.toList bd.data.toList).length ((kidsP lv ty.data.toList body.data.toList bd.data.toList).map (cutV body)) ∧ (kidsP lv ty.data.toList body.data.toList bd.data.toList).length ≤ 257 ∧ Below w.heap.size w w' := by
  have hsl := sizeL body
  have c0 := hp.cell 0
  have c1 := hp.cell 1
  simp only [List.getElem?_toArray, List.getElem?_cons_succ, List.getElem?_cons_zero] at c0 c1
  have q1 := eqL ty [109, 101, 115, 115, 97, 103, 101, 47, 114, 102, 99, 56, 50, 50]
  have HPX := hide (fun W => Tryz.strings_HasPrefix ty ⟨#[109, 117, 108, 116, 105, 112, 97, 114, 116, 47]⟩ W)
  rw [show (⟨#[109, 117, 108, 116, 105, 112, 97, 114, 116, 47]⟩ : ByteArray).data.toList = [109, 117, 108, 116, 105, 112, 97, 114, 116, 47] from rfl] at HPX
  have hbe : bd.toList.isEmpty = decide (bd.data.toList = []) := by
    rw [ByteArray.toList_eq]
    cases bd.data.toList <;> simp
  unfold kidsP
  have HEMP : Hid (∀ X : World, X.ownsRow w.heap.size 9 1 (.slice none 0 0) 0 []) := hide (fun X => ⟨rfl, Or.inl ⟨rfl, rfl⟩⟩)
  by_cases h8 : lv ≥ 8
  · rw [if_pos h8]
    have d8 : decide (lv ≥ 8) = true := decide_eq_true h8
    clear HPX q1 hbe
    go_enter Tryz.func69, Tryz.ntmps69
    go_wp2
    go_ret
    exact ⟨_, rfl, unhide HEMP _, by simp, Below.refl _ _⟩
  · rw [if_neg h8]
    have d8 : decide (lv ≥ 8) = false := decide_eq_false h8
    by_cases hm : ty.data.toList = [109, 101, 115, 115, 97, 103, 101, 47, 114, 102, 99, 56, 50, 50]
    · rw [if_pos hm]
      rw [decide_eq_true hm] at q1
      have bA : Below w.heap.size w (w.alloc (Obj.cells #[.string body] 9)) := (Below.refl _ _).alloc (Nat.le_refl _) _
      have HO : Hid ((w.alloc (Obj.cells #[.string body] 9)).ownsRow w.heap.size 9 1 (.slice (some ⟨w.heap.size, 0, none⟩) 1 1) 1 [cutV body (0, body.data.toList.length)]) := hide (by
        have h := World.ownsRow_lit (e := 9) (size := 1) (base := w.heap.size) w #[.string body] 1 (Nat.le_refl _) (by unfold maxLen; omega) rfl
        rw [show cutV body (0, body.data.toList.length) = .string body by unfold cutV; rw [hsl, all_of]]
        exact h)
      have HB := hide bA
      clear HPX hbe hm bA
      go_enter Tryz.func69, Tryz.ntmps69
      go_wp2
      go_ret
      first | exact ⟨_, rfl, unhide HO, by simp, unhide HB⟩ | exact ⟨_, rfl, unhide HO, unhide HB⟩
    · rw [if_neg hm]
      rw [decide_eq_false hm] at q1
      cases hpx : Lib.hasPrefix ty.data.toList [109, 117, 108, 116, 105, 112, 97, 114, 116, 47] with
      | false =>
        rw [hpx] at HPX
        rw [if_neg (by simp)]
        clear hpx hm hbe
        go_enter Tryz.func69, Tryz.ntmps69
        go_wp2_with fail
        refine (unhide HPX _).mono ?_
        rintro e w1 ⟨rfl, h1⟩
        subst h1
        go_wp2
        go_ret
        exact ⟨_, rfl, unhide HEMP _, by simp, Below.refl _ _⟩
      | true =>
        rw [hpx] at HPX
        by_cases hbd : bd.data.toList = []
        · rw [if_neg (by simp [hbd])]
          rw [decide_eq_true hbd] at hbe
          clear hpx hm hbd
          go_enter Tryz.func69, Tryz.ntmps69
          go_wp2_with fail
          refine (unhide HPX _).mono ?_
          rintro e w1 ⟨rfl, h1⟩
          subst h1
          go_wp2
          go_ret
          exact ⟨_, rfl, unhide HEMP _, by simp, Below.refl _ _⟩
        · rw [if_pos ⟨rfl, hbd⟩]
          rw [decide_eq_false hbd] at hbe
          have hmd : (({ data := #[45, 45] } : ByteArray) ++ bd).data.toList = [45, 45] ++ bd.data.toList := by rw [ByteArray.data_append]; simp
          have HBT := hide (fun W => between_any body ({ data := #[45, 45] } ++ bd) W hs)
          rw [hmd] at HBT
          generalize betw body.data.toList ([45, 45] ++ bd.data.toList) = KL at HBT ⊢
          obtain ⟨M, hM⟩ : ∃ M, KL.length = M := ⟨_, rfl⟩
          rw [hM] at HBT ⊢
          clear hM
          have hz2 : ({ data := #[45, 45] } : ByteArray).size = 2 := rfl
          have hsum : 2 + bd.size ≤ 16777218 := by omega
          clear hpx hm hbd hmd
          go_enter Tryz.func69, Tryz.ntmps69
          go_wp2_with fail
          refine (unhide HPX _).mono ?_
          rintro e w1 ⟨rfl, h1⟩
          subst h1
          go_wp2_with fail
          refine (unhide HBT _).mono ?_
          rintro e w2 ⟨v2, rfl, o2, n2, b2⟩
          obtain ⟨av, cv, hv⟩ := own_formH o2
          have HO := hide o2
          have B2 := hide b2
          rw [hv]
          clear o2 b2
          go_wp2
          go_ret
          exact ⟨_, rfl, by rw [← hv]; exact unhide HO, n2, unhide B2⟩
end Go.Proofs.YtedpimhhbajljaaGreatDoor
