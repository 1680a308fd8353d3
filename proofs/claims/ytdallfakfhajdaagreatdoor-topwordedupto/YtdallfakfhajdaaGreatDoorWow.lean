/-
  What word.writeWord does, over this seat's program.
-/
import Derived.Test.YtdallfakfhajdaaGreatDoorWop
set_option linter.unusedVariables false
namespace Go.Proofs.YtdallfakfhajdaaGreatDoor
open Go.RowKit Go.Proofs.Enc

/-- Bytes as one word. -/
def wordT (base : Bool) (t : List UInt8) : List UInt8 := [61, 63] ++ ([85, 84, 70, 45, 56] ++ ((if base then [63, 66, 63] ++ b64 t else [63, 81, 63] ++ qL t) ++ [63, 61]))
theorem wordT_len (base : Bool) (t : List UInt8) : (wordT base t).length ≤ 3 * t.length + 30 := by
  unfold wordT
  have h1 := qL_len t
  have h2 := b64_length t
  cases base
  · simp; omega
  · simp; omega

set_option maxHeartbeats 2000000 in
set_option maxRecDepth 100000 in
theorem writeWord_any {u W : World} {l : List UInt8} (h : Wr u W l) (t : ByteArray) (base : Bool) (hl : l.length + 3 * t.size ≤ 1099511627000) :
    Calls Tryz.prog 40 #[.pointer (some ⟨u.heap.size, 0, none⟩), .string t, .bool base] W fun e w' => e = .returned (.tuple #[]) ∧ Wr u w' (l ++ wordT base t.data.toList) := by
  have H1 := hide (wStr h (bts [61, 63]) (by rw [size_bts]; simp; omega))
  rw [toList_bts] at H1
  simp only [bts] at H1
  have hsl := sizeL t
  have hb := b64_length t.data.toList
  have hq := qL_len t.data.toList
  clear h
  go_enter Tryz.func40, Tryz.ntmps40
  go_wp2_with fail
  refine (unhide H1).mono ?_
  rintro e w1 ⟨rfl, h1⟩
  have H2 := hide (wStr h1 (bts [85, 84, 70, 45, 56]) (by rw [size_bts, List.length_append]; simp; omega))
  rw [toList_bts] at H2
  simp only [bts] at H2
  clear h1 H1
  go_wp2_with fail
  refine (unhide H2).mono ?_
  rintro e w2 ⟨rfl, h2⟩
  clear H2
  cases base
  · have H3 := hide (wStr h2 (bts [63, 81, 63]) (by rw [size_bts]; simp; omega))
    rw [toList_bts] at H3
    simp only [bts] at H3
    clear h2
    go_wp2_with fail
    refine (unhide H3).mono ?_
    rintro e w3 ⟨rfl, h3⟩
    have H4 := hide (writeQ_any h3 t (by simp; omega))
    clear h3 H3
    go_wp2_with fail
    refine (unhide H4).mono ?_
    rintro e w4 ⟨rfl, h4⟩
    have H5 := hide (wStr h4 (bts [63, 61]) (by rw [size_bts]; simp; omega))
    rw [toList_bts] at H5
    simp only [bts] at H5
    clear h4 H4
    go_wp2_with fail
    refine (unhide H5).mono ?_
    rintro e w5 ⟨rfl, h5⟩
    have HR : Hid (Wr u w5 (l ++ wordT false t.data.toList)) := hide (by
      have e : l ++ wordT false t.data.toList = l ++ [61, 63] ++ [85, 84, 70, 45, 56] ++ [63, 81, 63] ++ qL t.data.toList ++ [63, 61] := by unfold wordT; simp
      rw [e]; exact h5)
    clear h5 H5
    go_wp2
    go_end0
    exact ⟨rfl, unhide HR⟩
  · have H3 := hide (wStr h2 (bts [63, 66, 63]) (by rw [size_bts]; simp; omega))
    rw [toList_bts] at H3
    simp only [bts] at H3
    clear h2
    go_wp2_with fail
    refine (unhide H3).mono ?_
    rintro e w3 ⟨rfl, h3⟩
    have H4 := hide (base64_any t w3 (by omega))
    have HW3 := hide h3
    clear h3 H3
    go_wp2_with fail
    refine (unhide H4).mono ?_
    rintro e w4 ⟨rfl, b4⟩
    have h4 := (unhide HW3).below b4
    have H5 := hide (wStr h4 (bts (b64 t.data.toList)) (by rw [size_bts, hb]; simp; omega))
    rw [toList_bts] at H5
    generalize bts (b64 t.data.toList) = tb at H5 ⊢
    clear h4 H4 HW3 b4
    go_wp2_with fail
    refine (unhide H5).mono ?_
    rintro e w5 ⟨rfl, h5⟩
    have H6 := hide (wStr h5 (bts [63, 61]) (by rw [size_bts]; simp; omega))
    rw [toList_bts] at H6
    simp only [bts] at H6
    clear h5 H5
    go_wp2_with fail
    refine (unhide H6).mono ?_
    rintro e w6 ⟨rfl, h6⟩
    have HR : Hid (Wr u w6 (l ++ wordT true t.data.toList)) := hide (by
      have e : l ++ wordT true t.data.toList = l ++ [61, 63] ++ [85, 84, 70, 45, 56] ++ [63, 66, 63] ++ b64 t.data.toList ++ [63, 61] := by unfold wordT; simp
      rw [e]; exact h6)
    clear h6 H6
    go_wp2
    go_end0
    exact ⟨rfl, unhide HR⟩
end Go.Proofs.YtdallfakfhajdaaGreatDoor
