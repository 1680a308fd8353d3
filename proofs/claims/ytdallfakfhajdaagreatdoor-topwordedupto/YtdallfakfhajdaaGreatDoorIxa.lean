/-
  What strings.IndexAny tells of two letters of ASCII in whatever text, over this seat's program.
-/
import Derived.Test.YtdallfakfhajdaaGreatDoorIxr
import Derived.Test.YtdallfakfhajdaaGreatDoorShelf
import Derived.Lib.OthersKept
import Derived.Deep.LoopGhost
set_option linter.unusedVariables false
namespace Go.Proofs.YtdallfakfhajdaaGreatDoor
open Go.RowKit

theorem get_byte (s : ByteArray) (k : Nat) (h : k < s.size) : s.get! k = s[k]'h := by
  have := get_at s k h
  simpa using this

/-- A letter that is not of ASCII has no byte that is. -/
theorem decode_bytes (s : ByteArray) (pos : Nat) (h : pos < s.size) (ha : 128 ≤ (s[pos]'h).toNat) :
    pos + (Utf8.decode s pos).2 ≤ s.size ∧ ∀ j, j < (Utf8.decode s pos).2 → ∀ hj : pos + j < s.size, 128 ≤ (s[pos + j]'hj).toNat := by
  have hg : (s.get! (pos + 0)).toNat = (s[pos]'h).toNat := by rw [get_at s pos h]
  have one : pos + 1 ≤ s.size ∧ ∀ j, j < 1 → ∀ hj : pos + j < s.size, 128 ≤ (s[pos + j]'hj).toNat := by
    refine ⟨by omega, fun j hj hjs => ?_⟩
    obtain rfl : j = 0 := by omega
    simpa using ha
  have cont : ∀ k, (decide (pos + k < s.size) && ((s.get! (pos + k)).toNat / 64 == 2)) = true → ∃ hk : pos + k < s.size, 128 ≤ (s[pos + k]'hk).toNat := by
    intro k hk
    rw [Bool.and_eq_true, decide_eq_true_eq] at hk
    refine ⟨hk.1, ?_⟩
    have h2 := hk.2
    rw [get_byte s (pos + k) hk.1] at h2
    have h3 := beq_iff_eq.1 h2
    omega
  unfold Utf8.decode
  simp only [hg]
  rw [if_neg (by omega)]
  split
  · rename_i h1
    rw [Bool.and_eq_true] at h1
    obtain ⟨k1, b1⟩ := cont 1 h1.2
    split
    · refine ⟨by show pos + 2 ≤ _; omega, fun j hj hjs => ?_⟩
      have hj' : j < 2 := hj
      rcases (by omega : j = 0 ∨ j = 1) with rfl | rfl
      · simpa using ha
      · exact b1
    · exact one
  · split
    · rename_i _ h1
      rw [Bool.and_eq_true, Bool.and_eq_true] at h1
      obtain ⟨k1, b1⟩ := cont 1 h1.1.2
      obtain ⟨k2, b2⟩ := cont 2 h1.2
      split
      · refine ⟨by show pos + 3 ≤ _; omega, fun j hj hjs => ?_⟩
        have hj' : j < 3 := hj
        rcases (by omega : j = 0 ∨ j = 1 ∨ j = 2) with rfl | rfl | rfl
        · simpa using ha
        · exact b1
        · exact b2
      · exact one
    · split
      · rename_i _ _ h1
        rw [Bool.and_eq_true, Bool.and_eq_true, Bool.and_eq_true] at h1
        obtain ⟨k1, b1⟩ := cont 1 h1.1.1.2
        obtain ⟨k2, b2⟩ := cont 2 h1.1.2
        obtain ⟨k3, b3⟩ := cont 3 h1.2
        split
        · refine ⟨by show pos + 4 ≤ _; omega, fun j hj hjs => ?_⟩
          have hj' : j < 4 := hj
          rcases (by omega : j = 0 ∨ j = 1 ∨ j = 2 ∨ j = 3) with rfl | rfl | rfl | rfl
          · simpa using ha
          · exact b1
          · exact b2
          · exact b3
        · exact one
      · exact one

/-- strings.IndexRune at a letter that is not of ASCII. -/
theorem indexRune_high (C : ByteArray) (r : Int) (w : World) (h128 : 128 ≤ r) (h2 : C.size = 2) (ha : ∀ (j : Nat) (h : j < C.size), (C[j]'h).toNat < 128) :
    Calls Tryz.prog 138 #[.string C, .int .i32 r] w fun e w' => e = .returned (.int .i64 (-1)) ∧ Below w.heap.size w w' := by
  by_cases he : r = 65533
  · subst he; exact indexRune_err C w h2 ha
  · cases hv : Lib.validRune r
    · exact indexRune_no C r w h128 he hv
    · exact indexRune_yes C r w h128 he hv h2 ha

theorem noAny_more {s C : ByteArray} {i n : Nat} (h : Lib.NoAny s.data.toList C.data.toList i) (hb : ∀ j, j < n → ∀ hj : i + j < s.size, 128 ≤ (s[i + j]'hj).toNat) (hC : ∀ c ∈ C.data.toList, c.toNat < 128) : Lib.NoAny s.data.toList C.data.toList (i + n) := by
  intro j b hj hs
  by_cases hji : j < i
  · exact h j b hji hs
  · have hlt : j < s.size := by
      have := (List.getElem?_eq_some_iff.1 hs).1
      rwa [sizeL] at this
    have h1 := hb (j - i) (by omega) (by omega)
    have e : s[i + (j - i)]'(by omega) = s[j]'hlt := by congr 1; omega
    rw [e] at h1
    have h3 : s[j]'hlt = b := by
      have := (List.getElem?_eq_some_iff.1 hs).2
      rw [← this]; rfl
    rw [h3] at h1
    cases hc : C.data.toList.contains b
    · rfl
    · have := hC b (by simpa using hc)
      omega

theorem iterAtB {B k : Nat} {w wr : World} (h : Below B w wr) (hk : B ≤ k) (s : ByteArray) (p : Nat) : Below B w (wr.iterAt k s p) := by
  refine ⟨h.os, h.tape, h.output, by simpa [World.iterAt] using h.size, fun i hi => ?_⟩
  rw [← h.block i hi]
  show (wr.heap.setIfInBounds k _)[i]? = _
  rw [Array.getElem?_setIfInBounds_ne (by omega)]

set_option maxHeartbeats 4000000 in
set_option maxRecDepth 100000 in
theorem indexAny_short (s C : ByteArray) (w : World) (h2 : C.size = 2) (ha : ∀ (j : Nat) (h : j < C.size), (C[j]'h).toNat < 128) (h8 : s.size ≤ 8) :
    Calls Tryz.prog 109 #[.string s, .string C] w fun e w' => e = .returned (.int .i64 (Lib.indexAny s.data.toList C.data.toList)) ∧ Below w.heap.size w w' := by
  have hCm : ∀ c ∈ C.data.toList, c.toNat < 128 := by
    intro c hc
    obtain ⟨j, hj, rfl⟩ := List.getElem_of_mem hc
    exact ha j (by rwa [sizeL] at hj)
  have HCM := hide hCm
  have HIR := hide (fun (r : Int) (h : 128 ≤ r) W => indexRune_high C r W h h2 ha)
  have hemp : C.toList.isEmpty = false := by
    rw [Lib.toList_data]
    cases h : C.data.toList with
    | nil => have := sizeL C; rw [h, List.length_nil] at this; omega
    | cons _ _ => rfl
  have hn1 : ((C.size : Int) == 1) = false := beq_eq_false_iff_ne.2 (by omega)
  have HSU := hide (fun W => Tryz.strings_shouldUseASCIISet (s.size : Int) W)
  rw [show decide ((8 : Int) < (s.size : Int)) = false from decide_eq_false (by omega)] at HSU
  clear h2 ha hCm h8
  go_enter Tryz.func109, Tryz.ntmps109
  go_wp2_with fail
  refine (unhide HSU _).mono ?_
  rintro e w ⟨rfl, rfl⟩
  go_wp2
  go_loopg [9, 10] s.size (fun g _ _ wx => ∃ i : Nat, i + g = s.size ∧ Hid (wx.heap[w.heap.size]? = some (.stringIter s i)) ∧ Hid (Below w.heap.size w wx) ∧ Hid (Lib.NoAny s.data.toList C.data.toList i))
  case atStart => exact ⟨0, by omega, hide (World.iter_heap w s 0), hide (iterB _ _ _), hide (Lib.NoAny.zero _ _)⟩
  case round =>
    obtain ⟨i, hig, HH, HB, HN⟩ := hrel
    cases gk with
    | zero =>
      obtain rfl : i = s.size := by omega
      have hnx := fun ty => Lib.run_next_end_at (P := Tryz.prog) wr w.heap.size s s.size ty (unhide HH) (by omega)
      go_wp2
      go_ret
      exact ⟨by rw [Lib.indexAny_none (by rw [sizeL]; exact unhide HN)]; rfl, unhide HB⟩
    | succ g =>
      have hi : i < s.size := by omega
      by_cases hlow : (s[i]'hi).toNat < 128
      · have hnx := fun ty => Lib.run_next_ascii_at (P := Tryz.prog) wr w.heap.size s i ty (unhide HH) hi hlow
        have HH1 := hide (Lib.iterAt_heap wr w.heap.size s i (i + 1) (unhide HH))
        have HB1 := hide (iterAtB (unhide HB) (Nat.le_refl _) s (i + 1))
        obtain ⟨x, hx⟩ : ∃ x : UInt8, s[i]'hi = x := ⟨_, rfl⟩
        have hxl : s.data.toList[i]? = some x := by rw [← hx, List.getElem?_eq_getElem (by rw [sizeL]; exact hi)]; rfl
        rw [hx] at hnx hlow
        have HX := hide hxl
        have HRA := hide (fun W => Tryz.strings_IndexRune_ascii C (x.toNat : Int) W (by omega) (by omega))
        rw [show ((x.toNat : Int)).toNat.toUInt8 = x by simp] at HRA
        have hcon := Lib.contains_iff_indexByte C.data.toList x
        clear hxl hx HH HB
        cases hin : C.data.toList.contains x
        · rw [hin] at hcon
          have hlt : ¬ ((0 : Int) ≤ Lib.indexByte C.data.toList x) := of_decide_eq_false hcon.symm
          have HIN := hide hin
          clear hcon hin
          go_wp2_with fail
          refine (unhide HRA _).mono ?_
          rintro e _ ⟨rfl, rfl⟩
          go_wp2
          go_roundg g
          case measure => omega
          case rel => exact ⟨i + 1, by omega, HH1, HB1, hide ((unhide HN).succ (unhide HX) (unhide HIN))⟩
        · rw [hin] at hcon
          have hge : (0 : Int) ≤ Lib.indexByte C.data.toList x := of_decide_eq_true hcon.symm
          have HIN := hide hin
          clear hcon hin
          go_wp2_with fail
          refine (unhide HRA _).mono ?_
          rintro e _ ⟨rfl, rfl⟩
          go_wp2
          go_ret
          exact ⟨by rw [Lib.indexAny_hit (unhide HN) (unhide HX) (unhide HIN)]; rfl, unhide HB1⟩
      · have hhi : 128 ≤ (s[i]'hi).toNat := by omega
        have hnx := fun ty => Lib.run_next_any_at (P := Tryz.prog) wr w.heap.size s i ty (unhide HH) hi
        obtain ⟨d1, d2⟩ := decode_high s i hi hhi
        obtain ⟨b1, b2⟩ := decode_bytes s i hi hhi
        obtain ⟨r, n, hrn⟩ : ∃ r n, Utf8.decode s i = (r, n) := ⟨_, _, rfl⟩
        rw [hrn] at d1 d2 b1 b2
        simp only [hrn] at hnx
        simp only at d1 d2 b1 b2
        have HN1 := hide (noAny_more (unhide HN) b2 (unhide HCM))
        have HH1 := hide (Lib.iterAt_heap wr w.heap.size s i (i + n) (unhide HH))
        have HB1 := hide (iterAtB (unhide HB) (Nat.le_refl _) s (i + n))
        have HRR := hide (unhide HIR (r : Int) (by omega))
        clear hrn b2 HH HB hhi hlow d1 HN
        go_wp2_with fail
        refine (unhide HRR _).mono ?_
        rintro e w2 ⟨rfl, hb2⟩
        have HB2 := hide ((unhide HB1).trans (hb2.mono (unhide HB1).size))
        have HH2 : Hid (w2.heap[w.heap.size]? = some (.stringIter s (i + n))) := hide (by
          rw [hb2.block w.heap.size (Array.getElem?_eq_some_iff.1 (unhide HH1)).1]; exact unhide HH1)
        clear hb2
        go_wp2
        go_roundg (s.size - (i + n))
        case measure => omega
        case rel => exact ⟨i + n, by omega, HH2, HB2, HN1⟩

end Go.Proofs.YtdallfakfhajdaaGreatDoor
