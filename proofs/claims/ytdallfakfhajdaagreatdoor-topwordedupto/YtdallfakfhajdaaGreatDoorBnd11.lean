/-
  What strings.IndexRune tells of a letter that is not of ASCII in a text of two letters of ASCII, over this seat's program: there is none.
-/
import Derived.Test.YtdallfakfhajdaaGreatDoorBlc
import Derived.Scope
import Derived.Laws.RangeAny
import Derived.Laws.Runes
import Derived.Deep.QuietTactic
import Derived.BigQuiet
import Derived.WalkMore
import Derived.Test.YtdallfakfhajdaaGreatDoorShelf
import Derived.Lib.OthersKept
import Derived.Deep.LoopGhost
set_option linter.unusedVariables false
namespace Go.Proofs.YtdallfakfhajdaaGreatDoor
open Go.RowKit

theorem iterB (w : World) (s : ByteArray) (k : Nat) : Below w.heap.size w (w.iter s k) := (Below.refl _ w).alloc (Nat.le_refl _) _

set_option maxHeartbeats 2000000 in
set_option maxRecDepth 100000 in
theorem indexRune_err (C : ByteArray) (w : World) (h2 : C.size = 2) (ha : ∀ (j : Nat) (h : j < C.size), (C[j]'h).toNat < 128) :
    Calls Tryz.prog 138 #[.string C, .int .i32 65533] w fun e w' => e = .returned (.int .i64 (-1)) ∧ Below w.heap.size w w' := by
  have HA := hide ha
  clear ha h2
  go_enter Tryz.func138, Tryz.ntmps138
  go_wp2
  go_loopg [5, 6] C.size (fun g _ _ wx => ∃ i : Nat, i + g = C.size ∧ wx = w.iter C i)
  case atStart => exact ⟨0, by omega, rfl⟩
  case round =>
    obtain ⟨i, hig, rfl⟩ := hrel
    cases gk with
    | zero =>
      obtain rfl : i = C.size := by omega
      have hnx := fun ty => run_next_end (P := Tryz.prog) w C C.size ty (by omega)
      go_wp2
      go_ret
      exact ⟨rfl, iterB _ _ _⟩
    | succ g =>
      have hi : i < C.size := by omega
      have hx := unhide HA i hi
      have hnx := fun ty => run_next_ascii (P := Tryz.prog) w C i ty hi hx
      obtain ⟨x, hxx⟩ : ∃ x : UInt8, C[i]'hi = x := ⟨_, rfl⟩
      rw [hxx] at hnx hx
      clear hxx
      have hne : ((x.toNat : Int) == 65533) = false := by rw [beq_eq_false_iff_ne]; omega
      go_wp2
      go_roundg g
      case measure => omega
      case rel => exact ⟨i + 1, by omega, rfl⟩

set_option maxHeartbeats 2000000 in
set_option maxRecDepth 100000 in
theorem indexRune_no (C : ByteArray) (r : Int) (w : World) (h128 : 128 ≤ r) (hne : r ≠ 65533) (hv : Lib.validRune r = false) :
    Calls Tryz.prog 138 #[.string C, .int .i32 r] w fun e w' => e = .returned (.int .i64 (-1)) ∧ Below w.heap.size w w' := by
  have HV := hide (fun W => Tryz.utf8_ValidRune r W)
  rw [hv] at HV
  have hne' : (r == 65533) = false := by rw [beq_eq_false_iff_ne]; exact hne
  have h0 : 0 ≤ r := by omega
  have h1 : ¬ r < 128 := by omega
  clear hne hv
  go_enter Tryz.func138, Tryz.ntmps138
  go_wp2_with fail
  refine (unhide HV _).mono ?_
  rintro e _ ⟨rfl, rfl⟩
  go_wp2
  go_ret
  exact ⟨rfl, Below.refl _ _⟩

set_option maxHeartbeats 2000000 in
set_option maxRecDepth 100000 in
theorem indexRune_yes (C : ByteArray) (r : Int) (w : World) (h128 : 128 ≤ r) (hne : r ≠ 65533) (hv : Lib.validRune r = true) (h2 : C.size = 2) (ha : ∀ (j : Nat) (h : j < C.size), (C[j]'h).toNat < 128) :
    Calls Tryz.prog 138 #[.string C, .int .i32 r] w fun e w' => e = .returned (.int .i64 (-1)) ∧ Below w.heap.size w w' := by
  have HV := hide (fun W => Tryz.utf8_ValidRune r W)
  rw [hv] at HV
  have hne' : (r == 65533) = false := by rw [beq_eq_false_iff_ne]; exact hne
  have h0 : 0 ≤ r := by omega
  have h1 : ¬ r < 128 := by omega
  obtain ⟨e1, e2, e3⟩ := encode_facts r (by rw [validRune_eq]; exact hv) h128
  clear hne hv
  obtain ⟨rs, hrs⟩ : ∃ rs, Utf8.encode r = rs := ⟨_, rfl⟩
  rw [hrs] at e1 e2
  by_cases h3 : rs.size = 2
  · have hl1 : 1 < rs.size := by omega
    have hr1 : 128 ≤ (rs[1]'hl1).toNat := by
      subst hrs
      have := e3 (by omega)
      simpa [h3] using this
    have c1 := ha 1 (by omega)
    obtain ⟨x, hx⟩ : ∃ x : UInt8, C[1]'(by omega) = x := ⟨_, rfl⟩
    obtain ⟨y, hy⟩ : ∃ y : UInt8, rs[1]'hl1 = y := ⟨_, rfl⟩
    rw [hx] at c1
    rw [hy] at hr1
    have hne2 : ((x.toNat : Int) == (y.toNat : Int)) = false := by rw [beq_eq_false_iff_ne]; omega
    have HIB := hide (fun W => Tryz.strings_IndexByte (C.extract 2 C.size) (y.toNat : Int) W)
    have hxt : C.extract 2 C.size = ⟨#[]⟩ := by
      apply ext_list
      rw [toList_from, List.drop_of_length_le (by rw [sizeL]; omega)]
    rw [hxt] at HIB
    have S1 := fun W => slice_from C 2 2 rfl (by omega) W
    rw [hxt] at S1
    rw [show Lib.indexByte (⟨#[]⟩ : ByteArray).data.toList ((y.toNat : Int)).toNat.toUInt8 = -1 from rfl] at HIB
    clear e1 e2 e3 ha hxt
    go_enter Tryz.func138, Tryz.ntmps138
    go_wp2_with fail
    refine (unhide HV _).mono ?_
    rintro e w ⟨rfl, rfl⟩
    go_wp2_with fail
    refine wp_scope_straight ?_
    go_wp2
    go_loopw [9] (fun i wr => i = .int .i64 1 ∧ wr = w) (fun _ _ => 0)
    case atStart => exact ⟨rfl, rfl⟩
    case round =>
      obtain ⟨rfl, rfl⟩ := hrel
      go_wp2
      refine wp_scope_straight ?_
      go_wp2
      go_quiet (fail)
      have HB : Hid (Below wr.heap.size wr (wr.drewN nq)) := hide ⟨rfl, rfl, rfl, Nat.le_refl _, fun _ _ => rfl⟩
      generalize wr.drewN nq = wz at HB ⊢
      have hw2 : IntKind.i64.wrap 2 = 2 := by decide
      go_wp2
      go_quiet ((go_at_call 97; exact Calls.quiet_of_same (unhide HIB _)))
      go_wp2
      simp +zetaDelta only [Exit.noGoto, Exit.inBlock, Exit.then]
      go_ret
      exact ⟨rfl, (unhide HB).trans ⟨rfl, rfl, rfl, Nat.le_refl _, fun _ _ => rfl⟩⟩
  · have hs3 : (2 : Int) < (rs.size : Int) := by omega
    have hs4 : (rs.size : Int) ≤ 4 := by omega
    clear e1 e2 e3 ha
    go_enter Tryz.func138, Tryz.ntmps138
    go_wp2_with fail
    refine (unhide HV _).mono ?_
    rintro e w ⟨rfl, rfl⟩
    go_wp2_with fail
    refine wp_scope_straight ?_
    go_wp2
    go_loopw [9] (fun i wr => i = .int .i64 ((rs.size : Int) - 1) ∧ wr = w) (fun _ _ => 0)
    case atStart => exact ⟨rfl, rfl⟩
    case round =>
      obtain ⟨rfl, rfl⟩ := hrel
      have hs5 : ¬ (rs.size : Int) - 1 < 2 := by omega
      go_wp2
      (try simp only [Exit.noGoto])
      go_ret
      exact ⟨rfl, Below.refl _ _⟩

end Go.Proofs.YtdallfakfhajdaaGreatDoor

/-
  What strings.IndexAny tells of two letters of ASCII in whatever text, over this seat's program.
-/
set_option linter.unusedVariables false
namespace Go.Proofs.YtdallfakfhajdaaGreatDoor
open Go.RowKit

theorem get_byte (s : ByteArray) (k : Nat) (h : k < s.size) : s.get! k = s[k]'h := by
  have := get_at s k h
  simpa using this

/-- A letter that is not of ASCII has no byte that is. -/
theorem decode_bytes (s : ByteArray) (pos : Nat) (h : pos < s.size) (ha : 128 ≤ (s[pos]'h).toNat) :
    pos + (Utf8.decode s pos).2 ≤ s.size ∧ ∀ j, j < (Utf8.decode s pos).2 → ∀ hj : pos + j < s.size, 128 ≤ (s[pos + j]'hj).toNat := by
  have hg : (s.get! (pos + 0)).toNat = (s[pos]'h).toNat := by rw [get_at s pos h]
  have one : pos + 1 ≤ s.size ∧ ∀ j, j < 1 → ∀ hj : pos + j < s.size, 128 ≤ (s[pos + j]'hj).toNat := by
    refine ⟨by omega, fun j hj hjs => ?_⟩
    obtain rfl : j = 0 := by omega
    simpa using ha
  have cont : ∀ k, (decide (pos + k < s.size) && ((s.get! (pos + k)).toNat / 64 == 2)) = true → ∃ hk : pos + k < s.size, 128 ≤ (s[pos + k]'hk).toNat := by
    intro k hk
    rw [Bool.and_eq_true, decide_eq_true_eq] at hk
    refine ⟨hk.1, ?_⟩
    have h2 := hk.2
    rw [get_byte s (pos + k) hk.1] at h2
    have h3 := beq_iff_eq.1 h2
    omega
  unfold Utf8.decode
  simp only [hg]
  rw [if_neg (by omega)]
  split
  · rename_i h1
    rw [Bool.and_eq_true] at h1
    obtain ⟨k1, b1⟩ := cont 1 h1.2
    split
    · refine ⟨by show pos + 2 ≤ _; omega, fun j hj hjs => ?_⟩
      have hj' : j < 2 := hj
      rcases (by omega : j = 0 ∨ j = 1) with rfl | rfl
      · simpa using ha
      · exact b1
    · exact one
  · split
    · rename_i _ h1
      rw [Bool.and_eq_true, Bool.and_eq_true] at h1
      obtain ⟨k1, b1⟩ := cont 1 h1.1.2
      obtain ⟨k2, b2⟩ := cont 2 h1.2
      split
      · refine ⟨by show pos + 3 ≤ _; omega, fun j hj hjs => ?_⟩
        have hj' : j < 3 := hj
        rcases (by omega : j = 0 ∨ j = 1 ∨ j = 2) with rfl | rfl | rfl
        · simpa using ha
        · exact b1
        · exact b2
      · exact one
    · split
      · rename_i _ _ h1
        rw [Bool.and_eq_true, Bool.and_eq_true, Bool.and_eq_true] at h1
        obtain ⟨k1, b1⟩ := cont 1 h1.1.1.2
        obtain ⟨k2, b2⟩ := cont 2 h1.1.2
        obtain ⟨k3, b3⟩ := cont 3 h1.2
        split
        · refine ⟨by show pos + 4 ≤ _; omega, fun j hj hjs => ?_⟩
          have hj' : j < 4 := hj
          rcases (by omega : j = 0 ∨ j = 1 ∨ j = 2 ∨ j = 3) with rfl | rfl | rfl | rfl
          · simpa using ha
          · exact b1
          · exact b2
          · exact b3
        · exact one
      · exact one

/-- strings.IndexRune at a letter that is not of ASCII. -/
theorem indexRune_high (C : ByteArray) (r : Int) (w : World) (h128 : 128 ≤ r) (h2 : C.size = 2) (ha : ∀ (j : Nat) (h : j < C.size), (C[j]'h).toNat < 128) :
    Calls Tryz.prog 138 #[.string C, .int .i32 r] w fun e w' => e = .returned (.int .i64 (-1)) ∧ Below w.heap.size w w' := by
  by_cases he : r = 65533
  · subst he; exact indexRune_err C w h2 ha
  · cases hv : Lib.validRune r
    · exact indexRune_no C r w h128 he hv
    · exact indexRune_yes C r w h128 he hv h2 ha

theorem noAny_more {s C : ByteArray} {i n : Nat} (h : Lib.NoAny s.data.toList C.data.toList i) (hb : ∀ j, j < n → ∀ hj : i + j < s.size, 128 ≤ (s[i + j]'hj).toNat) (hC : ∀ c ∈ C.data.toList, c.toNat < 128) : Lib.NoAny s.data.toList C.data.toList (i + n) := by
  intro j b hj hs
  by_cases hji : j < i
  · exact h j b hji hs
  · have hlt : j < s.size := by
      have := (List.getElem?_eq_some_iff.1 hs).1
      rwa [sizeL] at this
    have h1 := hb (j - i) (by omega) (by omega)
    have e : s[i + (j - i)]'(by omega) = s[j]'hlt := by congr 1; omega
    rw [e] at h1
    have h3 : s[j]'hlt = b := by
      have := (List.getElem?_eq_some_iff.1 hs).2
      rw [← this]; rfl
    rw [h3] at h1
    cases hc : C.data.toList.contains b
    · rfl
    · have := hC b (by simpa using hc)
      omega

theorem iterAtB {B k : Nat} {w wr : World} (h : Below B w wr) (hk : B ≤ k) (s : ByteArray) (p : Nat) : Below B w (wr.iterAt k s p) := by
  refine ⟨h.os, h.tape, h.output, by simpa [World.iterAt] using h.size, fun i hi => ?_⟩
  rw [← h.block i hi]
  show (wr.heap.setIfInBounds k _)[i]? = _
  rw [Array.getElem?_setIfInBounds_ne (by omega)]

set_option maxHeartbeats 4000000 in
set_option maxRecDepth 100000 in
theorem indexAny_short (s C : ByteArray) (w : World) (h2 : C.size = 2) (ha : ∀ (j : Nat) (h : j < C.size), (C[j]'h).toNat < 128) (h8 : s.size ≤ 8) :
    Calls Tryz.prog 109 #[.string s, .string C] w fun e w' => e = .returned (.int .i64 (Lib.indexAny s.data.toList C.data.toList)) ∧ Below w.heap.size w w' := by
  have hCm : ∀ c ∈ C.data.toList, c.toNat < 128 := by
    intro c hc
    obtain ⟨j, hj, rfl⟩ := List.getElem_of_mem hc
    exact ha j (by rwa [sizeL] at hj)
  have HCM := hide hCm
  have HIR := hide (fun (r : Int) (h : 128 ≤ r) W => indexRune_high C r W h h2 ha)
  have hemp : C.toList.isEmpty = false := by
    rw [Lib.toList_data]
    cases h : C.data.toList with
    | nil => have := sizeL C; rw [h, List.length_nil] at this; omega
    | cons _ _ => rfl
  have hn1 : ((C.size : Int) == 1) = false := beq_eq_false_iff_ne.2 (by omega)
  have HSU := hide (fun W => Tryz.strings_shouldUseASCIISet (s.size : Int) W)
  rw [show decide ((8 : Int) < (s.size : Int)) = false from decide_eq_false (by omega)] at HSU
  clear h2 ha hCm h8
  go_enter Tryz.func109, Tryz.ntmps109
  go_wp2_with fail
  refine (unhide HSU _).mono ?_
  rintro e w ⟨rfl, rfl⟩
  go_wp2
  go_loopg [9, 10] s.size (fun g _ _ wx => ∃ i : Nat, i + g = s.size ∧ Hid (wx.heap[w.heap.size]? = some (.stringIter s i)) ∧ Hid (Below w.heap.size w wx) ∧ Hid (Lib.NoAny s.data.toList C.data.toList i))
  case atStart => exact ⟨0, by omega, hide (World.iter_heap w s 0), hide (iterB _ _ _), hide (Lib.NoAny.zero _ _)⟩
  case round =>
    obtain ⟨i, hig, HH, HB, HN⟩ := hrel
    cases gk with
    | zero =>
      obtain rfl : i = s.size := by omega
      have hnx := fun ty => Lib.run_next_end_at (P := Tryz.prog) wr w.heap.size s s.size ty (unhide HH) (by omega)
      go_wp2
      go_ret
      exact ⟨by rw [Lib.indexAny_none (by rw [sizeL]; exact unhide HN)]; rfl, unhide HB⟩
    | succ g =>
      have hi : i < s.size := by omega
      by_cases hlow : (s[i]'hi).toNat < 128
      · have hnx := fun ty => Lib.run_next_ascii_at (P := Tryz.prog) wr w.heap.size s i ty (unhide HH) hi hlow
        have HH1 := hide (Lib.iterAt_heap wr w.heap.size s i (i + 1) (unhide HH))
        have HB1 := hide (iterAtB (unhide HB) (Nat.le_refl _) s (i + 1))
        obtain ⟨x, hx⟩ : ∃ x : UInt8, s[i]'hi = x := ⟨_, rfl⟩
        have hxl : s.data.toList[i]? = some x := by rw [← hx, List.getElem?_eq_getElem (by rw [sizeL]; exact hi)]; rfl
        rw [hx] at hnx hlow
        have HX := hide hxl
        have HRA := hide (fun W => Tryz.strings_IndexRune_ascii C (x.toNat : Int) W (by omega) (by omega))
        rw [show ((x.toNat : Int)).toNat.toUInt8 = x by simp] at HRA
        have hcon := Lib.contains_iff_indexByte C.data.toList x
        clear hxl hx HH HB
        cases hin : C.data.toList.contains x
        · rw [hin] at hcon
          have hlt : ¬ ((0 : Int) ≤ Lib.indexByte C.data.toList x) := of_decide_eq_false hcon.symm
          have HIN := hide hin
          clear hcon hin
          go_wp2_with fail
          refine (unhide HRA _).mono ?_
          rintro e _ ⟨rfl, rfl⟩
          go_wp2
          go_roundg g
          case measure => omega
          case rel => exact ⟨i + 1, by omega, HH1, HB1, hide ((unhide HN).succ (unhide HX) (unhide HIN))⟩
        · rw [hin] at hcon
          have hge : (0 : Int) ≤ Lib.indexByte C.data.toList x := of_decide_eq_true hcon.symm
          have HIN := hide hin
          clear hcon hin
          go_wp2_with fail
          refine (unhide HRA _).mono ?_
          rintro e _ ⟨rfl, rfl⟩
          go_wp2
          go_ret
          exact ⟨by rw [Lib.indexAny_hit (unhide HN) (unhide HX) (unhide HIN)]; rfl, unhide HB1⟩
      · have hhi : 128 ≤ (s[i]'hi).toNat := by omega
        have hnx := fun ty => Lib.run_next_any_at (P := Tryz.prog) wr w.heap.size s i ty (unhide HH) hi
        obtain ⟨d1, d2⟩ := decode_high s i hi hhi
        obtain ⟨b1, b2⟩ := decode_bytes s i hi hhi
        obtain ⟨r, n, hrn⟩ : ∃ r n, Utf8.decode s i = (r, n) := ⟨_, _, rfl⟩
        rw [hrn] at d1 d2 b1 b2
        simp only [hrn] at hnx
        simp only at d1 d2 b1 b2
        have HN1 := hide (noAny_more (unhide HN) b2 (unhide HCM))
        have HH1 := hide (Lib.iterAt_heap wr w.heap.size s i (i + n) (unhide HH))
        have HB1 := hide (iterAtB (unhide HB) (Nat.le_refl _) s (i + n))
        have HRR := hide (unhide HIR (r : Int) (by omega))
        clear hrn b2 HH HB hhi hlow d1 HN
        go_wp2_with fail
        refine (unhide HRR _).mono ?_
        rintro e w2 ⟨rfl, hb2⟩
        have HB2 := hide ((unhide HB1).trans (hb2.mono (unhide HB1).size))
        have HH2 : Hid (w2.heap[w.heap.size]? = some (.stringIter s (i + n))) := hide (by
          rw [hb2.block w.heap.size (Array.getElem?_eq_some_iff.1 (unhide HH1)).1]; exact unhide HH1)
        clear hb2
        go_wp2
        go_roundg (s.size - (i + n))
        case measure => omega
        case rel => exact ⟨i + n, by omega, HH2, HB2, HN1⟩

end Go.Proofs.YtdallfakfhajdaaGreatDoor
