/-
  Proved: missivelaw01.VariRead answers true for every list of uint32 and every string, and leaves its arguments as they were; no condition.
-/
import Derived.Test.YtekcbkaanlngdaaRows
import Derived.Test.YtekcbkaanlngdaaLsq
import Derived.ProofKit
import Derived.OpenShut
import Derived.ShutString
import Derived.ChangeOld
import Derived.Below
import Derived.SizedLaws
set_option linter.unusedVariables false
namespace Go.Proofs.Ytekcbkaanlngdaa.variRead
open Go.ChangeShapes Go.WideShapes Go.ChangeAt Go.RowKit Go.Proofs.Num
open Go.ChangeMaps (open_string shut_string)

theorem read_err (s : ByteArray) (c : Nat) (w : World) (hs : s.size ≤ 281474976710656) (h : readR s.data.toList = .error c) :
    Calls Try.prog 22 #[.string s] w fun e w' => e = .returned (.tuple #[.slice none 0 0, .string { data := #[] }, .int .i64 c]) ∧ Below w.heap.size w w' := by
  refine (read_any s w hs).mono ?_
  rintro e w' ⟨v, x, d, rfl, hr, hb⟩
  unfold ReadIs at hr
  rw [h] at hr
  obtain ⟨rfl, rfl, rfl⟩ := hr
  exact ⟨rfl, hb⟩
theorem read_ok (s : ByteArray) (l : List Nat) (k : Nat) (w : World) (hs : s.size ≤ 281474976710656) (h : readR s.data.toList = .ok (l, k)) :
    Calls Try.prog 22 #[.string s] w fun e w' => ∃ v, e = .returned (.tuple #[v, .string (s.extract k s.size), .int .i64 0]) ∧ Row w' v l ∧ Below w.heap.size w w' := by
  refine (read_any s w hs).mono ?_
  rintro e w' ⟨v, x, d, rfl, hr, hb⟩
  unfold ReadIs at hr
  rw [h] at hr
  obtain ⟨hrow, rfl, rfl⟩ := hr
  exact ⟨v, rfl, hrow, hb⟩
theorem read_list (s : ByteArray) (l : List Nat) (b : List UInt8) (w : World) (hs : b.length + s.size ≤ 281474976710656) (hl : ∀ n ∈ l, n ≤ 4294967295) (h : listR l = (b, 0)) :
    Calls Try.prog 22 #[.string (bts b ++ s)] w fun e w' => ∃ v, e = .returned (.tuple #[v, .string s, .int .i64 0]) ∧ Row w' v l ∧ Below w.heap.size w w' := by
  have hr : readR (bts b ++ s).data.toList = .ok (l, b.length) := by rw [toList_add, toList_bts]; exact readR_listR l b _ hl h
  have hx : (bts b ++ s).extract b.length (bts b ++ s).size = s := by
    apply ext_list
    rw [toList_from, toList_add, toList_bts, List.drop_left']
    rfl
  have := read_ok (bts b ++ s) l b.length w (by rw [ByteArray.size_append, size_bts]; omega) hr
  rw [hx] at this
  exact this

theorem listR_len {l : List Nat} {b : List UInt8} (hl : ∀ n ∈ l, n ≤ 4294967295) (h : listR l = (b, 0)) : b.length ≤ 655370 := by
  unfold listR at h
  by_cases h6 : 65536 < l.length
  · simp [h6] at h
  · rw [if_neg h6] at h
    cases hg : gaps 0 l with
    | none => simp [hg] at h
    | some g =>
      simp [hg] at h
      subst h
      have := gaps_length l 0 g hl hg
      have := putL_len10 (n := l.length) (by omega)
      simp
      omega

theorem listR_ways (l : List Nat) : (∃ b, listR l = (b, 0)) ∨ ∃ c, listR l = ([], c) ∧ c ≠ 0 := by
  unfold listR
  by_cases h6 : 65536 < l.length
  · rw [if_pos h6]; exact Or.inr ⟨1, rfl, by omega⟩
  · rw [if_neg h6]
    cases gaps 0 l with
    | none => exact Or.inr ⟨12, rfl, by omega⟩
    | some g => exact Or.inl ⟨_, rfl⟩

theorem take_back (s : ByteArray) (k : Nat) : bts (s.data.toList.take k) ++ s.extract k s.size = s := by
  apply ext_list
  rw [toList_add, toList_bts, toList_from, List.take_append_drop]

set_option maxHeartbeats 1000000 in
set_option maxRecDepth 100000 in
theorem okErr (a0 : Option Addr) (len0 cap0 : Nat) (l : List Nat) (a1 : ByteArray) (w : World) (hrow : Row w (.slice a0 len0 cap0) l) (g1 : a1.size ≤ 140737488351232) (b : List UInt8) (hlr0 : listR l = (b, 0)) (d : Nat) (hrr : readR a1.data.toList = .error d) (hd : d ≠ 0) :
    Calls Try.prog 8 #[.slice a0 len0 cap0, .string a1] w fun e w' => e = .returned (.bool true) ∧ Below w.heap.size w w' := by
  have HL := hide hrow
  have hnn : ∀ n ∈ l, n ≤ 4294967295 := by obtain ⟨_, _, _, _, h, _⟩ := hrow; exact h
  have HNN := hide hnn
  have hbl := listR_len hnn hlr0
  have HLR := hide hlr0
  clear hlr0 hrow hnn
  have HRR := hide hrr
  have hdne : ((d : Int) == 0) = false := by simp; omega
  clear hrr hd
  go_enter Try.func8, Try.ntmps8
  go_wp2_with fail
  refine (lists_any _).mono ?_
  rintro e w1 ⟨rfl, b1⟩
  go_wp2_with fail
  refine (list_any _ l _ ((unhide HL).below b1)).mono ?_
  rintro e w2 ⟨rfl, b2⟩
  rw [unhide HLR]
  have HL2 := hide (((unhide HL).below b1).below b2)
  have hss1 : (bts b).size + a1.size ≤ 9223372036854775807 := by rw [size_bts]; omega
  go_wp2_with fail
  refine (read_list a1 l b _ (by omega) (unhide HNN) (unhide HLR)).mono ?_
  rintro e w3 ⟨v, rfl, hrow, b3⟩
  have HV := hide hrow
  clear hrow
  go_wp2_with fail
  refine (same_any v _ l l _ (unhide HV) ((unhide HL2).below b3)).mono ?_
  rintro e w4 ⟨rfl, b4⟩
  rw [show decide (l = l) = true by simp]
  have bb : Below w.heap.size w w4 := belows (belows (belows b1 b2) b3) b4
  clear b1 b2 b3 b4
  go_wp2_with fail
  refine (read_err a1 d _ (by omega) (unhide HRR)).mono ?_
  rintro e w5 ⟨rfl, b5⟩
  go_wp2
  go_ret
  exact ⟨rfl, belows bb b5⟩

set_option maxHeartbeats 1000000 in
set_option maxRecDepth 100000 in
theorem okNil (a0 : Option Addr) (len0 cap0 : Nat) (l : List Nat) (a1 : ByteArray) (w : World) (hrow : Row w (.slice a0 len0 cap0) l) (g1 : a1.size ≤ 140737488351232) (b : List UInt8) (hlr0 : listR l = (b, 0)) (r : List Nat) (k0 : Nat) (hrr : readR a1.data.toList = .ok (r, k0)) (hrn : r = []) :
    Calls Try.prog 8 #[.slice a0 len0 cap0, .string a1] w fun e w' => e = .returned (.bool true) ∧ Below w.heap.size w w' := by
  have HL := hide hrow
  have hnn : ∀ n ∈ l, n ≤ 4294967295 := by obtain ⟨_, _, _, _, h, _⟩ := hrow; exact h
  have HNN := hide hnn
  have hbl := listR_len hnn hlr0
  have HLR := hide hlr0
  clear hlr0 hrow hnn
  have HRR := hide hrr
  have HRL := hide (readR_ok hrr).1
  clear hrr
  go_enter Try.func8, Try.ntmps8
  go_wp2_with fail
  refine (lists_any _).mono ?_
  rintro e w1 ⟨rfl, b1⟩
  go_wp2_with fail
  refine (list_any _ l _ ((unhide HL).below b1)).mono ?_
  rintro e w2 ⟨rfl, b2⟩
  rw [unhide HLR]
  have HL2 := hide (((unhide HL).below b1).below b2)
  have hss1 : (bts b).size + a1.size ≤ 9223372036854775807 := by rw [size_bts]; omega
  go_wp2_with fail
  refine (read_list a1 l b _ (by omega) (unhide HNN) (unhide HLR)).mono ?_
  rintro e w3 ⟨v, rfl, hrow, b3⟩
  have HV := hide hrow
  clear hrow
  go_wp2_with fail
  refine (same_any v _ l l _ (unhide HV) ((unhide HL2).below b3)).mono ?_
  rintro e w4 ⟨rfl, b4⟩
  rw [show decide (l = l) = true by simp]
  have bb : Below w.heap.size w w4 := belows (belows (belows b1 b2) b3) b4
  clear b1 b2 b3 b4
  go_wp2_with fail
  refine (read_ok a1 r k0 _ (by omega) (unhide HRR)).mono ?_
  rintro e w5 ⟨v5, rfl, hrow5, b5⟩
  obtain ⟨ar, capr, rfl, hlr, hnr, hcr⟩ := hrow5
  have HRow := hide (show Row w5 (.slice ar r.length capr) r from ⟨ar, capr, rfl, hlr, hnr, hcr⟩)
  have bb5 := belows bb b5
  have hr0 : r.length = 0 := by rw [hrn]; rfl
  clear hcr hnr hrn bb b5
  go_wp2
  go_loopw [13, 63] (fun x z wr => z = .int .i64 0 ∧ Below w5.heap.size w5 wr) (fun _ _ _ => 0)
  case atStart => exact ⟨rfl, Below.refl _ _⟩
  case round =>
    obtain ⟨rfl, hbw⟩ := hrel
    go_wp2_with fail
    refine (list_any _ r _ ?_).mono ?_
    · have h9 := (unhide HRow).below hbw
      rw [hr0] at h9
      exact h9
    · rintro e w6 ⟨rfl, b6⟩
      rw [unhide HRL]
      have htb := take_back a1 k0
      have hss : (bts (a1.data.toList.take k0)).size + (a1.extract k0 a1.size).size ≤ 9223372036854775807 := by have hsl : a1.data.toList.length = a1.size := Array.length_toList ..; rw [size_bts, ByteArray.size_extract, List.length_take]; omega
      go_wp2
      go_ret
      exact ⟨rfl, belows (belows bb5 hbw) b6⟩

set_option maxHeartbeats 1000000 in
set_option maxRecDepth 100000 in
theorem okOk (a0 : Option Addr) (len0 cap0 : Nat) (l : List Nat) (a1 : ByteArray) (w : World) (hrow : Row w (.slice a0 len0 cap0) l) (g1 : a1.size ≤ 140737488351232) (b : List UInt8) (hlr0 : listR l = (b, 0)) (r : List Nat) (k0 : Nat) (hrr : readR a1.data.toList = .ok (r, k0)) (hrn : r ≠ []) :
    Calls Try.prog 8 #[.slice a0 len0 cap0, .string a1] w fun e w' => e = .returned (.bool true) ∧ Below w.heap.size w w' := by
  have HL := hide hrow
  have hnn : ∀ n ∈ l, n ≤ 4294967295 := by obtain ⟨_, _, _, _, h, _⟩ := hrow; exact h
  have HNN := hide hnn
  have hbl := listR_len hnn hlr0
  have HLR := hide hlr0
  clear hlr0 hrow hnn
  have HRR := hide hrr
  have HRL := hide (readR_ok hrr).1
  obtain ⟨gb, hgb⟩ := (readR_ok hrr).2.2.2.2
  have HRI := hide (gaps_rise r 0 gb hgb).2
  clear hrr hgb
  go_enter Try.func8, Try.ntmps8
  go_wp2_with fail
  refine (lists_any _).mono ?_
  rintro e w1 ⟨rfl, b1⟩
  go_wp2_with fail
  refine (list_any _ l _ ((unhide HL).below b1)).mono ?_
  rintro e w2 ⟨rfl, b2⟩
  rw [unhide HLR]
  have HL2 := hide (((unhide HL).below b1).below b2)
  have hss1 : (bts b).size + a1.size ≤ 9223372036854775807 := by rw [size_bts]; omega
  go_wp2_with fail
  refine (read_list a1 l b _ (by omega) (unhide HNN) (unhide HLR)).mono ?_
  rintro e w3 ⟨v, rfl, hrow, b3⟩
  have HV := hide hrow
  clear hrow
  go_wp2_with fail
  refine (same_any v _ l l _ (unhide HV) ((unhide HL2).below b3)).mono ?_
  rintro e w4 ⟨rfl, b4⟩
  rw [show decide (l = l) = true by simp]
  have bb : Below w.heap.size w w4 := belows (belows (belows b1 b2) b3) b4
  clear b1 b2 b3 b4
  go_wp2_with fail
  refine (read_ok a1 r k0 _ (by omega) (unhide HRR)).mono ?_
  rintro e w5 ⟨v5, rfl, hrow5, b5⟩
  obtain ⟨ar, capr, rfl, hlr, hnr, hcr⟩ := hrow5
  have HRow := hide (show Row w5 (.slice ar r.length capr) r from ⟨ar, capr, rfl, hlr, hnr, hcr⟩)
  have bb5 := belows bb b5
  rcases hcr with hcr | ⟨bk, off, rfl, hbk, hcr⟩
  · exact absurd hcr hrn
  have HCR := hide hcr
  clear hcr hnr hrn bb b5
  go_wp2
  go_loopw [13, 63] (fun x z wr => ∃ k : Nat, z = .int .i64 k ∧ k ≤ r.length ∧ Below w5.heap.size w5 wr) (fun _ z _ => r.length - (intOf z).toNat)
  case atStart => exact ⟨0, rfl, Nat.zero_le _, Below.refl _ _⟩
  case round =>
    obtain ⟨k, rfl, hk, hbw⟩ := hrel
    by_cases hlt : k < r.length
    · by_cases hz : k = 0
      · have hb0 : decide ((0 : Int) < (k : Int)) = false := by simp; omega
        have hb1 : ¬ 0 < k := by omega
        clear hz
        go_wp2
        go_quiet (fail)
        go_wp2
        exact ⟨⟨k + 1, by go_num, by omega, below_drewN hbw _⟩, by simp [intOf]; omega⟩
      · obtain ⟨q, rfl⟩ : ∃ q, k = q + 1 := ⟨k - 1, by omega⟩
        have hcx : wr.cell? ⟨bk, off + (q + 1), none⟩ = some (.int .u32 (r[q + 1] : Int)) := (hbw.cell (p := ⟨bk, off + (q + 1), none⟩) hbk).trans (unhide HCR (q + 1) hlt)
        have hcy : wr.cell? ⟨bk, off + q, none⟩ = some (.int .u32 (r[q] : Int)) := (hbw.cell (p := ⟨bk, off + q, none⟩) hbk).trans (unhide HCR q (by omega))
        have hrise := unhide HRI q hlt
        have hi1 : ((q + 1 : Nat) : Int) < (r.length : Int) := by omega
        have hi2 : (q : Int) < (r.length : Int) := by omega
        have hi3 : (q : Int) + 1 < (r.length : Int) := by omega
        have hord : ¬ ((r[q + 1] : Int) ≤ (r[q] : Int)) := by omega
        have hw1 : IntKind.i64.wrap ((q : Int) + 1 - 1) = (q : Int) := by rw [IntKind.wrap_i64]; omega
        go_wp2
        go_quiet (fail)
        go_wp2
        exact ⟨⟨q + 1 + 1, by go_num, by omega, below_drewN hbw _⟩, by simp [intOf]; omega⟩
    · go_wp2_with fail
      refine (list_any _ r _ ((unhide HRow).below hbw)).mono ?_
      rintro e w6 ⟨rfl, b6⟩
      rw [unhide HRL]
      have htb := take_back a1 k0
      have hss : (bts (a1.data.toList.take k0)).size + (a1.extract k0 a1.size).size ≤ 9223372036854775807 := by have hsl : a1.data.toList.length = a1.size := Array.length_toList ..; rw [size_bts, ByteArray.size_extract, List.length_take]; omega
      go_wp2
      go_ret
      exact ⟨rfl, belows (belows bb5 hbw) b6⟩

set_option maxHeartbeats 1000000 in
set_option maxRecDepth 100000 in
theorem noErr (a0 : Option Addr) (len0 cap0 : Nat) (l : List Nat) (a1 : ByteArray) (w : World) (hrow : Row w (.slice a0 len0 cap0) l) (g1 : a1.size ≤ 140737488351232) (c : Nat) (hlr0 : listR l = ([], c)) (hc : c ≠ 0) (d : Nat) (hrr : readR a1.data.toList = .error d) (hd : d ≠ 0) :
    Calls Try.prog 8 #[.slice a0 len0 cap0, .string a1] w fun e w' => e = .returned (.bool true) ∧ Below w.heap.size w w' := by
  have HL := hide hrow
  have hnn : ∀ n ∈ l, n ≤ 4294967295 := by obtain ⟨_, _, _, _, h, _⟩ := hrow; exact h
  have HNN := hide hnn
  have HLR := hide hlr0
  have hcne : ((c : Int) == 0) = false := by simp; omega
  clear hlr0 hrow hnn hc
  have HRR := hide hrr
  have hdne : ((d : Int) == 0) = false := by simp; omega
  clear hrr hd
  go_enter Try.func8, Try.ntmps8
  go_wp2_with fail
  refine (lists_any _).mono ?_
  rintro e w1 ⟨rfl, b1⟩
  go_wp2_with fail
  refine (list_any _ l _ ((unhide HL).below b1)).mono ?_
  rintro e w4 ⟨rfl, b2⟩
  rw [unhide HLR]
  have bb : Below w.heap.size w w4 := belows b1 b2
  clear b1 b2
  go_wp2_with fail
  refine (read_err a1 d _ (by omega) (unhide HRR)).mono ?_
  rintro e w5 ⟨rfl, b5⟩
  go_wp2
  go_ret
  exact ⟨rfl, belows bb b5⟩

set_option maxHeartbeats 1000000 in
set_option maxRecDepth 100000 in
theorem noNil (a0 : Option Addr) (len0 cap0 : Nat) (l : List Nat) (a1 : ByteArray) (w : World) (hrow : Row w (.slice a0 len0 cap0) l) (g1 : a1.size ≤ 140737488351232) (c : Nat) (hlr0 : listR l = ([], c)) (hc : c ≠ 0) (r : List Nat) (k0 : Nat) (hrr : readR a1.data.toList = .ok (r, k0)) (hrn : r = []) :
    Calls Try.prog 8 #[.slice a0 len0 cap0, .string a1] w fun e w' => e = .returned (.bool true) ∧ Below w.heap.size w w' := by
  have HL := hide hrow
  have hnn : ∀ n ∈ l, n ≤ 4294967295 := by obtain ⟨_, _, _, _, h, _⟩ := hrow; exact h
  have HNN := hide hnn
  have HLR := hide hlr0
  have hcne : ((c : Int) == 0) = false := by simp; omega
  clear hlr0 hrow hnn hc
  have HRR := hide hrr
  have HRL := hide (readR_ok hrr).1
  clear hrr
  go_enter Try.func8, Try.ntmps8
  go_wp2_with fail
  refine (lists_any _).mono ?_
  rintro e w1 ⟨rfl, b1⟩
  go_wp2_with fail
  refine (list_any _ l _ ((unhide HL).below b1)).mono ?_
  rintro e w4 ⟨rfl, b2⟩
  rw [unhide HLR]
  have bb : Below w.heap.size w w4 := belows b1 b2
  clear b1 b2
  go_wp2_with fail
  refine (read_ok a1 r k0 _ (by omega) (unhide HRR)).mono ?_
  rintro e w5 ⟨v5, rfl, hrow5, b5⟩
  obtain ⟨ar, capr, rfl, hlr, hnr, hcr⟩ := hrow5
  have HRow := hide (show Row w5 (.slice ar r.length capr) r from ⟨ar, capr, rfl, hlr, hnr, hcr⟩)
  have bb5 := belows bb b5
  have hr0 : r.length = 0 := by rw [hrn]; rfl
  clear hcr hnr hrn bb b5
  go_wp2
  go_loopw [13, 63] (fun x z wr => z = .int .i64 0 ∧ Below w5.heap.size w5 wr) (fun _ _ _ => 0)
  case atStart => exact ⟨rfl, Below.refl _ _⟩
  case round =>
    obtain ⟨rfl, hbw⟩ := hrel
    go_wp2_with fail
    refine (list_any _ r _ ?_).mono ?_
    · have h9 := (unhide HRow).below hbw
      rw [hr0] at h9
      exact h9
    · rintro e w6 ⟨rfl, b6⟩
      rw [unhide HRL]
      have htb := take_back a1 k0
      have hss : (bts (a1.data.toList.take k0)).size + (a1.extract k0 a1.size).size ≤ 9223372036854775807 := by have hsl : a1.data.toList.length = a1.size := Array.length_toList ..; rw [size_bts, ByteArray.size_extract, List.length_take]; omega
      go_wp2
      go_ret
      exact ⟨rfl, belows (belows bb5 hbw) b6⟩

set_option maxHeartbeats 1000000 in
set_option maxRecDepth 100000 in
theorem noOk (a0 : Option Addr) (len0 cap0 : Nat) (l : List Nat) (a1 : ByteArray) (w : World) (hrow : Row w (.slice a0 len0 cap0) l) (g1 : a1.size ≤ 140737488351232) (c : Nat) (hlr0 : listR l = ([], c)) (hc : c ≠ 0) (r : List Nat) (k0 : Nat) (hrr : readR a1.data.toList = .ok (r, k0)) (hrn : r ≠ []) :
    Calls Try.prog 8 #[.slice a0 len0 cap0, .string a1] w fun e w' => e = .returned (.bool true) ∧ Below w.heap.size w w' := by
  have HL := hide hrow
  have hnn : ∀ n ∈ l, n ≤ 4294967295 := by obtain ⟨_, _, _, _, h, _⟩ := hrow; exact h
  have HNN := hide hnn
  have HLR := hide hlr0
  have hcne : ((c : Int) == 0) = false := by simp; omega
  clear hlr0 hrow hnn hc
  have HRR := hide hrr
  have HRL := hide (readR_ok hrr).1
  obtain ⟨gb, hgb⟩ := (readR_ok hrr).2.2.2.2
  have HRI := hide (gaps_rise r 0 gb hgb).2
  clear hrr hgb
  go_enter Try.func8, Try.ntmps8
  go_wp2_with fail
  refine (lists_any _).mono ?_
  rintro e w1 ⟨rfl, b1⟩
  go_wp2_with fail
  refine (list_any _ l _ ((unhide HL).below b1)).mono ?_
  rintro e w4 ⟨rfl, b2⟩
  rw [unhide HLR]
  have bb : Below w.heap.size w w4 := belows b1 b2
  clear b1 b2
  go_wp2_with fail
  refine (read_ok a1 r k0 _ (by omega) (unhide HRR)).mono ?_
  rintro e w5 ⟨v5, rfl, hrow5, b5⟩
  obtain ⟨ar, capr, rfl, hlr, hnr, hcr⟩ := hrow5
  have HRow := hide (show Row w5 (.slice ar r.length capr) r from ⟨ar, capr, rfl, hlr, hnr, hcr⟩)
  have bb5 := belows bb b5
  rcases hcr with hcr | ⟨bk, off, rfl, hbk, hcr⟩
  · exact absurd hcr hrn
  have HCR := hide hcr
  clear hcr hnr hrn bb b5
  go_wp2
  go_loopw [13, 63] (fun x z wr => ∃ k : Nat, z = .int .i64 k ∧ k ≤ r.length ∧ Below w5.heap.size w5 wr) (fun _ z _ => r.length - (intOf z).toNat)
  case atStart => exact ⟨0, rfl, Nat.zero_le _, Below.refl _ _⟩
  case round =>
    obtain ⟨k, rfl, hk, hbw⟩ := hrel
    by_cases hlt : k < r.length
    · by_cases hz : k = 0
      · have hb0 : decide ((0 : Int) < (k : Int)) = false := by simp; omega
        have hb1 : ¬ 0 < k := by omega
        clear hz
        go_wp2
        go_quiet (fail)
        go_wp2
        exact ⟨⟨k + 1, by go_num, by omega, below_drewN hbw _⟩, by simp [intOf]; omega⟩
      · obtain ⟨q, rfl⟩ : ∃ q, k = q + 1 := ⟨k - 1, by omega⟩
        have hcx : wr.cell? ⟨bk, off + (q + 1), none⟩ = some (.int .u32 (r[q + 1] : Int)) := (hbw.cell (p := ⟨bk, off + (q + 1), none⟩) hbk).trans (unhide HCR (q + 1) hlt)
        have hcy : wr.cell? ⟨bk, off + q, none⟩ = some (.int .u32 (r[q] : Int)) := (hbw.cell (p := ⟨bk, off + q, none⟩) hbk).trans (unhide HCR q (by omega))
        have hrise := unhide HRI q hlt
        have hi1 : ((q + 1 : Nat) : Int) < (r.length : Int) := by omega
        have hi2 : (q : Int) < (r.length : Int) := by omega
        have hi3 : (q : Int) + 1 < (r.length : Int) := by omega
        have hord : ¬ ((r[q + 1] : Int) ≤ (r[q] : Int)) := by omega
        have hw1 : IntKind.i64.wrap ((q : Int) + 1 - 1) = (q : Int) := by rw [IntKind.wrap_i64]; omega
        go_wp2
        go_quiet (fail)
        go_wp2
        exact ⟨⟨q + 1 + 1, by go_num, by omega, below_drewN hbw _⟩, by simp [intOf]; omega⟩
    · go_wp2_with fail
      refine (list_any _ r _ ((unhide HRow).below hbw)).mono ?_
      rintro e w6 ⟨rfl, b6⟩
      rw [unhide HRL]
      have htb := take_back a1 k0
      have hss : (bts (a1.data.toList.take k0)).size + (a1.extract k0 a1.size).size ≤ 9223372036854775807 := by have hsl : a1.data.toList.length = a1.size := Array.length_toList ..; rw [size_bts, ByteArray.size_extract, List.length_take]; omega
      go_wp2
      go_ret
      exact ⟨rfl, belows (belows bb5 hbw) b6⟩

theorem walk (a0 : Option Addr) (len0 cap0 : Nat) (z0 : List Int) (a1 : ByteArray) (w : World) (w0 : IsRow .u32 w a0 len0 cap0 z0) (g1 : a1.size ≤ 140737488351232) :
    Calls Try.prog 8 #[.slice a0 len0 cap0, .string a1] w fun e w' => e = .returned (.bool true) ∧ Below w.heap.size w w' := by
  obtain ⟨l, hrow⟩ := row_of_isRow w0
  rcases listR_ways l with ⟨b, hb⟩ | ⟨c, hb, hc⟩
  · cases hr : readR a1.data.toList with
    | error d => exact okErr a0 len0 cap0 l a1 w hrow g1 b hb d hr (readR_err hr).1
    | ok p =>
      obtain ⟨r, k⟩ := p
      by_cases hn : r = []
      · exact okNil a0 len0 cap0 l a1 w hrow g1 b hb r k hr hn
      · exact okOk a0 len0 cap0 l a1 w hrow g1 b hb r k hr hn
  · cases hr : readR a1.data.toList with
    | error d => exact noErr a0 len0 cap0 l a1 w hrow g1 c hb hc d hr (readR_err hr).1
    | ok p =>
      obtain ⟨r, k⟩ := p
      by_cases hn : r = []
      · exact noNil a0 len0 cap0 l a1 w hrow g1 c hb hc r k hr hn
      · exact noOk a0 len0 cap0 l a1 w hrow g1 c hb hc r k hr hn

theorem own : ownKnob Try.prog.godebug = none := by kernel_rfl
theorem laidOut : laidOutB Try.prog = true := by kernel_rfl

set_option maxRecDepth 100000 in
theorem lifted (os : Os) (started : os.Started) (H : Type) (enc : TypeId × Value → H) :
    ReturnsInHanded {} Try.checked os 8 .any (Rows.variReadSpec.pre6 enc Try.prog Try.f8 Rows.variReadRow.domain false) (Rows.variReadSpec.post enc Try.prog Try.f8 false true false false) := by
  refine returnsInHanded_of_change_sized (C := Try.checked) own started (by kernel_rfl) Try.func8
    (ChangeSpec.witness6 (enc := enc) (C := Try.checked) false ⟨#[], #[.slice none 0 0, .string ByteArray.empty], []⟩ 8 (by kernel_rfl) (by kernel_rfl) (by kernel_rfl) (by kernel_rfl)) ?_
  intro W base args ds gs before hval0 hW hcnd hsz0 _
  have hval : ∀ (j : Nat) t v, Try.f8.params[j]? = some t → args[j]? = some v → Value.okWide Try.prog W .any base t v := hval0
  have hsz : (DataW.weightsEach Try.prog (Try.f8.params.toList ++ Rows.variReadSpec.plain.varTypes Try.prog) (ds ++ gs)).all (· ≤ reachBytes) = true := hsz0
  have hW' := hW
  obtain ⟨p, q, hA0, hV, rfl, hfz, hnd⟩ := hW
  have hA : DataW.TrodAll enc Try.prog W 0 (fun _ => true) true Try.f8.params.toList args.toList ds p := hA0
  rw [Try.params8] at hA hval hsz
  obtain ⟨v0, vs0, d0, ds0, p0, q0, hargs, rfl, rfl, h0, r0⟩ := trodAll_cons hA
  obtain ⟨v1, vs1, d1, ds1, p1, q1, rfl, rfl, rfl, h1, r1⟩ := trodAll_cons r0
  obtain ⟨rfl, rfl, rfl⟩ := trodAll_nil r1
  obtain rfl : args = #[v0, v1] := by cases args; simp_all
  obtain ⟨rfl, rfl⟩ := trodVars_none hV
  obtain ⟨a0, len0, cap0, rfl⟩ := okWide_slice Try.underlying33 (hval 0 33 v0 rfl rfl)
  have k0 := h0
  have lt0 : ∀ x ∈ p0, x.block < W.heap.size := by obtain ⟨m, hm⟩ := k0; exact DataW.trod_lt m _ _ _ hm
  obtain ⟨z0, w0⟩ : ∃ zs, IsRow .u32 W a0 len0 cap0 zs := by
    obtain ⟨fuel, hf⟩ := h0
    rcases open_ints Try.underlying33 Try.underlying42 (by kernel_rfl) hf with ⟨hcs, _⟩ | ⟨x, l, c, zs, hcs, _, hl, hm, hz, _, hcell, hwz⟩
    · simp [Value.cells] at hcs
      obtain ⟨rfl, rfl, rfl⟩ := hcs
      exact ⟨[], .inl ⟨rfl, rfl, rfl, rfl⟩⟩
    · simp [Value.cells] at hcs
      obtain ⟨rfl, rfl, rfl⟩ := hcs
      exact ⟨zs, .inr ⟨_, rfl, hl, hm, by simpa using hz, hcell, hwz⟩⟩
  obtain ⟨a1, rfl, rfl, rfl, w1⟩ := open_string Try.underlying9 (hval 1 9 v1 rfl rfl) h1
  have g1 : a1.size ≤ 140737488351232 := by
    have := sized_string hsz (j := 1) (t := 9) rfl rfl
    simpa [reachBytes] using this
  clear hA0 hval0
  refine (walk a0 len0 cap0 z0 a1 W w0 g1).mono fun e W' ⟨he, bel⟩ => ?_
  subst he
  exact ⟨_, rfl, _, _, _, [], _, [], hW', trodAll_mk1 (shut_bool Try.underlying4 _), (trodAll_cons_mk (Below.trod laidOut (by kernel_rfl) (of_decide_eq_true (by kernel_rfl)) k0 bel lt0) (trodAll_cons_mk (shut_string Try.underlying9 w1) trodAll_mk0)), rfl, bel.frame _, fun h => by cases h⟩

theorem over : Rows.variReadRow.holds Try.pinned (OpenSpec.ofChange Rows.variReadSpec) :=
  OpenClaim.holds_of_wide 8 Try.f8 rfl rfl rfl rfl rfl rfl rfl ⟨rfl, rfl, rfl, rfl, rfl⟩ rfl rfl rfl rfl rfl (by kernel_rfl) Try.func8 (by kernel_rfl)
    (of_decide_eq_true (by kernel_rfl)) (by unfold Func.isWrapper; first | (rw [if_pos (by decide +kernel)]; kernel_rfl) | (rw [if_neg (by decide +kernel)]; exact ⟨rfl, rfl⟩))
    (fun os started H enc _ => lifted os started H enc)

end Go.Proofs.Ytekcbkaanlngdaa.variRead
namespace Go.Proofs.Ytekcbkaanlngdaa
/-- The statement. -/
theorem variRead_holds : Rows.VariReadSaid := variRead.over
#print axioms variRead_holds
end Go.Proofs.Ytekcbkaanlngdaa
