/-
  What rec.sumOf and rec.Sum do, over this seat's program, where the table of sums lies as the program's text lays it: the sum of the bytes.
-/
import Derived.Test.YtekcbkaanlngdabDoorGts
import Derived.Test.YtekcbkaanlngdabDoorCrc
import Derived.Deep.Cut
set_option linter.unusedVariables false
namespace Go.Proofs.YtekcbkaanlngdabDoor
open Go.RowKit Go.Proofs.Num Go.Proofs.Crc

/-- The table of sums lies in its variable. -/
def Tab (w : World) : Prop := 0 < w.heap.size ∧ ∀ j, j < 16 → w.cell? ⟨0, j, none⟩ = some (.int .u32 (tab j : Int))

theorem Tab.below {w w' : World} (h : Tab w) (hb : Below w.heap.size w w') : Tab w' := by
  refine ⟨Nat.lt_of_lt_of_le h.1 hb.size, fun j hj => ?_⟩
  rw [hb.cell (p := ⟨0, j, none⟩) h.1]
  exact h.2 j hj

/-- The value v is a slice of texts whose elements are l. -/
def RowS (w : World) (v : Value) (l : List ByteArray) : Prop :=
  ∃ (a : Option Addr) (cap : Nat), v = .slice a l.length cap ∧ l.length ≤ 9223372036854775807 ∧ (∀ s ∈ l, s.size ≤ 9223372036854775807) ∧
    (l = [] ∨ ∃ b off, a = some ⟨b, off, none⟩ ∧ b < w.heap.size ∧ ∀ j (h : j < l.length), w.cell? ⟨b, off + j, none⟩ = some (.string l[j]))

theorem RowS.below {w w' : World} {v : Value} {l : List ByteArray} (h : RowS w v l) (hb : Below w.heap.size w w') : RowS w' v l := by
  obtain ⟨a, cap, hv, hl, hn, hc⟩ := h
  refine ⟨a, cap, hv, hl, hn, ?_⟩
  rcases hc with hc | ⟨b, off, ha, hlt, hc⟩
  · exact Or.inl hc
  · have := hb.size
    refine Or.inr ⟨b, off, ha, by omega, fun j hj => ?_⟩
    rw [hb.cell (p := ⟨b, off + j, none⟩) hlt]
    exact hc j hj

/-- All bytes of some texts, one behind the other. -/
def flat (l : List ByteArray) : List UInt8 := (l.map fun s => s.data.toList).flatten

theorem flat_take {l : List ByteArray} {k : Nat} (h : k < l.length) : flat (l.take (k + 1)) = flat (l.take k) ++ l[k].data.toList := by
  unfold flat
  rw [List.take_succ_eq_append_getElem h, List.map_append, List.flatten_append]
  simp

theorem crc_byte {r : Nat} (s : ByteArray) (k : Nat) (h : k < s.size) : crcFrom r (s.data.toList.take (k + 1)) = stepB (crcFrom r (s.data.toList.take k)) s[k] := by
  have : s.data.toList.take (k + 1) = s.data.toList.take k ++ [s[k]] := by
    rw [List.take_succ_eq_append_getElem (by simpa using h)]; rfl
  rw [this, crcFrom_append]
  rfl

theorem and15 (x : Nat) (h : x < 4294967296) : bits .and .u32 (x : Int) 15 = ((x % 16 : Nat) : Int) := (u32_and_nat x 15 h (by omega)).trans (by rw [nat_mask4])
theorem xor4 (x : Nat) (h : x < 4294967296) : bits .xor .u32 ((x : Int) / 16) (tab (x % 16) : Int) = (stepK 4 x : Int) := by
  rw [show ((x : Int) / 16) = ((x / 16 : Nat) : Int) by omega, u32_xor_nat (x / 16) (tab (x % 16)) (by omega) (stepK_lt 4 (by omega)), step4]
theorem not_u32 (x : Nat) (h : x < 4294967296) : bits .xor .u32 IntKind.u32.max (x : Int) = 4294967295 - (x : Int) := by
  show IntKind.u32.wrap ((BitVec.ofInt 32 IntKind.u32.max ^^^ BitVec.ofInt 32 (x : Int)).toNat : Int) = _
  rw [show BitVec.ofInt 32 IntKind.u32.max = BitVec.allOnes 32 by decide, BitVec.allOnes_xor, BitVec.toNat_not, ofInt_u32 x h, IntKind.wrap_u32]
  omega

set_option maxHeartbeats 1000000 in
set_option maxRecDepth 100000 in
theorem sumOf_some (b off cap : Nat) (l : List ByteArray) (w : World) (ht : Tab w) (h63 : l.length ≤ 9223372036854775807) (hb : b < w.heap.size) (hsz : ∀ s ∈ l, s.size ≤ 9223372036854775807) (hc : ∀ j (h : j < l.length), w.cell? ⟨b, off + j, none⟩ = some (.string l[j])) :
    Calls Tryd.prog 30 #[.slice (some ⟨b, off, none⟩) l.length cap] w fun e w' => e = .returned (.int .u32 (sumL (flat l))) ∧ w' = w := by
  have HC := hide hc
  have HZ := hide hsz
  have HT := hide ht
  clear hc hsz ht
  go_enter Tryd.func30, Tryd.ntmps30
  go_wp2
  go_loop [3, 5, 6, 9] (fun x y y2 z => ∃ (k r : Nat), z = .int .i64 k ∧ x = .int .u32 r ∧ k ≤ l.length ∧ r < 4294967296 ∧ r = crcFrom 4294967295 (flat (l.take k))) (fun _ _ _ z => l.length - (intOf z).toNat)
  case atStart => exact ⟨0, 4294967295, rfl, rfl, Nat.zero_le _, by omega, rfl⟩
  case round =>
    obtain ⟨k, r, rfl, rfl, hk, hr, hrc⟩ := hrel
    have HR := hide hrc
    clear hrc
    by_cases hlt : k < l.length
    · have hcx : w.cell? ⟨b, off + k, none⟩ = some (.string l[k]) := unhide HC k hlt
      have hs63 : l[k].size ≤ 9223372036854775807 := unhide HZ _ (List.getElem_mem hlt)
      have HFT := hide (flat_take hlt)
      generalize l[k] = s at hcx hs63 HFT
      go_wp2
      go_loop [3, 6, 15] (fun x y z => ∃ (i q : Nat), z = .int .i64 i ∧ x = .int .u32 q ∧ i ≤ s.size ∧ q < 4294967296 ∧ q = crcFrom r (s.data.toList.take i)) (fun _ _ z => s.size - (intOf z).toNat)
      case atStart => exact ⟨0, r, rfl, rfl, Nat.zero_le _, hr, rfl⟩
      case round =>
        obtain ⟨i, q, rfl, rfl, hi, hq, hqc⟩ := hrel
        have HQ := hide hqc
        clear hqc
        by_cases hil : i < s.size
        · have hc := s[i].toNat_lt
          have HB := hide (crc_byte (r := r) s i hil)
          go_upto_region 9 with (fail)
          rw [u32_xor_nat q s[i].toNat hq (by omega)]
          have hx1 := xorByte_lt s[i] hq
          have HX := hide (stepB_two q s[i])
          generalize q ^^^ s[i].toNat = x1 at hx1 HX
          have hand := and15 x1 hx1
          have hc1 := (unhide HT).2 (x1 % 16) (by omega)
          have hm1 : x1 % 16 < 16 := by omega
          go_upto_region 10 with (fail)
          clear hand hc1 hm1
          rw [xor4 x1 hx1]
          have hx2 := stepK_lt 4 hx1
          generalize stepK 4 x1 = x2 at hx2 HX
          have hand := and15 x2 hx2
          have hc1 := (unhide HT).2 (x2 % 16) (by omega)
          have hm1 : x2 % 16 < 16 := by omega
          go_upto_region 11 with (fail)
          clear hand hc1 hm1
          rw [xor4 x2 hx2]
          have hx3 := stepK_lt 4 hx2
          generalize stepK 4 x2 = x3 at hx3 HX
          go_wp2
          exact ⟨⟨i + 1, x3, by go_num, rfl, by omega, hx3, by rw [unhide HB, ← unhide HQ, unhide HX]⟩, by simp [intOf]; omega⟩
        · have hfin : q = crcFrom 4294967295 (flat (l.take (k + 1))) := by
            rw [unhide HFT, crcFrom_append, ← unhide HR, unhide HQ, List.take_of_length_le]
            have : s.data.toList.length = s.size := Array.length_toList ..
            omega
          have HF := hide hfin
          clear hfin
          go_wp2
          exact ⟨⟨k + 1, q, by go_num, rfl, by omega, hq, unhide HF⟩, by simp [intOf]; omega⟩
    · have hfin : r = crcFrom 4294967295 (flat l) := by
        have := unhide HR
        rw [List.take_of_length_le (by omega)] at this
        exact this
      have HF := hide hfin
      clear hfin
      go_wp2
      go_ret
      exact ⟨ret_int (by have hf := unhide HF; rw [not_u32 r hr]; unfold sumL; rw [← hf]; omega), rfl⟩

theorem sumOf_one (x : ByteArray) (w : World) (ht : Tab w) (hx : x.size ≤ 9223372036854775807) :
    Calls Tryd.prog 30 #[.slice (some ⟨w.heap.size, 0, none⟩) 1 1] (w.alloc (.cells #[.string x] 9)) fun e w' => e = .returned (.int .u32 (sumL x.data.toList)) ∧ w' = w.alloc (.cells #[.string x] 9) := by
  have h := sumOf_some w.heap.size 0 1 [x] (w.alloc (.cells #[.string x] 9)) (ht.below ((Below.refl _ w).alloc (Nat.le_refl _) _)) (by simp) (by simp) (by simpa using hx) (fun j hj => by
    match j, hj with
    | 0, _ => simp)
  rw [show flat [x] = x.data.toList by simp [flat]] at h
  exact h
theorem sumOf_two (x y : ByteArray) (w : World) (ht : Tab w) (hx : x.size ≤ 9223372036854775807) (hy : y.size ≤ 9223372036854775807) :
    Calls Tryd.prog 30 #[.slice (some ⟨w.heap.size, 0, none⟩) 2 2] (w.alloc (.cells #[.string x, .string y] 9)) fun e w' => e = .returned (.int .u32 (sumL (x.data.toList ++ y.data.toList))) ∧ w' = w.alloc (.cells #[.string x, .string y] 9) := by
  have h := sumOf_some w.heap.size 0 2 [x, y] (w.alloc (.cells #[.string x, .string y] 9)) (ht.below ((Below.refl _ w).alloc (Nat.le_refl _) _)) (by simp) (by simp) (by simp; exact ⟨hx, hy⟩) (fun j hj => by
    match j, hj with
    | 0, _ => simp
    | 1, _ => simp)
  rw [show flat [x, y] = x.data.toList ++ y.data.toList by simp [flat]] at h
  exact h

set_option maxHeartbeats 400000 in
theorem sum_any (x : ByteArray) (w : World) (ht : Tab w) (hx : x.size ≤ 9223372036854775807) :
    Calls Tryd.prog 14 #[.string x] w fun e w' => e = .returned (.int .u32 (sumL x.data.toList)) ∧ Below w.heap.size w w' := by
  have HC := hide (sumOf_one x w ht hx)
  clear ht
  go_enter Tryd.func14, Tryd.ntmps14
  go_wp2_with fail
  refine (unhide HC).mono ?_
  rintro e w1 ⟨rfl, rfl⟩
  go_wp2
  go_ret
  exact ⟨rfl, (Below.refl _ w).alloc (Nat.le_refl _) _⟩

/-! The document's own Sum. -/
theorem oddE (q c k : Nat) (hq : q < 4294967296) (hc : c < 256) : (bits .xor .u32 (q : Int) ((c : Int) / 2 ^ k % 4294967296)).tmod 2 = (((q ^^^ (c / 2 ^ k)) % 2 : Nat) : Int) := by
  have hd : c / 2 ^ k ≤ c := Nat.div_le_self _ _
  have e : ((c : Int) / 2 ^ k % 4294967296) = ((c / 2 ^ k : Nat) : Int) := by
    have : ((c : Int) / 2 ^ k) = ((c / 2 ^ k : Nat) : Int) := by simp
    rw [this]
    generalize c / 2 ^ k = d at hd
    omega
  rw [e, u32_xor_nat q (c / 2 ^ k) hq (by omega)]
  generalize q ^^^ c / 2 ^ k = d
  rw [Int.tmod_eq_emod_of_nonneg (by omega)]
  omega
theorem bitR_lt {b k r : Nat} (h : r < 4294967296) : bitR b k r < 4294967296 := by
  unfold bitR
  split
  · exact Nat.xor_lt_two_pow (n := 32) (by omega) (by decide)
  · omega

set_option maxHeartbeats 1000000 in
set_option maxRecDepth 100000 in
theorem refSum_any (s : ByteArray) (w : World) (hs : s.size ≤ 9223372036854775807) :
    Calls Tryd.prog 15 #[.string s] w fun e w' => e = .returned (.int .u32 (sumL s.data.toList)) ∧ w' = w := by
  go_enter Tryd.func15, Tryd.ntmps15
  go_wp2
  go_loop [3, 4, 5, 6] (fun x z y y2 => ∃ (i r : Nat), z = .int .i64 i ∧ x = .int .u32 r ∧ i ≤ s.size ∧ r < 4294967296 ∧ r = crcFrom 4294967295 (s.data.toList.take i)) (fun _ z _ _ => s.size - (intOf z).toNat)
  case atStart => exact ⟨0, 4294967295, rfl, rfl, Nat.zero_le _, by omega, rfl⟩
  case round =>
    obtain ⟨i, r, rfl, rfl, hi, hr, hrc⟩ := hrel
    have HR := hide hrc
    clear hrc
    by_cases hlt : i < s.size
    · have HB := hide (crc_byte (r := 4294967295) s i hlt)
      have HBB := hide (bitsR_byte s[i] r)
      have hc := s[i].toNat_lt
      go_wp2
      go_loop [3, 5, 6] (fun x z y => ∃ (k q : Nat), z = .int .i64 k ∧ x = .int .u32 q ∧ k ≤ 8 ∧ q < 4294967296 ∧ q = bitsR s[i].toNat k r) (fun _ z _ => 8 - (intOf z).toNat)
      case atStart => exact ⟨0, r, rfl, rfl, by omega, hr, rfl⟩
      case round =>
        obtain ⟨k, q, rfl, rfl, hk, hq, hqc⟩ := hrel
        have HQ := hide hqc
        clear hqc
        by_cases hk8 : k < 8
        · have hnx : bitsR s[i].toNat (k + 1) r = bitR s[i].toNat k q := by rw [bitsR, ← unhide HQ]
          have HN := hide hnx
          have HE := hide (oddE q s[i].toNat k hq hc)
          have hd : bitR s[i].toNat k q = if (q ^^^ (s[i].toNat / 2 ^ k)) % 2 = 1 then (q / 2) ^^^ 3988292384 else q / 2 := rfl
          clear hnx
          go_upto_region 9 with (fail)
          rw [unhide HE]
          generalize (q ^^^ (s[i].toNat / 2 ^ k)) % 2 = o at hd
          by_cases ho : o = 1
          · have hb : ((o : Int) == 1) = true := by simp [ho]
            have hv : bitR s[i].toNat k q = (q / 2) ^^^ 3988292384 := by rw [hd, if_pos ho]
            have HV := hide hv
            have hlt := bitR_lt (b := s[i].toNat) (k := k) hq
            clear hd ho hv
            go_upto_region 11 with (fail)
            have hx : bits .xor .u32 ((q : Int) / 2) 3988292384 = ((bitR s[i].toNat k q : Nat) : Int) := by
              rw [unhide HV, show ((q : Int) / 2) = ((q / 2 : Nat) : Int) by omega]
              exact u32_xor_nat (q / 2) 3988292384 (by omega) (by omega)
            generalize bitR s[i].toNat k q = v at hlt hx HN
            go_wp2
            exact ⟨⟨k + 1, v, by go_num, rfl, by omega, hlt, (unhide HN).symm⟩, by simp [intOf]; omega⟩
          · have hb : ((o : Int) == 1) = false := by simp; omega
            have hv : bitR s[i].toNat k q = q / 2 := by rw [hd, if_neg ho]
            have HV := hide hv
            clear hd ho hv
            go_wp2
            exact ⟨⟨k + 1, q / 2, by go_num, by go_num, by omega, by omega, by rw [unhide HN, unhide HV]⟩, by simp [intOf]; omega⟩
        · have hfin : q = crcFrom 4294967295 (s.data.toList.take (i + 1)) := by
            rw [unhide HB, ← unhide HR, ← unhide HBB, unhide HQ, show k = 8 by omega]
          have HF := hide hfin
          clear hfin
          go_wp2
          exact ⟨⟨i + 1, q, by go_num, rfl, by omega, hq, unhide HF⟩, by simp [intOf]; omega⟩
    · have hfin : r = crcFrom 4294967295 s.data.toList := by
        have := unhide HR
        rw [List.take_of_length_le (by have : s.data.toList.length = s.size := Array.length_toList ..; omega)] at this
        exact this
      have HF := hide hfin
      clear hfin
      go_wp2
      go_ret
      exact ⟨ret_int (by have hf := unhide HF; unfold sumL; rw [← hf]; omega), rfl⟩
end Go.Proofs.YtekcbkaanlngdabDoor
