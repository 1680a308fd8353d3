/-
  What enc.writeLetters and enc.Base64 do, over this seat's program: bytes in base64, and no older memory turns.
-/
import Derived.Test.YtdallfakfhajdaaGreatDoorStr
import Derived.Test.YtdallfakfhajdaaGreatDoorEnc
import Derived.BigCall
import Derived.Deep.Cut
import Derived.Laws.BitsAllLaws
set_option linter.unusedVariables false
namespace Go.Proofs.YtdallfakfhajdaaGreatDoor
open Go.RowKit Go.Proofs.Enc

/-- The 64 letters. -/
def letB : ByteArray := ⟨#[65, 66, 67, 68, 69, 70, 71, 72, 73, 74, 75, 76, 77, 78, 79, 80, 81, 82, 83, 84, 85, 86, 87, 88, 89, 90, 97, 98, 99, 100, 101, 102, 103, 104, 105, 106, 107, 108, 109, 110, 111, 112, 113, 114, 115, 116, 117, 118, 119, 120, 121, 122, 48, 49, 50, 51, 52, 53, 54, 55, 56, 57, 43, 47]⟩
theorem letB_fin : ∀ n : Fin 64, letB.data.toList.getD n.val 0 = let64 n.val := by decide +kernel
theorem letB_size : letB.size = 64 := rfl
theorem letB_get (n : Nat) (h : n < 64) (h' : n < letB.size) : letB[n] = let64 n := by
  rw [← getD_byte letB n h']
  exact letB_fin ⟨n, h⟩

theorem letB_at (m : Nat) (hm : m < 64) (i : Nat) (hi : i < letB.size) (h : i = m) : ((letB[i]'hi).toNat : Int) = ((let64 m).toNat : Int) := by
  subst h
  rw [letB_get i hm hi]
theorem natmod (x p : Nat) : ((x : Int) / 2 ^ p % 64).toNat = x / 2 ^ p % 64 := by
  rw [show ((x : Int) / 2 ^ p % 64) = ((x / 2 ^ p % 64 : Nat) : Int) by simp]
  exact Int.toNat_natCast _

theorem or_byte (x c : Nat) (hx : x < 16777216) (hc : c < 256) : bits .or .u32 ((x : Int) * 256) (c : Int) = ((x * 256 + c : Nat) : Int) := by
  rw [show ((x : Int) * 256) = ((x * 256 : Nat) : Int) by omega]
  refine (u32_or_nat _ _ (by omega) (by omega)).trans ?_
  rw [nat_join 8 (x * 256) c (by omega) (by omega)]
theorem and63 (x : Nat) (h : x < 4294967296) : bits .and .u32 (x : Int) 63 = ((x % 64 : Nat) : Int) := (u32_and_nat x 63 h (by omega)).trans (by rw [show (63 : Nat) = 2 ^ 6 - 1 from rfl, Nat.and_two_pow_sub_one_eq_mod])

set_option maxHeartbeats 1000000 in
set_option maxRecDepth 100000 in
theorem writeLetters_any (B b : Nat) (l : List UInt8) (s : ByteArray) (w : World) (h : Lib.IsBuilderF 65 5 B b (Lib.byteCells l) w) (h1 : 1 ≤ s.size) (h3 : s.size ≤ 3) (hlen : l.length + 4 ≤ 140737488355328) (hBw : B ≤ w.heap.size) :
    Calls Tryz.prog 125 #[.pointer (some ⟨b, 0, none⟩), .string s] w fun e w' => e = .returned (.tuple #[]) ∧ Lib.IsBuilderF 65 5 B b (Lib.byteCells (l ++ quad s.data.toList)) w' ∧ Below B w w' := by
  have hsl : s.data.toList.length = s.size := Array.length_toList ..
  go_enter Tryz.func125, Tryz.ntmps125
  go_wp2
  go_loop [4, 5, 7] (fun x y z => ∃ k : Nat, z = .int .i64 k ∧ k ≤ 3 ∧ x = .int .u32 (valK s.data.toList k)) (fun _ _ z => 3 - (intOf z).toNat)
  case atStart => exact ⟨0, rfl, by omega, rfl⟩
  case round =>
    obtain ⟨k, rfl, hk, rfl⟩ := hrel
    by_cases hlt : k < 3
    · have hv : valK s.data.toList k < 65536 := by
        have := valK_lt s.data.toList k
        have : 256 ^ k ≤ 256 ^ 2 := Nat.pow_le_pow_right (by decide) (by omega)
        omega
      have HV := hide (show valK s.data.toList (k + 1) = valK s.data.toList k * 256 + byteAt s.data.toList k from rfl)
      by_cases hin : k < s.size
      · have hb : byteAt s.data.toList k = s[k].toNat := by unfold byteAt; rw [getD_byte s k hin]
        have HB := hide hb
        have hc := s[k].toNat_lt
        have HO := hide (or_byte (valK s.data.toList k) s[k].toNat (by omega) hc)
        clear hb
        generalize valK s.data.toList k = x at hv HV HO
        go_wp2
        exact ⟨⟨k + 1, by go_num, by omega, by rw [unhide HO, unhide HV, unhide HB]⟩, by simp [intOf]; omega⟩
      · have hb : byteAt s.data.toList k = 0 := by unfold byteAt; rw [List.getD_eq_getElem?_getD, List.getElem?_eq_none (by omega)]; rfl
        have HB := hide hb
        clear hb
        generalize valK s.data.toList k = x at hv HV
        go_wp2
        exact ⟨⟨k + 1, by go_num, by omega, by rw [unhide HV, unhide HB]; go_num⟩, by simp [intOf]; omega⟩
    · have hk3 : k = 3 := by omega
      subst hk3
      have hx := valK3_lt s.data.toList
      have HQ := hide (fun i (hi : i < 4) => quad_next (l := s.data.toList) (i := i) (by omega) (by omega) hi)
      have HL := hide (quad_length (l := s.data.toList) (by omega) (by omega))
      rw [hsl] at HQ
      generalize valK s.data.toList 3 = x at hx HQ
      go_wp2
      go_loopw [6, 23] (fun y z wr => ∃ k : Nat, z = .int .i64 k ∧ k ≤ 4 ∧ Lib.IsBuilderF 65 5 B b (Lib.byteCells (l ++ (quad s.data.toList).take k)) wr ∧ Below B w wr) (fun _ z _ => 4 - (intOf z).toNat)
      case atStart => exact ⟨0, rfl, by omega, by simpa using h, Below.refl _ _⟩
      case round =>
        obtain ⟨k, rfl, hk, hI, hbw⟩ := hrel
        have hzr := hbw.size
        by_cases hlt : k < 4
        · have hcap : (Lib.byteCells (l ++ (quad s.data.toList).take k)).length + 1 ≤ 140737488355328 := by
            rw [Lib.byteCells_length, List.length_append, List.length_take]
            omega
          have hq := unhide HQ k hlt
          by_cases hgt : s.size < k
          · rw [if_pos hgt] at hq
            have HN := hide hq
            clear hq
            go_wp2_with fail
            refine (writeByte_k B b _ _ _ hI hcap (by omega)).mono ?_
            rintro e w5 ⟨rfl, h5, hb5, _⟩
            rw [byteCells_snoc _ 61 61 rfl, List.append_assoc, ← unhide HN] at h5
            go_wp2
            exact ⟨⟨k + 1, by go_num, by omega, Or.inr h5, hbw.trans hb5⟩, by simp [intOf]; omega⟩
          · rw [if_neg hgt] at hq
            have HN := hide hq
            clear hq
            have hm : x / 2 ^ (18 - 6 * k) % 64 < 64 := by omega
            have hand : bits .and .u32 ((x : Int) / 2 ^ (18 - 6 * k)) 63 = ((x / 2 ^ (18 - 6 * k) % 64 : Nat) : Int) := by
              rw [show ((x : Int) / 2 ^ (18 - 6 * k)) = ((x / 2 ^ (18 - 6 * k) : Nat) : Int) by simp]
              exact and63 _ (Nat.lt_of_le_of_lt (Nat.div_le_self _ _) (by omega))
            go_wp2_with fail
            refine (writeByte_k B b _ _ _ hI hcap (by omega)).mono ?_
            rintro e w5 ⟨rfl, h5, hb5, _⟩
            have h6 : Lib.BuilderAtF 65 5 B b (.pointer (some ⟨b, 0, none⟩)) (Lib.byteCells (l ++ (quad s.data.toList).take (k + 1))) w5 := by
              rw [unhide HN, ← List.append_assoc, ← byteCells_snoc _ (let64 (x / 2 ^ (18 - 6 * k) % 64)) _ rfl, ← letB_at (x / 2 ^ (18 - 6 * k) % 64) hm _ (by simp [letB_size]; omega) (natmod x _)]
              exact h5
            clear h5 hand
            go_wp2
            exact ⟨⟨k + 1, by go_num, by omega, Or.inr h6, hbw.trans hb5⟩, by simp [intOf]; omega⟩
        · have hk4 : k = 4 := by omega
          subst hk4
          rw [List.take_of_length_le (by have := unhide HL; omega)] at hI
          go_wp2
          go_end0
          exact ⟨rfl, hI, hbw⟩

/-- What the frame of Base64 holds at its label, k bytes written. -/
def B64J (s : ByteArray) (w : World) (a' : Act) (w' : World) : Prop :=
  ∃ (k : Nat) (u5 u6 u7 u8 u9 u10 u11 u12 u13 u14 u15 u16 u17 u18 u19 u20 u21 u22 u23 u24 u25 u26 u27 u28 u29 u30 u31 : Value), a' = { tmps := #[.string s, undef, .string ⟨#[]⟩, .pointer (some ⟨w.heap.size, 0, none⟩), .int .i64 k, u5, u6, u7, u8, u9, u10, u11, u12, u13, u14, u15, u16, u17, u18, u19, u20, u21, u22, u23, u24, u25, u26, u27, u28, u29, u30, u31], defers := [] } ∧ k ≤ s.size ∧ (k % 3 = 0 ∨ k = s.size) ∧
    Lib.IsBuilderF 65 5 w.heap.size w.heap.size (Lib.byteCells (b64 (s.data.toList.take k))) w' ∧ Below w.heap.size w w' ∧ w.heap.size + 1 ≤ w'.heap.size

set_option maxHeartbeats 1000000 in
set_option maxRecDepth 100000 in
/-- enc.Base64 answers the bytes in base64. -/
theorem base64_any (s : ByteArray) (w : World) (hs : s.size ≤ 1099511627776) :
    Calls Tryz.prog 83 #[.string s] w fun e w' => e = .returned (.string (bts (b64 s.data.toList))) ∧ Below w.heap.size w w' := by
  have hsl := sizeL s
  go_enter Tryz.func83, Tryz.ntmps83
  go_wp2
  refine wp_scope_one 0 (B64J s w) (fun a' _ => s.size - (intOf (a'.tmps.getD 4 undef)).toNat) rfl ?_ ?_
  · intro hp
    go_wp2_with fail
    rw [show ((s.size : Int) + 2) / 3 * 4 = (((s.size + 2) / 3 * 4 : Nat) : Int) by omega]
    refine (grow_new _ w (by omega)).mono ?_
    rintro e w1 ⟨rfl, h1, b1, z1⟩
    go_wp2
    go_step3
    rename_i K hK
    exact hK _ _ (hp _ _ ⟨0, _, _, _, _, _, _, _, _, _, _, _, _, _, _, _, _, _, _, _, _, _, _, _, _, _, _, _, rfl, Nat.zero_le _, Or.inl rfl, h1, b1, z1⟩)
  · rintro a' w' ⟨k, u5, u6, u7, u8, u9, u10, u11, u12, u13, u14, u15, u16, u17, u18, u19, u20, u21, u22, u23, u24, u25, u26, u27, u28, u29, u30, u31, rfl, hk, hk3, hI, hbw, hz⟩
    by_cases hlt : k < s.size
    · have hk0 : k % 3 = 0 := by omega
      have hlb := b64_length (s.data.toList.take k)
      rw [List.length_take] at hlb
      have hmin : ∃ m : Nat, min ((s.size : Int) - (k : Int)) 3 = (m : Int) ∧ 1 ≤ m ∧ m ≤ 3 ∧ k + m ≤ s.size ∧ ((k + m) % 3 = 0 ∨ k + m = s.size) := by
        by_cases h : s.size - k < 3
        · exact ⟨s.size - k, by omega, by omega, by omega, by omega, by omega⟩
        · exact ⟨3, by omega, by omega, by omega, by omega, by omega⟩
      obtain ⟨m, hm, hm1, hm3, hmk, hmm⟩ := hmin
      have hsl := slice_km s k m hmk
      have hsz : (s.extract k (k + m)).size = m := by rw [size_part _ _ _ hmk]; omega
      have hlist : b64 (s.data.toList.take (k + m)) = b64 (s.data.toList.take k) ++ quad (s.extract k (k + m)).data.toList := by
        rw [toList_part, show k + m - k = m by omega, List.take_add, b64_parts _ _ (by rw [List.length_take, sizeL]; omega)]
        congr 1
        exact b64_quad (by rw [List.length_take]; omega)
      have HL := hide hlist
      clear hlist
      generalize s.extract k (k + m) = t at hsl hsz HL
      go_wp2_with fail
      refine (writeLetters_any w.heap.size w.heap.size _ t _ hI (by omega) (by omega) (by omega) (by omega)).mono ?_
      rintro e w2 ⟨rfl, h2, b2⟩
      rw [← unhide HL] at h2
      have := b2.size
      go_wp2
      go_step3
      refine ⟨rfl, ⟨k + m, _, _, _, _, _, _, _, _, _, _, _, _, _, _, _, _, _, _, _, _, _, _, _, _, _, _, _, rfl, hmk, hmm, h2, hbw.trans b2, by omega⟩, ?_⟩
      simp [intOf]
      omega
    · have hke : k = s.size := by omega
      subst hke
      rw [List.take_of_length_le (by rw [sizeL]; exact Nat.le_refl _)] at hI
      go_wp2_with fail
      refine (Tryz.Builder_String_any_k w.heap.size w.heap.size _ _ hI (by omega)).mono ?_
      rintro e w2 ⟨rfl, _, hb2, _⟩
      go_wp2
      simp only [Exit.jump]
      go_ret
      exact ⟨rfl, hbw.trans hb2⟩

end Go.Proofs.YtdallfakfhajdaaGreatDoor
