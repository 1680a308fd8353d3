/-
  What enc.writeLetters and enc.Base64 do, over this seat's program: bytes in base64, and no older memory turns.
-/
import Derived.Test.YtedpimhhbajljaaGreatDoorStr
import Derived.Test.YtedpimhhbajljaaGreatDoorEnc
import Derived.BigCall
import Derived.Deep.Cut
import Derived.Laws.BitsAllLaws
set_option linter.unusedVariables false
namespace Go.Proofs.YtedpimhhbajljaaGreatDoor
open Go.RowKit Go.Proofs.Enc

/-- The 64 letters. -/
def letB : ByteArray := ⟨#[65, 66, 67, 68, 69, 70, 71, 72, 73, 74, 75, 76, 77, 78, 79, 80, 81, 82, 83, 84, 85, 86, 87, 88, 89, 90, 97, 98, 99, 100, 101, 102, 103, 104, 105, 106, 107, 108, 109, 110, 111, 112, 113, 114, 115, 116, 117, 118, 119, 120, 121, 122, 48, 49, 50, 51, 52, 53, 54, 55, 56, 57, 43, 47]⟩
theorem letB_fin : ∀ n : Fin 64, letB.data.toList.getD n.val 0 = let64 n.val := by decide +kernel
theorem letB_size : letB.size = 64 := rfl
theorem letB_get (n : Nat) (h : n < 64) (h' : n < letB.size) : letB[n] = let64 n := by
  rw [← getD_byte letB n h']
  exact letB_fin ⟨n, h⟩

theorem letB_at (m : Nat) (hm : m < 64) (i : Nat) (hi : i < letB.size) (h : i = m) : ((letB[i]'hi).toNat : Int) = ((let64 m).toNat : Int) := by
  subst h
  rw [letB_get i hm hi]
theorem natmod (x p : Nat) : ((x : Int) / 2 ^ p % 64).toNat = x / 2 ^ p % 64 := by
  rw [show ((x : Int) / 2 ^ p % 64) = ((x / 2 ^ p % 64 : Nat) : Int) by simp]
  exact Int.toNat_natCast _

theorem or_byte (x c : Nat) (hx : x < 16777216) (hc : c < 256) : bits .or .u32 ((x : Int) * 256) (c : Int) = ((x * 256 + c : Nat) : Int) := by
  rw [show ((x : Int) * 256) = ((x * 256 : Nat) : Int) by omega]
  refine (u32_or_nat _ _ (by omega) (by omega)).trans ?_
  rw [nat_join 8 (x * 256) c (by omega) (by omega)]
theorem and63 (x : Nat) (h : x < 4294967296) : bits .and .u32 (x : Int) 63 = ((x % 64 : Nat) : Int) := (u32_and_nat x 63 h (by omega)).trans (by rw [show (63 : Nat) = 2 ^ 6 - 1 from rfl, Nat.and_two_pow_sub_one_eq_mod])

/-- What the frame of Base64 holds at its label, k bytes written. -/
def B64J (s : ByteArray) (w : World) (a' : Act) (w' : World) : Prop :=
  ∃ (k : Nat) (u5 u6 u7 u8 u9 u10 u11 u12 u13 u14 u15 u16 u17 u18 u19 u20 u21 u22 u23 u24 u25 u26 u27 u28 u29 u30 u31 : Value), a' = { tmps := #[.string s, undef, .string ⟨#[]⟩, .pointer (some ⟨w.heap.size, 0, none⟩), .int .i64 k, u5, u6, u7, u8, u9, u10, u11, u12, u13, u14, u15, u16, u17, u18, u19, u20, u21, u22, u23, u24, u25, u26, u27, u28, u29, u30, u31], defers := [] } ∧ k ≤ s.size ∧ (k % 3 = 0 ∨ k = s.size) ∧
    Lib.IsBuilderF 65 5 w.heap.size w.heap.size (Lib.byteCells (b64 (s.data.toList.take k))) w' ∧ Below w.heap.size w w' ∧ w.heap.size + 1 ≤ w'.heap.size

end Go.Proofs.YtedpimhhbajljaaGreatDoor

/-
  What enc.isItself and enc.Quoted do, over this seat's program: bytes quoted-printable, and no older memory turns.
-/
set_option linter.unusedVariables false
namespace Go.Proofs.YtedpimhhbajljaaGreatDoor
open Go.RowKit Go.Proofs.Enc

theorem ret_bool {a b : Bool} (h : a = b) : Ending.returned (.bool a) = .returned (.bool b) := by rw [h]
theorem bne10 (x : Nat) : ((x : Int) != 10) = (x != 10) := by
  rw [Bool.eq_iff_iff]; simp; omega

/-- The 16 digits. -/
def hexB : ByteArray := ⟨#[48, 49, 50, 51, 52, 53, 54, 55, 56, 57, 65, 66, 67, 68, 69, 70]⟩
theorem hexB_size : hexB.size = 16 := rfl
theorem hexB_fin : ∀ n : Fin 16, hexB.data.toList.getD n.val 0 = hx n.val := by decide +kernel
theorem hexB_at (m : Nat) (hm : m < 16) (i : Nat) (hi : i < hexB.size) (h : i = m) : ((hexB[i]'hi).toNat : Int) = ((hx m).toNat : Int) := by
  subst h
  rw [← getD_byte hexB i hi, hexB_fin ⟨i, hm⟩]

/-- What the frame of Quoted holds at its label, k bytes written. -/
def QuoJ (s : ByteArray) (w : World) (a' : Act) (w' : World) : Prop :=
  ∃ (k : Nat) (acc : List UInt8) (u5 u6 u7 u8 u9 u10 u11 u12 u13 u14 u15 u16 u17 u18 u19 u20 u21 u22 u23 u24 u25 u26 u27 u28 u29 u30 u31 u32 u33 u34 : Value), a' = { tmps := #[.string s, undef, .string ⟨#[]⟩, .pointer (some ⟨w.heap.size, 0, none⟩), .int .i64 k, u5, u6, u7, u8, u9, u10, u11, u12, u13, u14, u15, u16, u17, u18, u19, u20, u21, u22, u23, u24, u25, u26, u27, u28, u29, u30, u31, u32, u33, u34], defers := [] } ∧ k ≤ s.size ∧ acc.length ≤ 3 * k ∧ Hid (acc ++ quo (s.data.toList.drop k) = quo s.data.toList) ∧
    Lib.IsBuilderF 65 5 w.heap.size w.heap.size (Lib.byteCells acc) w' ∧ Below w.heap.size w w' ∧ w.heap.size + 1 ≤ w'.heap.size

end Go.Proofs.YtedpimhhbajljaaGreatDoor

/-
  What enc.countBlanks, digit, codedByte and lineEnd do, over this seat's program: they tell what bytes begin with, and the world stands.
-/
set_option linter.unusedVariables false
namespace Go.Proofs.YtedpimhhbajljaaGreatDoor
open Go.RowKit Go.Proofs.Enc

/-- Blanks up to k, and what is behind. -/
theorem blanks_from (l : List UInt8) : ∀ k, k ≤ l.length → (∀ j (h : j < l.length), j < k → l[j].toNat = 32 ∨ l[j].toNat = 9) → blanks l = k + blanks (l.drop k) := by
  induction l with
  | nil => intro k hk _; simp at hk; subst hk; simp
  | cons c r ih =>
    intro k hk hall
    cases k with
    | zero => simp
    | succ k =>
      have h0 := hall 0 (by simp) (by omega)
      simp only [List.getElem_cons_zero] at h0
      rw [blanks, if_pos h0, ih k (by simpa using hk) (fun j hj hjk => by have := hall (j + 1) (by simpa using hj) (by omega); simpa using this)]
      simp only [List.drop_succ_cons]
      omega

set_option maxHeartbeats 1000000 in
set_option maxRecDepth 100000 in
theorem countBlanks_any (s : ByteArray) (w : World) (hs : s.size ≤ 1099511627776) :
    Calls Tryz.prog 72 #[.string s] w fun e w' => e = .returned (.int .i64 (blanks s.data.toList)) ∧ w' = w := by
  have hsl := sizeL s
  go_enter Tryz.func72, Tryz.ntmps72
  go_wp2
  go_loop [3] (fun z => ∃ k : Nat, z = .int .i64 k ∧ k ≤ s.size ∧ Hid (blanks s.data.toList = k + blanks (s.data.toList.drop k))) (fun z => s.size - (intOf z).toNat)
  case atStart => exact ⟨0, rfl, by omega, hide (by simp)⟩
  case round =>
    obtain ⟨k, rfl, hk, HB⟩ := hrel
    by_cases hlt : k < s.size
    · have hd := drop_byte s k hlt
      have hc := s[k].toNat_lt
      by_cases h32 : s[k].toNat = 32
      · have hb : ((s[k].toNat : Int) == 32) = true := by simp [h32]
        have hfin : blanks s.data.toList = k + 1 + blanks (s.data.toList.drop (k + 1)) := by
          have := unhide HB
          rw [hd, blanks, if_pos (Or.inl h32)] at this
          omega
        have HF := hide hfin
        clear hfin HB hd h32
        go_wp2
        exact ⟨⟨k + 1, by go_num, by omega, HF⟩, by simp [intOf]; omega⟩
      · have hb : ((s[k].toNat : Int) == 32) = false := by simp; omega
        by_cases h9 : s[k].toNat = 9
        · have hb9 : ((s[k].toNat : Int) == 9) = true := by simp [h9]
          have hfin : blanks s.data.toList = k + 1 + blanks (s.data.toList.drop (k + 1)) := by
            have := unhide HB
            rw [hd, blanks, if_pos (Or.inr h9)] at this
            omega
          have HF := hide hfin
          clear hfin HB hd h32 h9
          go_wp2
          exact ⟨⟨k + 1, by go_num, by omega, HF⟩, by simp [intOf]; omega⟩
        · have hb9 : ((s[k].toNat : Int) == 9) = false := by simp; omega
          have hfin : blanks s.data.toList = k := by
            have := unhide HB
            rw [hd, blanks, if_neg (by omega)] at this
            omega
          have HF := hide hfin
          clear hfin HB hd h32 h9
          go_wp2
          go_ret
          exact ⟨by rw [unhide HF]; rfl, rfl⟩
    · have hfin : blanks s.data.toList = k := by
        have := unhide HB
        rw [drop_end s (by omega), blanks] at this
        omega
      have HF := hide hfin
      clear hfin HB
      go_wp2
      go_ret
      exact ⟨by rw [unhide HF]; rfl, rfl⟩

/-- A digit's number; 0, if it is none. -/
def digV (c : UInt8) : Nat := if dig c < 16 then dig c else 0
theorem digV_lt (c : UInt8) : digV c < 16 := by unfold digV; split <;> omega

set_option maxHeartbeats 1000000 in
set_option maxRecDepth 100000 in
theorem digit_any (c : UInt8) (w : World) :
    Calls Tryz.prog 97 #[.int .u8 c.toNat] w fun e w' => e = .returned (.tuple #[.int .u8 (digV c), .bool (decide (dig c < 16))]) ∧ w' = w := by
  have hc := c.toNat_lt
  have two : ∀ (v : Int) (b : Bool), v = digV c → b = decide (dig c < 16) → Ending.returned (.tuple #[.int .u8 v, .bool b]) = .returned (.tuple #[.int .u8 (digV c), .bool (decide (dig c < 16))]) := by
    intro v b h1 h2; rw [h1, h2]
  have HT := hide two
  clear two
  by_cases h1 : 48 ≤ c.toNat ∧ c.toNat ≤ 57
  · have hd : dig c = c.toNat - 48 := by unfold dig; rw [if_pos h1]
    have HD := hide hd
    obtain ⟨h1, h2⟩ := h1
    clear hd
    go_enter Tryz.func97, Tryz.ntmps97
    go_wp2
    go_ret2
    exact ⟨unhide HT _ _ (by unfold digV; rw [unhide HD, if_pos (by omega)]; first | omega | (simp; omega) | (show (_ : Int) = _; omega)) (by rw [unhide HD]; simp; omega), rfl⟩
  · by_cases h2 : 65 ≤ c.toNat ∧ c.toNat ≤ 70
    · have hd : dig c = c.toNat - 55 := by unfold dig; rw [if_neg h1, if_pos h2]
      have HD := hide hd
      obtain ⟨h2, h3⟩ := h2
      have h57 : ¬ c.toNat ≤ 57 := by omega
      have h48 : 48 ≤ c.toNat := by omega
      clear hd h1
      go_enter Tryz.func97, Tryz.ntmps97
      go_wp2
      go_ret2
      exact ⟨unhide HT _ _ (by unfold digV; rw [unhide HD, if_pos (by omega)]; first | omega | (simp; omega) | (show (_ : Int) = _; omega)) (by rw [unhide HD]; simp; omega), rfl⟩
    · by_cases h3 : 97 ≤ c.toNat ∧ c.toNat ≤ 102
      · have hd : dig c = c.toNat - 87 := by unfold dig; rw [if_neg h1, if_neg h2, if_pos h3]
        have HD := hide hd
        obtain ⟨h3, h4⟩ := h3
        have h57 : ¬ c.toNat ≤ 57 := by omega
        have h48 : 48 ≤ c.toNat := by omega
        have h65 : 65 ≤ c.toNat := by omega
        have h70 : ¬ c.toNat ≤ 70 := by omega
        clear hd h1 h2
        go_enter Tryz.func97, Tryz.ntmps97
        go_wp2
        go_ret2
        exact ⟨unhide HT _ _ (by unfold digV; rw [unhide HD, if_pos (by omega)]; first | omega | (simp; omega) | (show (_ : Int) = _; omega)) (by rw [unhide HD]; simp; omega), rfl⟩
      · have hd : dig c = 16 := by unfold dig; rw [if_neg h1, if_neg h2, if_neg h3]
        have HD := hide hd
        clear hd
        go_enter Tryz.func97, Tryz.ntmps97
        by_cases g1 : 48 ≤ c.toNat <;> by_cases g2 : 65 ≤ c.toNat <;> by_cases g3 : 97 ≤ c.toNat <;> (try (exfalso; omega)) <;>
          (try have g4 : ¬ c.toNat ≤ 57 := by omega) <;> (try have g5 : ¬ c.toNat ≤ 70 := by omega) <;> (try have g6 : ¬ c.toNat ≤ 102 := by omega) <;> clear h1 h2 h3 <;> go_wp2 <;> go_ret2 <;>
          exact ⟨unhide HT _ _ (by unfold digV; rw [unhide HD, if_neg (by omega)]; rfl) (by rw [unhide HD]; simp), rfl⟩

/-- The byte that codedByte tells. -/
def codV : List UInt8 → Nat
  | c :: a :: b :: _ => if c.toNat = 61 then digV a * 16 + digV b else 0
  | _ => 0
/-- Whether bytes begin with a coded one. -/
def codB : List UInt8 → Bool
  | c :: r => decide (c.toNat = 61 ∧ coded r < 256)
  | [] => false
theorem codV_of {c : UInt8} {r : List UInt8} (h : codB (c :: r) = true) : codV (c :: r) = coded r := by
  simp only [codB, decide_eq_true_eq] at h
  match r, h with
  | [], h => simp [coded] at h
  | [_], h => simp [coded] at h
  | a :: b :: _, h =>
    have h2 := h.2
    simp only [coded] at h2 ⊢
    by_cases hd : dig a < 16 ∧ dig b < 16
    · simp only [codV, digV]
      rw [if_pos h.1, if_pos hd.1, if_pos hd.2, if_pos hd]
    · rw [if_neg hd] at h2; omega
theorem codV_lt (l : List UInt8) : codV l < 256 := by
  unfold codV
  split
  · rename_i a b _
    have := digV_lt a
    have := digV_lt b
    split <;> omega
  · omega

theorem or16 (x y : Nat) (hx : x < 16) (hy : y < 16) : bits .or .u8 ((x : Int) * 16) (y : Int) = ((x * 16 + y : Nat) : Int) := by
  rw [show ((x : Int) * 16) = ((x * 16 : Nat) : Int) by omega]
  refine (u8_or_nat _ _ (by omega) (by omega)).trans ?_
  rw [nat_join 4 (x * 16) y (by omega) (by omega)]

set_option maxHeartbeats 1000000 in
set_option maxRecDepth 100000 in
theorem codedByte_any (s : ByteArray) (w : World) (hs : s.size ≤ 1099511627776) :
    Calls Tryz.prog 73 #[.string s] w fun e w' => e = .returned (.tuple #[.int .u8 (codV s.data.toList), .bool (codB s.data.toList)]) ∧ w' = w := by
  have hsl := sizeL s
  by_cases h3 : s.size < 3
  · have hfin : codV s.data.toList = 0 ∧ codB s.data.toList = false := by
      match hl : s.data.toList with
      | [] => exact ⟨rfl, rfl⟩
      | [_] => exact ⟨rfl, by simp [codB, coded]⟩
      | [_, _] => exact ⟨rfl, by simp [codB, coded]⟩
      | _ :: _ :: _ :: _ => rw [hl] at hsl; simp at hsl; omega
    have HF := hide hfin
    clear hfin hsl
    go_enter Tryz.func73, Tryz.ntmps73
    go_wp2
    go_ret2
    exact ⟨by rw [(unhide HF).1, (unhide HF).2]; rfl, rfl⟩
  · have hd3 : decide ((s.size : Int) < 3) = false := by simp; omega
    have hl : s.data.toList = s[0] :: s[1] :: s[2] :: s.data.toList.drop 3 := by
      have h0 := drop_byte s 0 (by omega)
      have h1 := drop_byte s 1 (by omega)
      have h2 := drop_byte s 2 (by omega)
      rw [h1, h2] at h0
      exact h0
    by_cases h61 : s[0].toNat = 61
    · have hb : ((s[0].toNat : Int) != 61) = false := by simp [h61]
      have hfin : codV s.data.toList = digV s[1] * 16 + digV s[2] ∧ codB s.data.toList = (decide (dig s[1] < 16) && decide (dig s[2] < 16)) := by
        rw [hl]
        refine ⟨by simp [codV, h61], ?_⟩
        simp only [codB, coded, h61, true_and]
        have := dig_le s[1]
        have := dig_le s[2]
        by_cases hd : dig s[1] < 16 ∧ dig s[2] < 16
        · rw [if_pos hd]; simp [hd.1, hd.2]; omega
        · rw [if_neg hd]
          by_cases h1 : dig s[1] < 16
          · have : ¬ dig s[2] < 16 := fun x => hd ⟨h1, x⟩
            simp [h1, this]
          · simp [h1]
      have HF := hide hfin
      have hor := or16 (digV s[1]) (digV s[2]) (digV_lt _) (digV_lt _)
      have hd1 := digV_lt s[1]
      have hd2 := digV_lt s[2]
      clear hfin hl h61
      go_enter Tryz.func73, Tryz.ntmps73
      go_wp2_with fail
      refine (digit_any s[1] w).mono ?_
      rintro e w1 ⟨rfl, rfl⟩
      go_wp2_with fail
      refine (digit_any s[2] w1).mono ?_
      rintro e w2 ⟨rfl, rfl⟩
      generalize digV s[1] = x at HF hor hd1
      generalize digV s[2] = y at HF hor hd2
      generalize decide (dig s[1] < 16) = p at HF
      generalize decide (dig s[2] < 16) = q at HF
      have HO := hide hor
      cases p <;> go_wp2 <;> go_ret2 <;> exact ⟨by rw [(unhide HF).1, (unhide HF).2]; first | rfl | (rw [← unhide HO]; rfl), rfl⟩
    · have hb : ((s[0].toNat : Int) != 61) = true := by simp; omega
      have hfin : codV s.data.toList = 0 ∧ codB s.data.toList = false := by
        rw [hl]
        exact ⟨by simp [codV, h61], by simp [codB, h61]⟩
      have HF := hide hfin
      clear hfin hl h61
      go_enter Tryz.func73, Tryz.ntmps73
      go_wp2
      go_ret2
      exact ⟨by rw [(unhide HF).1, (unhide HF).2]; rfl, rfl⟩

/-- Whether bytes begin with a carriage return and a line feed. -/
def crlf : List UInt8 → Bool
  | c :: d :: _ => decide (c.toNat = 13 ∧ d.toNat = 10)
  | _ => false

set_option maxHeartbeats 1000000 in
set_option maxRecDepth 100000 in
theorem hasCrlf_any (s : ByteArray) (w : World) (hs : s.size ≤ 1099511627776) :
    Calls Tryz.prog 76 #[.string s, .string ⟨#[13, 10]⟩] w fun e w' => e = .returned (.bool (crlf s.data.toList)) ∧ w' = w := by
  have hsl := sizeL s
  by_cases h2 : 2 ≤ s.size
  · have hl : s.data.toList = s[0] :: s[1] :: s.data.toList.drop 2 := by
      have h0 := drop_byte s 0 (by omega)
      have h1 := drop_byte s 1 (by omega)
      rw [h1] at h0
      exact h0
    have hfin : crlf s.data.toList = ((s.extract 0 2).toList == [13, 10]) := by
      rw [show ([13, 10] : List UInt8) = (ByteArray.mk #[13, 10]).toList by rw [ByteArray.toList_eq], beqS, hl]
      simp only [crlf]
      have e : (s.extract 0 2).data.toList = [s[0], s[1]] := by rw [toList_upto, hl]; rfl
      by_cases h : s[0].toNat = 13 ∧ s[1].toNat = 10
      · rw [decide_eq_true h, decide_eq_true]
        refine ext_list (e.trans ?_)
        rw [show s[0] = 13 from UInt8.toNat_inj.1 h.1, show s[1] = 10 from UInt8.toNat_inj.1 h.2]
      · rw [decide_eq_false h, decide_eq_false]
        intro he
        rw [he] at e
        simp at e
        exact h ⟨by rw [← e.1]; rfl, by rw [← e.2]; rfl⟩
    have HF := hide hfin
    have hsl := slice_upto s 2 2 rfl h2
    clear hfin hl
    generalize s.extract 0 2 = t at HF hsl
    go_enter Tryz.func76, Tryz.ntmps76
    go_wp2
    go_ret
    exact ⟨by rw [unhide HF]; rfl, rfl⟩
  · have hfin : crlf s.data.toList = false := by
      match hl : s.data.toList with
      | [] => rfl
      | [_] => rfl
      | _ :: _ :: _ => rw [hl] at hsl; simp at hsl; omega
    have HF := hide hfin
    clear hfin hsl
    go_enter Tryz.func76, Tryz.ntmps76
    go_wp2
    go_ret
    exact ⟨by rw [unhide HF]; rfl, rfl⟩

set_option maxHeartbeats 400000 in
theorem hasPrefix_any (s : ByteArray) (w : World) (hs : s.size ≤ 1099511627776) :
    Calls Tryz.prog 51 #[.string s, .string ⟨#[13, 10]⟩] w fun e w' => e = .returned (.bool (crlf s.data.toList)) ∧ w' = w := by
  go_enter Tryz.func51, Tryz.ntmps51
  go_wp2_with (go_at_call 76; refine (hasCrlf_any s _ hs).mono ?_)
  rintro e w1 ⟨rfl, rfl⟩
  go_wp2
  go_ret
  exact ⟨rfl, rfl⟩

/-- How many bytes the end of a line has; 0, if there is none. -/
def lendV (l : List UInt8) : Nat := if lend l < 3 then lend l else 0

set_option maxHeartbeats 1000000 in
set_option maxRecDepth 100000 in
theorem lineEnd_any (s : ByteArray) (w : World) (hs : s.size ≤ 1099511627776) :
    Calls Tryz.prog 74 #[.string s] w fun e w' => e = .returned (.tuple #[.int .i64 (lendV s.data.toList), .bool (decide (lend s.data.toList < 3))]) ∧ w' = w := by
  have hsl := sizeL s
  by_cases h0 : s.size = 0
  · have he : s = ⟨#[]⟩ := ext_list (List.eq_nil_of_length_eq_zero (by omega))
    subst he
    clear hsl h0 hs
    go_enter Tryz.func74, Tryz.ntmps74
    go_wp2
    go_ret2
    exact ⟨rfl, rfl⟩
  · have hpos : 0 < s.size := by omega
    have hl : s.data.toList = s[0] :: s.data.toList.drop 1 := drop_byte s 0 hpos
    have hq : (s.toList == []) = false := by
      rw [ByteArray.toList_eq, hl]; rfl
    have hc := s[0].toNat_lt
    by_cases h10 : s[0].toNat = 10
    · have hb : ((s[0].toNat : Int) == 10) = true := by simp [h10]
      have hfin : lend s.data.toList = 1 := by
        rw [hl]
        cases s.data.toList.drop 1 <;> simp [lend, h10]
      have HF := hide hfin
      clear hfin hl h10 hsl
      go_enter Tryz.func74, Tryz.ntmps74
      go_wp2
      go_ret2
      exact ⟨by unfold lendV; rw [unhide HF]; rfl, rfl⟩
    · have hb : ((s[0].toNat : Int) == 10) = false := by simp; omega
      have hfin : lend s.data.toList = if crlf s.data.toList then 2 else 3 := by
        rw [hl]
        cases s.data.toList.drop 1 with
        | nil => simp [lend, crlf, h10]
        | cons d r => simp [lend, crlf, h10]
      have HF := hide hfin
      clear hfin hl h10 hsl
      go_enter Tryz.func74, Tryz.ntmps74
      go_wp2_with fail
      refine (hasPrefix_any s w hs).mono ?_
      rintro e w1 ⟨rfl, rfl⟩
      by_cases hcr : crlf s.data.toList = true
      · rw [if_pos hcr] at HF
        go_wp2
        go_ret2
        exact ⟨by unfold lendV; rw [unhide HF]; rfl, rfl⟩
      · rw [if_neg hcr] at HF
        have hcr' : crlf s.data.toList = false := by simpa using hcr
        clear hcr
        go_wp2
        go_ret2
        exact ⟨by unfold lendV; rw [unhide HF]; rfl, rfl⟩
end Go.Proofs.YtedpimhhbajljaaGreatDoor

/-
  What enc.FromQuoted does, over this seat's program: what quoted-printable bytes say, and how many are counted.
-/
set_option linter.unusedVariables false
namespace Go.Proofs.YtedpimhhbajljaaGreatDoor
open Go.RowKit Go.Proofs.Enc

/-- What the frame of FromQuoted holds at its label, k bytes read. -/
def FqJ (s : ByteArray) (w : World) (a' : Act) (w' : World) : Prop :=
  ∃ (k cnt : Nat) (acc : List UInt8) (u : Nat → Value), a' = { tmps := #[.string s, undef, .string ⟨#[]⟩, .int .i64 0, .pointer (some ⟨w.heap.size, 0, none⟩), .int .i64 k, .int .i64 cnt, u 7, u 8, u 9, u 10, u 11, u 12, u 13, u 14, u 15, u 16, u 17, u 18, u 19, u 20, u 21, u 22, u 23, u 24, u 25, u 26, u 27, u 28, u 29, u 30, u 31, u 32, u 33, u 34, u 35, u 36, u 37, u 38, u 39, u 40, u 41, u 42, u 43, u 44, u 45, u 46, u 47, u 48, u 49, u 50, u 51, u 52, u 53, u 54, u 55, u 56, u 57, u 58, u 59, u 60, u 61, u 62, u 63, u 64, u 65, u 66, u 67, u 68, u 69, u 70, u 71, u 72, u 73, u 74, u 75, u 76, u 77, u 78, u 79, u 80, u 81, u 82, u 83, u 84, u 85, u 86, u 87, u 88, u 89, u 90, u 91, u 92, u 93, u 94, u 95, u 96], defers := [] } ∧
    k ≤ s.size ∧ cnt ≤ k ∧ acc.length ≤ k ∧ Hid (acc ++ (fq (s.data.toList.drop k)).1 = (fq s.data.toList).1 ∧ cnt + (fq (s.data.toList.drop k)).2 = (fq s.data.toList).2) ∧
    Lib.IsBuilderF 65 5 w.heap.size w.heap.size (Lib.byteCells acc) w' ∧ Below w.heap.size w w' ∧ w.heap.size + 1 ≤ w'.heap.size

theorem FqJ.mk {s : ByteArray} {w : World} {a' : Act} {w' : World} (k cnt : Nat) (acc : List UInt8)
    (ha : a' = { tmps := #[.string s, undef, .string ⟨#[]⟩, .int .i64 0, .pointer (some ⟨w.heap.size, 0, none⟩), .int .i64 k, .int .i64 cnt, a'.tmps.getD 7 undef, a'.tmps.getD 8 undef, a'.tmps.getD 9 undef, a'.tmps.getD 10 undef, a'.tmps.getD 11 undef, a'.tmps.getD 12 undef, a'.tmps.getD 13 undef, a'.tmps.getD 14 undef, a'.tmps.getD 15 undef, a'.tmps.getD 16 undef, a'.tmps.getD 17 undef, a'.tmps.getD 18 undef, a'.tmps.getD 19 undef, a'.tmps.getD 20 undef, a'.tmps.getD 21 undef, a'.tmps.getD 22 undef, a'.tmps.getD 23 undef, a'.tmps.getD 24 undef, a'.tmps.getD 25 undef, a'.tmps.getD 26 undef, a'.tmps.getD 27 undef, a'.tmps.getD 28 undef, a'.tmps.getD 29 undef, a'.tmps.getD 30 undef, a'.tmps.getD 31 undef, a'.tmps.getD 32 undef, a'.tmps.getD 33 undef, a'.tmps.getD 34 undef, a'.tmps.getD 35 undef, a'.tmps.getD 36 undef, a'.tmps.getD 37 undef, a'.tmps.getD 38 undef, a'.tmps.getD 39 undef, a'.tmps.getD 40 undef, a'.tmps.getD 41 undef, a'.tmps.getD 42 undef, a'.tmps.getD 43 undef, a'.tmps.getD 44 undef, a'.tmps.getD 45 undef, a'.tmps.getD 46 undef, a'.tmps.getD 47 undef, a'.tmps.getD 48 undef, a'.tmps.getD 49 undef, a'.tmps.getD 50 undef, a'.tmps.getD 51 undef, a'.tmps.getD 52 undef, a'.tmps.getD 53 undef, a'.tmps.getD 54 undef, a'.tmps.getD 55 undef, a'.tmps.getD 56 undef, a'.tmps.getD 57 undef, a'.tmps.getD 58 undef, a'.tmps.getD 59 undef, a'.tmps.getD 60 undef, a'.tmps.getD 61 undef, a'.tmps.getD 62 undef, a'.tmps.getD 63 undef, a'.tmps.getD 64 undef, a'.tmps.getD 65 undef, a'.tmps.getD 66 undef, a'.tmps.getD 67 undef, a'.tmps.getD 68 undef, a'.tmps.getD 69 undef, a'.tmps.getD 70 undef, a'.tmps.getD 71 undef, a'.tmps.getD 72 undef, a'.tmps.getD 73 undef, a'.tmps.getD 74 undef, a'.tmps.getD 75 undef, a'.tmps.getD 76 undef, a'.tmps.getD 77 undef, a'.tmps.getD 78 undef, a'.tmps.getD 79 undef, a'.tmps.getD 80 undef, a'.tmps.getD 81 undef, a'.tmps.getD 82 undef, a'.tmps.getD 83 undef, a'.tmps.getD 84 undef, a'.tmps.getD 85 undef, a'.tmps.getD 86 undef, a'.tmps.getD 87 undef, a'.tmps.getD 88 undef, a'.tmps.getD 89 undef, a'.tmps.getD 90 undef, a'.tmps.getD 91 undef, a'.tmps.getD 92 undef, a'.tmps.getD 93 undef, a'.tmps.getD 94 undef, a'.tmps.getD 95 undef, a'.tmps.getD 96 undef], defers := [] })
    (h1 : k ≤ s.size) (h2 : cnt ≤ k) (h3 : acc.length ≤ k) (h4 : Hid (acc ++ (fq (s.data.toList.drop k)).1 = (fq s.data.toList).1 ∧ cnt + (fq (s.data.toList.drop k)).2 = (fq s.data.toList).2))
    (h5 : Lib.IsBuilderF 65 5 w.heap.size w.heap.size (Lib.byteCells acc) w') (h6 : Below w.heap.size w w') (h7 : w.heap.size + 1 ≤ w'.heap.size) : FqJ s w a' w' :=
  ⟨k, cnt, acc, fun i => a'.tmps.getD i undef, ha, h1, h2, h3, h4, h5, h6, h7⟩

theorem lend_le {l : List UInt8} (h : lend l < 3) : lend l ≤ l.length := by
  match l with
  | [] => simp [lend]
  | [c] =>
    simp only [lend] at h ⊢
    split <;> simp_all
  | c :: d :: _ =>
    simp only [lend] at h ⊢
    split
    · simp
    · split
      · simp
      · simp_all

theorem blanks_pos {c : UInt8} {r : List UInt8} (h : 0 < blanks (c :: r)) : (c.toNat = 32 ∨ c.toNat = 9) ∧ blanks (c :: r) = blanks r + 1 := by
  rw [blanks] at h ⊢
  by_cases hc : c.toNat = 32 ∨ c.toNat = 9
  · rw [if_pos hc]; exact ⟨hc, rfl⟩
  · rw [if_neg hc] at h; omega
theorem blanks_none {c : UInt8} {r : List UInt8} (h : ¬ 0 < blanks (c :: r)) : ¬ (c.toNat = 32 ∨ c.toNat = 9) := by
  intro hc
  rw [blanks, if_pos hc] at h
  omega

set_option maxHeartbeats 1000000 in
set_option maxRecDepth 100000 in
/-- enc.FromQuoted answers what the bytes say. -/
theorem fromQuoted_any (s : ByteArray) (w : World) (hs : s.size ≤ 1099511627776) :
    Calls Tryz.prog 50 #[.string s] w fun e w' => e = .returned (.tuple #[.string (bts (fq s.data.toList).1), .int .i64 (fq s.data.toList).2]) ∧ Below w.heap.size w w' := by
  go_enter Tryz.func50, Tryz.ntmps50
  go_wp2
  refine wp_scope_one 0 (FqJ s w) (fun a' _ => s.size - (intOf (a'.tmps.getD 5 undef)).toNat) rfl ?_ ?_
  · intro hp
    go_wp2_with fail
    refine (grow_new _ w (by omega)).mono ?_
    rintro e w1 ⟨rfl, h1, b1, z1⟩
    go_wp2
    go_step3
    rename_i K hK
    exact hK _ _ (hp _ _ (FqJ.mk 0 0 [] rfl (Nat.zero_le _) (Nat.zero_le _) (by simp) (hide ⟨rfl, Nat.zero_add _⟩) h1 b1 z1))
  · rintro a' w' ⟨k, cnt, acc, u, rfl, hk, hcnt, hacc, HE, hI, hbw, hz⟩
    by_cases hend : k = s.size
    · have hbe : ((k : Int) == (s.size : Int)) = true := by simp [hend]
      have hfin : acc = (fq s.data.toList).1 ∧ cnt = (fq s.data.toList).2 := by
        have := unhide HE
        rw [drop_end s (by omega)] at this
        simpa [fq, fqF] using this
      have HF := hide hfin
      clear hfin hend
      go_wp2_with fail
      refine (Tryz.Builder_String_any_k w.heap.size w.heap.size acc _ hI (by omega)).mono ?_
      rintro e w2 ⟨rfl, _, hb2, _⟩
      go_wp2
      simp only [Exit.jump]
      go_ret2
      exact ⟨by rw [← (unhide HF).1, ← (unhide HF).2]; rfl, hbw.trans hb2⟩
    · have hlt : k < s.size := by omega
      have hbe : ((k : Int) == (s.size : Int)) = false := by simp; omega
      have hd := drop_byte s k hlt
      have hc := s[k].toNat_lt
      have hs1 := slice_from s k k rfl (by omega)
      have hs2 := slice_from s ((k : Int) + 1) (k + 1) (by omega) (by omega)
      have hz1 : (s.extract k s.size).size ≤ 1099511627776 := by rw [size_part _ _ _ (Nat.le_refl _)]; omega
      have hz2 : (s.extract (k + 1) s.size).size ≤ 1099511627776 := by rw [size_part _ _ _ (Nat.le_refl _)]; omega
      have HL1 := hide (toList_from s k)
      have HL2 := hide (toList_from s (k + 1))
      have HD := hide hd
      have C1 := fun W => countBlanks_any (s.extract k s.size) W hz1
      have C2 := fun W => codedByte_any (s.extract k s.size) W hz1
      have C3 := fun W => lineEnd_any (s.extract (k + 1) s.size) W hz2
      rw [toList_from, hd] at C1 C2
      rw [toList_from] at C3
      obtain ⟨r, hr⟩ : ∃ r, s.data.toList.drop (k + 1) = r := ⟨_, rfl⟩
      obtain ⟨bl, hbl⟩ : ∃ bl, blanks (s[k] :: r) = bl := ⟨_, rfl⟩
      obtain ⟨cv, hcv⟩ : ∃ cv, codV (s[k] :: r) = cv := ⟨_, rfl⟩
      obtain ⟨cb, hcb⟩ : ∃ cb, codB (s[k] :: r) = cb := ⟨_, rfl⟩
      obtain ⟨ev, hev⟩ : ∃ ev, lendV r = ev := ⟨_, rfl⟩
      obtain ⟨eb, heb⟩ : ∃ eb, decide (lend r < 3) = eb := ⟨_, rfl⟩
      rw [hr, hbl] at C1
      rw [hr, hcv, hcb] at C2
      rw [hr, hev, heb] at C3
      have HBL := hide hbl
      have HCV := hide hcv
      have HCB := hide hcb
      have HEV := hide hev
      have HEB := hide heb
      have HR := hide hr
      have HC1 := hide C1
      have HC2 := hide C2
      have HC3 := hide C3
      clear hend hd hr hbl hcv hcb hev heb C1 C2 C3 hz1 hz2
      generalize s.extract k s.size = t1 at hs1 HC1 HC2
      generalize s.extract (k + 1) s.size = t2 at hs2 HC3
      go_wp2_with fail
      refine (unhide HC1 _).mono ?_
      rintro e w1 ⟨rfl, rfl⟩
      go_wp2_with fail
      refine (unhide HC2 _).mono ?_
      rintro e w1 ⟨rfl, rfl⟩
      go_wp2_with fail
      refine (unhide HC3 _).mono ?_
      rintro e w1 ⟨rfl, rfl⟩
      clear hs1 hs2 HC1 HC2 HC3
      have HE2 : Hid (acc ++ (fq (s[k] :: r)).1 = (fq s.data.toList).1 ∧ cnt + (fq (s[k] :: r)).2 = (fq s.data.toList).2) := by
        rw [← unhide HR, ← unhide HD]; exact HE
      clear HE
      have hrl : r.length = s.size - (k + 1) := by rw [← unhide HR, List.length_drop, sizeL]
      by_cases hb0 : 0 < bl
      · have hp := blanks_pos (c := s[k]) (r := r) (by rw [unhide HBL]; exact hb0)
        have hbr : bl = blanks r + 1 := by rw [← unhide HBL]; exact hp.2
        have hble := blanks_le r
        have hkb : k + bl ≤ s.size := by omega
        have hs3 := slice_from s ((k : Int) + (bl : Int)) (k + bl) (by omega) hkb
        have C4 := fun W => lineEnd_any (s.extract (k + bl) s.size) W (by rw [size_part _ _ _ (Nat.le_refl _)]; omega)
        have hdb : s.data.toList.drop (k + bl) = r.drop (blanks r) := by rw [show k + bl = k + 1 + blanks r by omega, ← List.drop_drop, unhide HR]
        rw [toList_from, hdb] at C4
        have HC4 := hide C4
        have HDB := hide hdb
        have HHP := hide hp
        have HBR := hide hbr
        have hs4 := slice_km s k bl hkb
        have htk : (s.extract k (k + bl)).data.toList = (s[k] :: r).take bl := by rw [toList_part, unhide HD, unhide HR, show k + bl - k = bl by omega]
        have hsz4 : (s.extract k (k + bl)).size = bl := by rw [size_part _ _ _ hkb]; omega
        have HTK := hide htk
        clear C4 hdb hp hbr htk
        generalize s.extract (k + bl) s.size = t3 at hs3 HC4
        generalize s.extract k (k + bl) = t4 at hs4 HTK hsz4
        go_wp2_with fail
        refine (unhide HC4 _).mono ?_
        rintro e w1 ⟨rfl, rfl⟩
        clear hs3 HC4
        by_cases hle : lend (r.drop (blanks r)) < 3
        · have hfin := unhide HE2
          rw [fq_blanks_end _ _ (unhide HHP).1 hle, ← unhide HDB] at hfin
          have HF := hide hfin
          clear hfin HE2
          go_wp2
          go_step3
          refine ⟨rfl, FqJ.mk (k + bl) cnt acc rfl hkb (by omega) (by omega) HF hI hbw hz, ?_⟩
          simp [intOf]
          omega
        · have hfin := unhide HE2
          have hin := fq_blanks_in (s[k] :: r) (by rw [unhide HBL, unhide HBR]; simpa using hle)
          rw [unhide HBL] at hin
          rw [hin, show (s[k] :: r).drop bl = s.data.toList.drop (k + bl) by rw [unhide HDB, unhide HBR]; simp, ← List.append_assoc, ← unhide HTK] at hfin
          have HF := hide hfin
          clear hfin HE2 hin
          go_wp2_with fail
          refine (writeString_k w.heap.size w.heap.size acc t4 _ hI (by omega) (by omega)).mono ?_
          rintro e w3 ⟨rfl, h3, b3⟩
          have hz3 := b3.size
          have hl4 : (acc ++ t4.data.toList).length ≤ k + bl := by rw [List.length_append, sizeL]; omega
          have HL4 := hide hl4
          clear hl4
          go_wp2
          go_step3
          refine ⟨rfl, FqJ.mk (k + bl) cnt _ rfl hkb (by omega) (unhide HL4) HF h3 (hbw.trans b3) (by omega), ?_⟩
          simp [intOf]
          omega
      · have hnb := blanks_none (c := s[k]) (r := r) (by rw [unhide HBL]; exact hb0)
        have hbl0 : bl = 0 := by omega
        subst hbl0
        have hfin := unhide HE2
        rw [fq_cons] at hfin
        by_cases h61 : s[k].toNat = 61
        · have hbe6 : ((s[k].toNat : Int) == 61) = true := by simp [h61]
          rw [if_pos h61] at hfin
          cases cb with
          | true =>
            have hcd : coded r < 256 := by have := unhide HCB; simp only [codB, decide_eq_true_eq] at this; exact this.2
            have hcl := coded_len hcd
            have hcv : cv = coded r := by rw [← unhide HCV]; exact codV_of (unhide HCB)
            rw [if_pos hcd, ← hcv] at hfin
            have hdr : s.data.toList.drop (k + 3) = r.drop 2 := by rw [← unhide HR, List.drop_drop]
            rw [← hdr] at hfin
            have hcvb : ((cv : Nat) : Int) = ((UInt8.ofNat cv).toNat : Int) := by simp; omega
            have HF := hide hfin
            have HCVB := hide hcvb
            clear hfin HE2 hnb hdr hcvb hcv
            go_wp2_with fail
            refine (writeByte_k w.heap.size w.heap.size (Lib.byteCells acc) _ _ hI (by rw [Lib.byteCells_length]; omega) (by omega)).mono ?_
            rintro e w3 ⟨rfl, h3, b3, k3⟩
            rw [byteCells_snoc acc _ _ (unhide HCVB)] at h3
            have hz3 := b3.size
            clear k3
            go_wp2
            go_step3
            refine ⟨rfl, FqJ.mk (k + 3) cnt _ rfl (by omega) (by omega) (by simp; omega) (hide ⟨by simpa using (unhide HF).1, (unhide HF).2⟩) (Or.inr h3) (hbw.trans b3) (by omega), ?_⟩
            simp [intOf]
            omega
          | false =>
            have hcd : ¬ coded r < 256 := by
              intro h
              have := unhide HCB
              simp only [codB, decide_eq_false_iff_not] at this
              exact this ⟨h61, h⟩
            rw [if_neg hcd] at hfin
            cases eb with
            | true =>
              have hle : lend r < 3 := by have := unhide HEB; simpa using this
              have hev : ev = lend r := by rw [← unhide HEV, lendV, if_pos hle]
              rw [if_pos hle, ← hev] at hfin
              have hll : lend r ≤ r.length := lend_le hle
              have hdr : s.data.toList.drop (k + (1 + ev)) = r.drop ev := by rw [show k + (1 + ev) = k + 1 + ev by omega, ← List.drop_drop, unhide HR]
              rw [← hdr] at hfin
              have HF := hide hfin
              have HEV2 := hide hev
              have hev3 : k + (1 + ev) ≤ s.size := by omega
              clear hfin HE2 hnb hdr hev hcd
              go_wp2
              go_step3
              refine ⟨rfl, FqJ.mk (k + (1 + ev)) cnt acc rfl hev3 (by omega) (by omega) HF hI hbw hz, ?_⟩
              simp [intOf]
              omega
            | false =>
              have hle : ¬ lend r < 3 := by have := unhide HEB; simpa using this
              rw [if_neg hle, ← unhide HR] at hfin
              have HF := hide hfin
              clear hfin HE2 hnb hcd hle
              go_wp2_with fail
              refine (writeByte_k w.heap.size w.heap.size (Lib.byteCells acc) _ _ hI (by rw [Lib.byteCells_length]; omega) (by omega)).mono ?_
              rintro e w3 ⟨rfl, h3, b3, k3⟩
              rw [byteCells_snoc acc s[k] 61 (by rw [h61]; rfl)] at h3
              have hz3 := b3.size
              clear k3
              go_wp2
              go_step3
              refine ⟨rfl, FqJ.mk (k + 1) (cnt + 1) _ rfl (by omega) (by omega) (by simp; omega) (hide ⟨by simpa using (unhide HF).1, by have := (unhide HF).2; omega⟩) (Or.inr h3) (hbw.trans b3) (by omega), ?_⟩
              simp [intOf]
              omega
        · have hbe6 : ((s[k].toNat : Int) == 61) = false := by simp; omega
          rw [if_neg h61, if_neg (by intro x; exact hnb x.1), ← unhide HR] at hfin
          have hcb : cb = false := by rw [← unhide HCB]; simp [codB, h61]
          subst hcb
          have HF := hide hfin
          clear hfin HE2 hnb
          go_wp2_with fail
          refine (writeByte_k w.heap.size w.heap.size (Lib.byteCells acc) _ _ hI (by rw [Lib.byteCells_length]; omega) (by omega)).mono ?_
          rintro e w3 ⟨rfl, h3, b3, k3⟩
          rw [byteCells_snoc acc s[k] _ rfl] at h3
          have hz3 := b3.size
          clear k3
          go_wp2
          go_step3
          refine ⟨rfl, FqJ.mk (k + 1) cnt _ rfl (by omega) (by omega) (by simp; omega) (hide ⟨by simpa using (unhide HF).1, (unhide HF).2⟩) (Or.inr h3) (hbw.trans b3) (by omega), ?_⟩
          simp [intOf]
          omega
end Go.Proofs.YtedpimhhbajljaaGreatDoor
