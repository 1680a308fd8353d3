/-
  What enc.countBlanks, digit, codedByte and lineEnd do, over this seat's program: they tell what bytes begin with, and the world stands.
-/
import Derived.Test.YtedpimhhbajljaaDoorQuo
set_option linter.unusedVariables false
namespace Go.Proofs.YtedpimhhbajljaaDoor
open Go.RowKit Go.Proofs.Enc

/-- Blanks up to k, and what is behind. -/
theorem blanks_from (l : List UInt8) : ∀ k, k ≤ l.length → (∀ j (h : j < l.length), j < k → l[j].toNat = 32 ∨ l[j].toNat = 9) → blanks l = k + blanks (l.drop k) := by
  induction l with
  | nil => intro k hk _; simp at hk; subst hk; simp
  | cons c r ih =>
    intro k hk hall
    cases k with
    | zero => simp
    | succ k =>
      have h0 := hall 0 (by simp) (by omega)
      simp only [List.getElem_cons_zero] at h0
      rw [blanks, if_pos h0, ih k (by simpa using hk) (fun j hj hjk => by have := hall (j + 1) (by simpa using hj) (by omega); simpa using this)]
      simp only [List.drop_succ_cons]
      omega

set_option maxHeartbeats 1000000 in
set_option maxRecDepth 100000 in
theorem countBlanks_any (s : ByteArray) (w : World) (hs : s.size ≤ 1099511627776) :
    Calls Tryd.prog 58 #[.string s] w fun e w' => e = .returned (.int .i64 (blanks s.data.toList)) ∧ w' = w := by
  have hsl := sizeL s
  go_enter Tryd.func58, Tryd.ntmps58
  go_wp2
  go_loop [3] (fun z => ∃ k : Nat, z = .int .i64 k ∧ k ≤ s.size ∧ Hid (blanks s.data.toList = k + blanks (s.data.toList.drop k))) (fun z => s.size - (intOf z).toNat)
  case atStart => exact ⟨0, rfl, by omega, hide (by simp)⟩
  case round =>
    obtain ⟨k, rfl, hk, HB⟩ := hrel
    by_cases hlt : k < s.size
    · have hd := drop_byte s k hlt
      have hc := s[k].toNat_lt
      by_cases h32 : s[k].toNat = 32
      · have hb : ((s[k].toNat : Int) == 32) = true := by simp [h32]
        have hfin : blanks s.data.toList = k + 1 + blanks (s.data.toList.drop (k + 1)) := by
          have := unhide HB
          rw [hd, blanks, if_pos (Or.inl h32)] at this
          omega
        have HF := hide hfin
        clear hfin HB hd h32
        go_wp2
        exact ⟨⟨k + 1, by go_num, by omega, HF⟩, by simp [intOf]; omega⟩
      · have hb : ((s[k].toNat : Int) == 32) = false := by simp; omega
        by_cases h9 : s[k].toNat = 9
        · have hb9 : ((s[k].toNat : Int) == 9) = true := by simp [h9]
          have hfin : blanks s.data.toList = k + 1 + blanks (s.data.toList.drop (k + 1)) := by
            have := unhide HB
            rw [hd, blanks, if_pos (Or.inr h9)] at this
            omega
          have HF := hide hfin
          clear hfin HB hd h32 h9
          go_wp2
          exact ⟨⟨k + 1, by go_num, by omega, HF⟩, by simp [intOf]; omega⟩
        · have hb9 : ((s[k].toNat : Int) == 9) = false := by simp; omega
          have hfin : blanks s.data.toList = k := by
            have := unhide HB
            rw [hd, blanks, if_neg (by omega)] at this
            omega
          have HF := hide hfin
          clear hfin HB hd h32 h9
          go_wp2
          go_ret
          exact ⟨by rw [unhide HF]; rfl, rfl⟩
    · have hfin : blanks s.data.toList = k := by
        have := unhide HB
        rw [drop_end s (by omega), blanks] at this
        omega
      have HF := hide hfin
      clear hfin HB
      go_wp2
      go_ret
      exact ⟨by rw [unhide HF]; rfl, rfl⟩

/-- A digit's number; 0, if it is none. -/
def digV (c : UInt8) : Nat := if dig c < 16 then dig c else 0
theorem digV_lt (c : UInt8) : digV c < 16 := by unfold digV; split <;> omega

set_option maxHeartbeats 1000000 in
set_option maxRecDepth 100000 in
theorem digit_any (c : UInt8) (w : World) :
    Calls Tryd.prog 81 #[.int .u8 c.toNat] w fun e w' => e = .returned (.tuple #[.int .u8 (digV c), .bool (decide (dig c < 16))]) ∧ w' = w := by
  have hc := c.toNat_lt
  have two : ∀ (v : Int) (b : Bool), v = digV c → b = decide (dig c < 16) → Ending.returned (.tuple #[.int .u8 v, .bool b]) = .returned (.tuple #[.int .u8 (digV c), .bool (decide (dig c < 16))]) := by
    intro v b h1 h2; rw [h1, h2]
  have HT := hide two
  clear two
  by_cases h1 : 48 ≤ c.toNat ∧ c.toNat ≤ 57
  · have hd : dig c = c.toNat - 48 := by unfold dig; rw [if_pos h1]
    have HD := hide hd
    obtain ⟨h1, h2⟩ := h1
    clear hd
    go_enter Tryd.func81, Tryd.ntmps81
    go_wp2
    go_ret2
    exact ⟨unhide HT _ _ (by unfold digV; rw [unhide HD, if_pos (by omega)]; first | omega | (simp; omega) | (show (_ : Int) = _; omega)) (by rw [unhide HD]; simp; omega), rfl⟩
  · by_cases h2 : 65 ≤ c.toNat ∧ c.toNat ≤ 70
    · have hd : dig c = c.toNat - 55 := by unfold dig; rw [if_neg h1, if_pos h2]
      have HD := hide hd
      obtain ⟨h2, h3⟩ := h2
      have h57 : ¬ c.toNat ≤ 57 := by omega
      have h48 : 48 ≤ c.toNat := by omega
      clear hd h1
      go_enter Tryd.func81, Tryd.ntmps81
      go_wp2
      go_ret2
      exact ⟨unhide HT _ _ (by unfold digV; rw [unhide HD, if_pos (by omega)]; first | omega | (simp; omega) | (show (_ : Int) = _; omega)) (by rw [unhide HD]; simp; omega), rfl⟩
    · by_cases h3 : 97 ≤ c.toNat ∧ c.toNat ≤ 102
      · have hd : dig c = c.toNat - 87 := by unfold dig; rw [if_neg h1, if_neg h2, if_pos h3]
        have HD := hide hd
        obtain ⟨h3, h4⟩ := h3
        have h57 : ¬ c.toNat ≤ 57 := by omega
        have h48 : 48 ≤ c.toNat := by omega
        have h65 : 65 ≤ c.toNat := by omega
        have h70 : ¬ c.toNat ≤ 70 := by omega
        clear hd h1 h2
        go_enter Tryd.func81, Tryd.ntmps81
        go_wp2
        go_ret2
        exact ⟨unhide HT _ _ (by unfold digV; rw [unhide HD, if_pos (by omega)]; first | omega | (simp; omega) | (show (_ : Int) = _; omega)) (by rw [unhide HD]; simp; omega), rfl⟩
      · have hd : dig c = 16 := by unfold dig; rw [if_neg h1, if_neg h2, if_neg h3]
        have HD := hide hd
        clear hd
        go_enter Tryd.func81, Tryd.ntmps81
        by_cases g1 : 48 ≤ c.toNat <;> by_cases g2 : 65 ≤ c.toNat <;> by_cases g3 : 97 ≤ c.toNat <;> (try (exfalso; omega)) <;>
          (try have g4 : ¬ c.toNat ≤ 57 := by omega) <;> (try have g5 : ¬ c.toNat ≤ 70 := by omega) <;> (try have g6 : ¬ c.toNat ≤ 102 := by omega) <;> clear h1 h2 h3 <;> go_wp2 <;> go_ret2 <;>
          exact ⟨unhide HT _ _ (by unfold digV; rw [unhide HD, if_neg (by omega)]; rfl) (by rw [unhide HD]; simp), rfl⟩

/-- The byte that codedByte tells. -/
def codV : List UInt8 → Nat
  | c :: a :: b :: _ => if c.toNat = 61 then digV a * 16 + digV b else 0
  | _ => 0
/-- Whether bytes begin with a coded one. -/
def codB : List UInt8 → Bool
  | c :: r => decide (c.toNat = 61 ∧ coded r < 256)
  | [] => false
theorem codV_of {c : UInt8} {r : List UInt8} (h : codB (c :: r) = true) : codV (c :: r) = coded r := by
  simp only [codB, decide_eq_true_eq] at h
  match r, h with
  | [], h => simp [coded] at h
  | [_], h => simp [coded] at h
  | a :: b :: _, h =>
    have h2 := h.2
    simp only [coded] at h2 ⊢
    by_cases hd : dig a < 16 ∧ dig b < 16
    · simp only [codV, digV]
      rw [if_pos h.1, if_pos hd.1, if_pos hd.2, if_pos hd]
    · rw [if_neg hd] at h2; omega
theorem codV_lt (l : List UInt8) : codV l < 256 := by
  unfold codV
  split
  · rename_i a b _
    have := digV_lt a
    have := digV_lt b
    split <;> omega
  · omega

theorem or16 (x y : Nat) (hx : x < 16) (hy : y < 16) : bits .or .u8 ((x : Int) * 16) (y : Int) = ((x * 16 + y : Nat) : Int) := by
  rw [show ((x : Int) * 16) = ((x * 16 : Nat) : Int) by omega]
  refine (u8_or_nat _ _ (by omega) (by omega)).trans ?_
  rw [nat_join 4 (x * 16) y (by omega) (by omega)]

set_option maxHeartbeats 1000000 in
set_option maxRecDepth 100000 in
theorem codedByte_any (s : ByteArray) (w : World) (hs : s.size ≤ 1099511627776) :
    Calls Tryd.prog 59 #[.string s] w fun e w' => e = .returned (.tuple #[.int .u8 (codV s.data.toList), .bool (codB s.data.toList)]) ∧ w' = w := by
  have hsl := sizeL s
  by_cases h3 : s.size < 3
  · have hfin : codV s.data.toList = 0 ∧ codB s.data.toList = false := by
      match hl : s.data.toList with
      | [] => exact ⟨rfl, rfl⟩
      | [_] => exact ⟨rfl, by simp [codB, coded]⟩
      | [_, _] => exact ⟨rfl, by simp [codB, coded]⟩
      | _ :: _ :: _ :: _ => rw [hl] at hsl; simp at hsl; omega
    have HF := hide hfin
    clear hfin hsl
    go_enter Tryd.func59, Tryd.ntmps59
    go_wp2
    go_ret2
    exact ⟨by rw [(unhide HF).1, (unhide HF).2]; rfl, rfl⟩
  · have hd3 : decide ((s.size : Int) < 3) = false := by simp; omega
    have hl : s.data.toList = s[0] :: s[1] :: s[2] :: s.data.toList.drop 3 := by
      have h0 := drop_byte s 0 (by omega)
      have h1 := drop_byte s 1 (by omega)
      have h2 := drop_byte s 2 (by omega)
      rw [h1, h2] at h0
      exact h0
    by_cases h61 : s[0].toNat = 61
    · have hb : ((s[0].toNat : Int) != 61) = false := by simp [h61]
      have hfin : codV s.data.toList = digV s[1] * 16 + digV s[2] ∧ codB s.data.toList = (decide (dig s[1] < 16) && decide (dig s[2] < 16)) := by
        rw [hl]
        refine ⟨by simp [codV, h61], ?_⟩
        simp only [codB, coded, h61, true_and]
        have := dig_le s[1]
        have := dig_le s[2]
        by_cases hd : dig s[1] < 16 ∧ dig s[2] < 16
        · rw [if_pos hd]; simp [hd.1, hd.2]; omega
        · rw [if_neg hd]
          by_cases h1 : dig s[1] < 16
          · have : ¬ dig s[2] < 16 := fun x => hd ⟨h1, x⟩
            simp [h1, this]
          · simp [h1]
      have HF := hide hfin
      have hor := or16 (digV s[1]) (digV s[2]) (digV_lt _) (digV_lt _)
      have hd1 := digV_lt s[1]
      have hd2 := digV_lt s[2]
      clear hfin hl h61
      go_enter Tryd.func59, Tryd.ntmps59
      go_wp2_with fail
      refine (digit_any s[1] w).mono ?_
      rintro e w1 ⟨rfl, rfl⟩
      go_wp2_with fail
      refine (digit_any s[2] w1).mono ?_
      rintro e w2 ⟨rfl, rfl⟩
      generalize digV s[1] = x at HF hor hd1
      generalize digV s[2] = y at HF hor hd2
      generalize decide (dig s[1] < 16) = p at HF
      generalize decide (dig s[2] < 16) = q at HF
      have HO := hide hor
      cases p <;> go_wp2 <;> go_ret2 <;> exact ⟨by rw [(unhide HF).1, (unhide HF).2]; first | rfl | (rw [← unhide HO]; rfl), rfl⟩
    · have hb : ((s[0].toNat : Int) != 61) = true := by simp; omega
      have hfin : codV s.data.toList = 0 ∧ codB s.data.toList = false := by
        rw [hl]
        exact ⟨by simp [codV, h61], by simp [codB, h61]⟩
      have HF := hide hfin
      clear hfin hl h61
      go_enter Tryd.func59, Tryd.ntmps59
      go_wp2
      go_ret2
      exact ⟨by rw [(unhide HF).1, (unhide HF).2]; rfl, rfl⟩

/-- Whether bytes begin with a carriage return and a line feed. -/
def crlf : List UInt8 → Bool
  | c :: d :: _ => decide (c.toNat = 13 ∧ d.toNat = 10)
  | _ => false

set_option maxHeartbeats 1000000 in
set_option maxRecDepth 100000 in
theorem hasCrlf_any (s : ByteArray) (w : World) (hs : s.size ≤ 1099511627776) :
    Calls Tryd.prog 61 #[.string s, .string ⟨#[13, 10]⟩] w fun e w' => e = .returned (.bool (crlf s.data.toList)) ∧ w' = w := by
  have hsl := sizeL s
  by_cases h2 : 2 ≤ s.size
  · have hl : s.data.toList = s[0] :: s[1] :: s.data.toList.drop 2 := by
      have h0 := drop_byte s 0 (by omega)
      have h1 := drop_byte s 1 (by omega)
      rw [h1] at h0
      exact h0
    have hfin : crlf s.data.toList = ((s.extract 0 2).toList == [13, 10]) := by
      rw [show ([13, 10] : List UInt8) = (ByteArray.mk #[13, 10]).toList by rw [ByteArray.toList_eq], beqS, hl]
      simp only [crlf]
      have e : (s.extract 0 2).data.toList = [s[0], s[1]] := by rw [toList_upto, hl]; rfl
      by_cases h : s[0].toNat = 13 ∧ s[1].toNat = 10
      · rw [decide_eq_true h, decide_eq_true]
        refine ext_list (e.trans ?_)
        rw [show s[0] = 13 from UInt8.toNat_inj.1 h.1, show s[1] = 10 from UInt8.toNat_inj.1 h.2]
      · rw [decide_eq_false h, decide_eq_false]
        intro he
        rw [he] at e
        simp at e
        exact h ⟨by rw [← e.1]; rfl, by rw [← e.2]; rfl⟩
    have HF := hide hfin
    have hsl := slice_upto s 2 2 rfl h2
    clear hfin hl
    generalize s.extract 0 2 = t at HF hsl
    go_enter Tryd.func61, Tryd.ntmps61
    go_wp2
    go_ret
    exact ⟨by rw [unhide HF]; rfl, rfl⟩
  · have hfin : crlf s.data.toList = false := by
      match hl : s.data.toList with
      | [] => rfl
      | [_] => rfl
      | _ :: _ :: _ => rw [hl] at hsl; simp at hsl; omega
    have HF := hide hfin
    clear hfin hsl
    go_enter Tryd.func61, Tryd.ntmps61
    go_wp2
    go_ret
    exact ⟨by rw [unhide HF]; rfl, rfl⟩

set_option maxHeartbeats 400000 in
theorem hasPrefix_any (s : ByteArray) (w : World) (hs : s.size ≤ 1099511627776) :
    Calls Tryd.prog 33 #[.string s, .string ⟨#[13, 10]⟩] w fun e w' => e = .returned (.bool (crlf s.data.toList)) ∧ w' = w := by
  go_enter Tryd.func33, Tryd.ntmps33
  go_wp2_with (go_at_call 61; refine (hasCrlf_any s _ hs).mono ?_)
  rintro e w1 ⟨rfl, rfl⟩
  go_wp2
  go_ret
  exact ⟨rfl, rfl⟩

/-- How many bytes the end of a line has; 0, if there is none. -/
def lendV (l : List UInt8) : Nat := if lend l < 3 then lend l else 0

set_option maxHeartbeats 1000000 in
set_option maxRecDepth 100000 in
theorem lineEnd_any (s : ByteArray) (w : World) (hs : s.size ≤ 1099511627776) :
    Calls Tryd.prog 60 #[.string s] w fun e w' => e = .returned (.tuple #[.int .i64 (lendV s.data.toList), .bool (decide (lend s.data.toList < 3))]) ∧ w' = w := by
  have hsl := sizeL s
  by_cases h0 : s.size = 0
  · have he : s = ⟨#[]⟩ := ext_list (List.eq_nil_of_length_eq_zero (by omega))
    subst he
    clear hsl h0 hs
    go_enter Tryd.func60, Tryd.ntmps60
    go_wp2
    go_ret2
    exact ⟨rfl, rfl⟩
  · have hpos : 0 < s.size := by omega
    have hl : s.data.toList = s[0] :: s.data.toList.drop 1 := drop_byte s 0 hpos
    have hq : (s.toList == []) = false := by
      rw [ByteArray.toList_eq, hl]; rfl
    have hc := s[0].toNat_lt
    by_cases h10 : s[0].toNat = 10
    · have hb : ((s[0].toNat : Int) == 10) = true := by simp [h10]
      have hfin : lend s.data.toList = 1 := by
        rw [hl]
        cases s.data.toList.drop 1 <;> simp [lend, h10]
      have HF := hide hfin
      clear hfin hl h10 hsl
      go_enter Tryd.func60, Tryd.ntmps60
      go_wp2
      go_ret2
      exact ⟨by unfold lendV; rw [unhide HF]; rfl, rfl⟩
    · have hb : ((s[0].toNat : Int) == 10) = false := by simp; omega
      have hfin : lend s.data.toList = if crlf s.data.toList then 2 else 3 := by
        rw [hl]
        cases s.data.toList.drop 1 with
        | nil => simp [lend, crlf, h10]
        | cons d r => simp [lend, crlf, h10]
      have HF := hide hfin
      clear hfin hl h10 hsl
      go_enter Tryd.func60, Tryd.ntmps60
      go_wp2_with fail
      refine (hasPrefix_any s w hs).mono ?_
      rintro e w1 ⟨rfl, rfl⟩
      by_cases hcr : crlf s.data.toList = true
      · rw [if_pos hcr] at HF
        go_wp2
        go_ret2
        exact ⟨by unfold lendV; rw [unhide HF]; rfl, rfl⟩
      · rw [if_neg hcr] at HF
        have hcr' : crlf s.data.toList = false := by simpa using hcr
        clear hcr
        go_wp2
        go_ret2
        exact ⟨by unfold lendV; rw [unhide HF]; rfl, rfl⟩
end Go.Proofs.YtedpimhhbajljaaDoor
