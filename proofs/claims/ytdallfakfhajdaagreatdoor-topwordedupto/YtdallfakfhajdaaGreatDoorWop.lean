/-
  What word.isPlain, writeQ and writeWord do, over this seat's program.
-/
import Derived.Test.YtdallfakfhajdaaGreatDoorWrb
import Derived.Test.YtdallfakfhajdaaGreatDoorWlt
import Derived.Test.YtdallfakfhajdaaGreatDoorCts
import Derived.Laws.BitsAllLaws
set_option linter.unusedVariables false
namespace Go.Proofs.YtdallfakfhajdaaGreatDoor
open Go.RowKit Go.Proofs.Enc

/-- A byte that a name and a text may have. -/
def plB (c : UInt8) : Bool := decide (33 ≤ c.toNat ∧ c.toNat ≤ 126)
/-- Whether all bytes of a text are so. -/
def plL (l : List UInt8) : Bool := l.all plB
theorem plL_cons (c : UInt8) (r : List UInt8) : plL (c :: r) = (plB c && plL r) := by simp [plL]
theorem retW_b {a b : Bool} (h : a = b) : Ending.returned (.bool a) = .returned (.bool b) := by rw [h]

set_option maxHeartbeats 1000000 in
theorem isPlain_any (s : ByteArray) (w : World) (hs : s.size ≤ 281474976710656) :
    Calls Tryz.prog 67 #[.string s] w fun e w' => e = .returned (.bool (plL s.data.toList)) ∧ w' = w := by
  go_enter Tryz.func67, Tryz.ntmps67
  go_wp2
  go_loop [6] (fun z => ∃ k : Nat, z = .int .i64 k ∧ k ≤ s.size ∧ Hid (plL s.data.toList = plL (s.data.toList.drop k))) (fun z => s.size - (intOf z).toNat)
  case atStart => exact ⟨0, rfl, Nat.zero_le _, hide rfl⟩
  case round =>
    obtain ⟨k, rfl, hk, HE⟩ := hrel
    by_cases hlt : k < s.size
    · have hlt' : (k : Int) < (s.size : Int) := by omega
      have hd := unhide HE
      rw [drop_byte s k hlt, plL_cons] at hd
      by_cases h1 : s[k].toNat < 33
      · have h1' : (s[k].toNat : Int) < 33 := by omega
        have HR : Hid (plL s.data.toList = false) := hide (by rw [hd, show plB s[k] = false by unfold plB; exact decide_eq_false (by omega)]; rfl)
        clear HE hd
        go_wp2
        go_ret
        exact ⟨retW_b (unhide HR).symm, rfl⟩
      · by_cases h2 : 126 < s[k].toNat
        · have h1' : ¬ (s[k].toNat : Int) < 33 := by omega
          have h2' : (126 : Int) < (s[k].toNat : Int) := by omega
          have HR : Hid (plL s.data.toList = false) := hide (by rw [hd, show plB s[k] = false by unfold plB; exact decide_eq_false (by omega)]; rfl)
          clear HE hd
          go_wp2
          go_ret
          exact ⟨retW_b (unhide HR).symm, rfl⟩
        · have h1' : ¬ (s[k].toNat : Int) < 33 := by omega
          have h2' : ¬ (126 : Int) < (s[k].toNat : Int) := by omega
          have HE2 : Hid (plL s.data.toList = plL (s.data.toList.drop (k + 1))) := hide (by rw [hd, show plB s[k] = true by unfold plB; exact decide_eq_true (by omega)]; rfl)
          clear HE hd
          go_wp2
          go_round
          case rel => exact ⟨k + 1, by go_num, by omega, HE2⟩
          case measure => simp [intOf]; omega
    · have hlt' : ¬ (k : Int) < (s.size : Int) := by omega
      have HR : Hid (plL s.data.toList = true) := hide (by rw [unhide HE, drop_end s (by omega)]; rfl)
      clear HE
      go_wp2
      go_ret
      exact ⟨retW_b (unhide HR).symm, rfl⟩

/-- A byte as a text of Q. -/
def alB (c : UInt8) : Bool := decide ((65 ≤ c.toNat ∧ c.toNat ≤ 90) ∨ (97 ≤ c.toNat ∧ c.toNat ≤ 122) ∨ (48 ≤ c.toNat ∧ c.toNat ≤ 57))
def qB (c : UInt8) : List UInt8 := if alB c then [c] else if c.toNat = 32 then [95] else [61, hx (c.toNat / 16), hx (c.toNat % 16)]
def qL (l : List UInt8) : List UInt8 := (l.map qB).flatten
theorem qL_take (s : ByteArray) (k : Nat) (h : k < s.size) : qL (s.data.toList.take (k + 1)) = qL (s.data.toList.take k) ++ qB s[k] := by
  rw [take_byte s k h]
  simp [qL]
theorem qB_len (c : UInt8) : (qB c).length ≤ 3 := by unfold qB; split; simp; split <;> simp
theorem qL_len (l : List UInt8) : (qL l).length ≤ 3 * l.length := by
  induction l with
  | nil => simp [qL]
  | cons c r ih =>
    have := qB_len c
    have e : qL (c :: r) = qB c ++ qL r := by simp [qL]
    rw [e, List.length_append, List.length_cons]
    omega
set_option maxRecDepth 100000 in
theorem hexQ_run (m : Nat) (hm : m < 16) (w : World) : (Instr.index 9 (.string ⟨#[48, 49, 50, 51, 52, 53, 54, 55, 56, 57, 65, 66, 67, 68, 69, 70]⟩) (.int .u8 (m : Int))).run Tryz.prog w = .ok (.int .u8 ((hx m).toNat : Int)) w := by
  rcases (by omega : m = 0 ∨ m = 1 ∨ m = 2 ∨ m = 3 ∨ m = 4 ∨ m = 5 ∨ m = 6 ∨ m = 7 ∨ m = 8 ∨ m = 9 ∨ m = 10 ∨ m = 11 ∨ m = 12 ∨ m = 13 ∨ m = 14 ∨ m = 15) with rfl | rfl | rfl | rfl | rfl | rfl | rfl | rfl | rfl | rfl | rfl | rfl | rfl | rfl | rfl | rfl <;> rfl

theorem and15 (m : Nat) (h : m < 256) : bits .and .u8 (m : Int) 15 = ((m % 16 : Nat) : Int) := by
  have h1 : ∀ n : Fin 256, bits .and .u8 (n.val : Int) 15 = ((n.val % 16 : Nat) : Int) := by decide +kernel
  exact h1 ⟨m, h⟩

set_option maxHeartbeats 2000000 in
set_option maxRecDepth 100000 in
theorem writeQ_any {u W : World} {l : List UInt8} (h : Wr u W l) (s : ByteArray) (hl : l.length + 3 * s.size ≤ 1099511627776) :
    Calls Tryz.prog 84 #[.pointer (some ⟨u.heap.size, 0, none⟩), .string s] W fun e w' => e = .returned (.tuple #[]) ∧ Wr u w' (l ++ qL s.data.toList) := by
  have HWr := hide h
  clear h
  go_enter Tryz.func84, Tryz.ntmps84
  go_wp2
  go_loopw [8] (fun z wr => ∃ k : Nat, z = .int .i64 k ∧ k ≤ s.size ∧ Hid (Wr u wr (l ++ qL (s.data.toList.take k)))) (fun z _ => s.size - (intOf z).toNat)
  case atStart => exact ⟨0, rfl, Nat.zero_le _, hide (by simpa [qL] using unhide HWr)⟩
  case round =>
    obtain ⟨k, rfl, hk, HW⟩ := hrel
    by_cases hlt : k < s.size
    · have hlt' : (k : Int) < (s.size : Int) := by omega
      have hc := s[k].toNat_lt
      have hlen : (l ++ qL (s.data.toList.take k)).length + 3 ≤ 1099511627776 := by
        have := qL_len (s.data.toList.take k)
        rw [List.length_append]
        rw [List.length_take, sizeL] at this
        omega
      have HQ := hide (qL_take s k hlt)
      have HLEN := hide hlen
      clear hlen
      by_cases a0 : s[k].toNat ≤ 31
      · skip
        have d1 : (0 : Int) ≤ (s[k].toNat : Int) := by omega
        have d2 : (s[k].toNat : Int) ≤ 31 := by omega
        have e1 : ((s[k].toNat : Int) == 32) = false := by rw [beq_eq_false_iff_ne]; omega
        have hq : qB s[k] = [61, hx (s[k].toNat / 16), hx (s[k].toNat % 16)] := by unfold qB; rw [if_neg (by unfold alB; rw [decide_eq_true_iff]; omega), if_neg (by omega)]
        have HN : Hid (l ++ qL (s.data.toList.take (k + 1)) = (((l ++ qL (s.data.toList.take k)) ++ [61]) ++ [hx (s[k].toNat / 16)]) ++ [hx (s[k].toNat % 16)]) := hide (by rw [unhide HQ, hq]; simp)
        obtain ⟨q, hq2⟩ : ∃ q, q = s[k].toNat / 16 := ⟨_, rfl⟩
        obtain ⟨r, hr2⟩ : ∃ r, r = s[k].toNat % 16 := ⟨_, rfl⟩
        rw [← hq2, ← hr2] at HN
        have f1 : (s[k].toNat : Int) / 16 = (q : Int) := by omega
        have f2 := and15 s[k].toNat hc
        rw [← hr2] at f2
        have g1 := hexQ_run q (by omega)
        have g2 := hexQ_run r (by omega)
        have HB := hide (wByte (unhide HW) 61 61 rfl (by have := unhide HLEN; omega))
        clear hq HQ HW hq2 hr2
        go_wp2_with fail
        refine (unhide HB).mono ?_
        rintro e w2 ⟨rfl, h2⟩
        have HB2 := hide (wByte h2 (hx q) ((hx q).toNat : Int) rfl (by have := unhide HLEN; rw [List.length_append, List.length_singleton]; omega))
        clear h2 HB
        go_wp2_with fail
        refine (unhide HB2).mono ?_
        rintro e w3 ⟨rfl, h2⟩
        have HB3 := hide (wByte h2 (hx r) ((hx r).toNat : Int) rfl (by have := unhide HLEN; rw [List.length_append, List.length_append, List.length_singleton, List.length_singleton]; omega))
        clear h2 HB2
        go_wp2_with fail
        refine (unhide HB3).mono ?_
        rintro e w4 ⟨rfl, h2⟩
        rw [← unhide HN] at h2
        have H2 := hide h2
        clear h2 HB3 HN HLEN
        go_wp2
        exact ⟨⟨k + 1, by go_num, by omega, H2⟩, by simp [intOf]; omega⟩
      by_cases a1 : s[k].toNat ≤ 32
      · skip
        have d1 : (32 : Int) ≤ (s[k].toNat : Int) := by omega
        have d2 : (s[k].toNat : Int) ≤ 32 := by omega
        have e1 : ((s[k].toNat : Int) == 32) = true := by rw [beq_iff_eq]; omega
        have hq : qB s[k] = [95] := by unfold qB; rw [if_neg (by unfold alB; rw [decide_eq_true_iff]; omega), if_pos (by omega)]
        have HN : Hid (l ++ qL (s.data.toList.take (k + 1)) = (l ++ qL (s.data.toList.take k)) ++ [95]) := hide (by rw [unhide HQ, hq, List.append_assoc])
        have HB := hide (wByte (unhide HW) 95 95 rfl (by have := unhide HLEN; omega))
        clear hq HQ HLEN HW
        go_wp2_with fail
        refine (unhide HB).mono ?_
        rintro e w2 ⟨rfl, h2⟩
        rw [← unhide HN] at h2
        have H2 := hide h2
        clear h2 HB HN
        go_wp2
        exact ⟨⟨k + 1, by go_num, by omega, H2⟩, by simp [intOf]; omega⟩
      by_cases a2 : s[k].toNat ≤ 47
      · skip
        have d1 : (33 : Int) ≤ (s[k].toNat : Int) := by omega
        have d2 : (s[k].toNat : Int) ≤ 47 := by omega
        have e1 : ((s[k].toNat : Int) == 32) = false := by rw [beq_eq_false_iff_ne]; omega
        have hq : qB s[k] = [61, hx (s[k].toNat / 16), hx (s[k].toNat % 16)] := by unfold qB; rw [if_neg (by unfold alB; rw [decide_eq_true_iff]; omega), if_neg (by omega)]
        have HN : Hid (l ++ qL (s.data.toList.take (k + 1)) = (((l ++ qL (s.data.toList.take k)) ++ [61]) ++ [hx (s[k].toNat / 16)]) ++ [hx (s[k].toNat % 16)]) := hide (by rw [unhide HQ, hq]; simp)
        obtain ⟨q, hq2⟩ : ∃ q, q = s[k].toNat / 16 := ⟨_, rfl⟩
        obtain ⟨r, hr2⟩ : ∃ r, r = s[k].toNat % 16 := ⟨_, rfl⟩
        rw [← hq2, ← hr2] at HN
        have f1 : (s[k].toNat : Int) / 16 = (q : Int) := by omega
        have f2 := and15 s[k].toNat hc
        rw [← hr2] at f2
        have g1 := hexQ_run q (by omega)
        have g2 := hexQ_run r (by omega)
        have HB := hide (wByte (unhide HW) 61 61 rfl (by have := unhide HLEN; omega))
        clear hq HQ HW hq2 hr2
        go_wp2_with fail
        refine (unhide HB).mono ?_
        rintro e w2 ⟨rfl, h2⟩
        have HB2 := hide (wByte h2 (hx q) ((hx q).toNat : Int) rfl (by have := unhide HLEN; rw [List.length_append, List.length_singleton]; omega))
        clear h2 HB
        go_wp2_with fail
        refine (unhide HB2).mono ?_
        rintro e w3 ⟨rfl, h2⟩
        have HB3 := hide (wByte h2 (hx r) ((hx r).toNat : Int) rfl (by have := unhide HLEN; rw [List.length_append, List.length_append, List.length_singleton, List.length_singleton]; omega))
        clear h2 HB2
        go_wp2_with fail
        refine (unhide HB3).mono ?_
        rintro e w4 ⟨rfl, h2⟩
        rw [← unhide HN] at h2
        have H2 := hide h2
        clear h2 HB3 HN HLEN
        go_wp2
        exact ⟨⟨k + 1, by go_num, by omega, H2⟩, by simp [intOf]; omega⟩
      by_cases a3 : s[k].toNat ≤ 57
      · skip
        have d1 : (48 : Int) ≤ (s[k].toNat : Int) := by omega
        have d2 : (s[k].toNat : Int) ≤ 57 := by omega
        have hq : qB s[k] = [s[k]] := by unfold qB; rw [if_pos (by unfold alB; exact decide_eq_true (by omega))]
        have HN : Hid (l ++ qL (s.data.toList.take (k + 1)) = (l ++ qL (s.data.toList.take k)) ++ [s[k]]) := hide (by rw [unhide HQ, hq, List.append_assoc])
        have HB := hide (wByte (unhide HW) s[k] (s[k].toNat : Int) rfl (by have := unhide HLEN; omega))
        clear hq HQ HLEN HW
        go_wp2_with fail
        refine (unhide HB).mono ?_
        rintro e w2 ⟨rfl, h2⟩
        rw [← unhide HN] at h2
        have H2 := hide h2
        clear h2 HB HN
        go_wp2
        exact ⟨⟨k + 1, by go_num, by omega, H2⟩, by simp [intOf]; omega⟩
      by_cases a4 : s[k].toNat ≤ 64
      · skip
        have d1 : (58 : Int) ≤ (s[k].toNat : Int) := by omega
        have d2 : (s[k].toNat : Int) ≤ 64 := by omega
        have e1 : ((s[k].toNat : Int) == 32) = false := by rw [beq_eq_false_iff_ne]; omega
        have hq : qB s[k] = [61, hx (s[k].toNat / 16), hx (s[k].toNat % 16)] := by unfold qB; rw [if_neg (by unfold alB; rw [decide_eq_true_iff]; omega), if_neg (by omega)]
        have HN : Hid (l ++ qL (s.data.toList.take (k + 1)) = (((l ++ qL (s.data.toList.take k)) ++ [61]) ++ [hx (s[k].toNat / 16)]) ++ [hx (s[k].toNat % 16)]) := hide (by rw [unhide HQ, hq]; simp)
        obtain ⟨q, hq2⟩ : ∃ q, q = s[k].toNat / 16 := ⟨_, rfl⟩
        obtain ⟨r, hr2⟩ : ∃ r, r = s[k].toNat % 16 := ⟨_, rfl⟩
        rw [← hq2, ← hr2] at HN
        have f1 : (s[k].toNat : Int) / 16 = (q : Int) := by omega
        have f2 := and15 s[k].toNat hc
        rw [← hr2] at f2
        have g1 := hexQ_run q (by omega)
        have g2 := hexQ_run r (by omega)
        have HB := hide (wByte (unhide HW) 61 61 rfl (by have := unhide HLEN; omega))
        clear hq HQ HW hq2 hr2
        go_wp2_with fail
        refine (unhide HB).mono ?_
        rintro e w2 ⟨rfl, h2⟩
        have HB2 := hide (wByte h2 (hx q) ((hx q).toNat : Int) rfl (by have := unhide HLEN; rw [List.length_append, List.length_singleton]; omega))
        clear h2 HB
        go_wp2_with fail
        refine (unhide HB2).mono ?_
        rintro e w3 ⟨rfl, h2⟩
        have HB3 := hide (wByte h2 (hx r) ((hx r).toNat : Int) rfl (by have := unhide HLEN; rw [List.length_append, List.length_append, List.length_singleton, List.length_singleton]; omega))
        clear h2 HB2
        go_wp2_with fail
        refine (unhide HB3).mono ?_
        rintro e w4 ⟨rfl, h2⟩
        rw [← unhide HN] at h2
        have H2 := hide h2
        clear h2 HB3 HN HLEN
        go_wp2
        exact ⟨⟨k + 1, by go_num, by omega, H2⟩, by simp [intOf]; omega⟩
      by_cases a5 : s[k].toNat ≤ 90
      · skip
        have d1 : (65 : Int) ≤ (s[k].toNat : Int) := by omega
        have d2 : (s[k].toNat : Int) ≤ 90 := by omega
        have hq : qB s[k] = [s[k]] := by unfold qB; rw [if_pos (by unfold alB; exact decide_eq_true (by omega))]
        have HN : Hid (l ++ qL (s.data.toList.take (k + 1)) = (l ++ qL (s.data.toList.take k)) ++ [s[k]]) := hide (by rw [unhide HQ, hq, List.append_assoc])
        have HB := hide (wByte (unhide HW) s[k] (s[k].toNat : Int) rfl (by have := unhide HLEN; omega))
        clear hq HQ HLEN HW
        go_wp2_with fail
        refine (unhide HB).mono ?_
        rintro e w2 ⟨rfl, h2⟩
        rw [← unhide HN] at h2
        have H2 := hide h2
        clear h2 HB HN
        go_wp2
        exact ⟨⟨k + 1, by go_num, by omega, H2⟩, by simp [intOf]; omega⟩
      by_cases a6 : s[k].toNat ≤ 96
      · skip
        have d1 : (91 : Int) ≤ (s[k].toNat : Int) := by omega
        have d2 : (s[k].toNat : Int) ≤ 96 := by omega
        have e1 : ((s[k].toNat : Int) == 32) = false := by rw [beq_eq_false_iff_ne]; omega
        have hq : qB s[k] = [61, hx (s[k].toNat / 16), hx (s[k].toNat % 16)] := by unfold qB; rw [if_neg (by unfold alB; rw [decide_eq_true_iff]; omega), if_neg (by omega)]
        have HN : Hid (l ++ qL (s.data.toList.take (k + 1)) = (((l ++ qL (s.data.toList.take k)) ++ [61]) ++ [hx (s[k].toNat / 16)]) ++ [hx (s[k].toNat % 16)]) := hide (by rw [unhide HQ, hq]; simp)
        obtain ⟨q, hq2⟩ : ∃ q, q = s[k].toNat / 16 := ⟨_, rfl⟩
        obtain ⟨r, hr2⟩ : ∃ r, r = s[k].toNat % 16 := ⟨_, rfl⟩
        rw [← hq2, ← hr2] at HN
        have f1 : (s[k].toNat : Int) / 16 = (q : Int) := by omega
        have f2 := and15 s[k].toNat hc
        rw [← hr2] at f2
        have g1 := hexQ_run q (by omega)
        have g2 := hexQ_run r (by omega)
        have HB := hide (wByte (unhide HW) 61 61 rfl (by have := unhide HLEN; omega))
        clear hq HQ HW hq2 hr2
        go_wp2_with fail
        refine (unhide HB).mono ?_
        rintro e w2 ⟨rfl, h2⟩
        have HB2 := hide (wByte h2 (hx q) ((hx q).toNat : Int) rfl (by have := unhide HLEN; rw [List.length_append, List.length_singleton]; omega))
        clear h2 HB
        go_wp2_with fail
        refine (unhide HB2).mono ?_
        rintro e w3 ⟨rfl, h2⟩
        have HB3 := hide (wByte h2 (hx r) ((hx r).toNat : Int) rfl (by have := unhide HLEN; rw [List.length_append, List.length_append, List.length_singleton, List.length_singleton]; omega))
        clear h2 HB2
        go_wp2_with fail
        refine (unhide HB3).mono ?_
        rintro e w4 ⟨rfl, h2⟩
        rw [← unhide HN] at h2
        have H2 := hide h2
        clear h2 HB3 HN HLEN
        go_wp2
        exact ⟨⟨k + 1, by go_num, by omega, H2⟩, by simp [intOf]; omega⟩
      by_cases a7 : s[k].toNat ≤ 122
      · skip
        have d1 : (97 : Int) ≤ (s[k].toNat : Int) := by omega
        have d2 : (s[k].toNat : Int) ≤ 122 := by omega
        have hq : qB s[k] = [s[k]] := by unfold qB; rw [if_pos (by unfold alB; exact decide_eq_true (by omega))]
        have HN : Hid (l ++ qL (s.data.toList.take (k + 1)) = (l ++ qL (s.data.toList.take k)) ++ [s[k]]) := hide (by rw [unhide HQ, hq, List.append_assoc])
        have HB := hide (wByte (unhide HW) s[k] (s[k].toNat : Int) rfl (by have := unhide HLEN; omega))
        clear hq HQ HLEN HW
        go_wp2_with fail
        refine (unhide HB).mono ?_
        rintro e w2 ⟨rfl, h2⟩
        rw [← unhide HN] at h2
        have H2 := hide h2
        clear h2 HB HN
        go_wp2
        exact ⟨⟨k + 1, by go_num, by omega, H2⟩, by simp [intOf]; omega⟩
      have d1 : (123 : Int) ≤ (s[k].toNat : Int) := by omega
      have d2 : (s[k].toNat : Int) ≤ 255 := by omega
      have e1 : ((s[k].toNat : Int) == 32) = false := by rw [beq_eq_false_iff_ne]; omega
      have hq : qB s[k] = [61, hx (s[k].toNat / 16), hx (s[k].toNat % 16)] := by unfold qB; rw [if_neg (by unfold alB; rw [decide_eq_true_iff]; omega), if_neg (by omega)]
      have HN : Hid (l ++ qL (s.data.toList.take (k + 1)) = (((l ++ qL (s.data.toList.take k)) ++ [61]) ++ [hx (s[k].toNat / 16)]) ++ [hx (s[k].toNat % 16)]) := hide (by rw [unhide HQ, hq]; simp)
      obtain ⟨q, hq2⟩ : ∃ q, q = s[k].toNat / 16 := ⟨_, rfl⟩
      obtain ⟨r, hr2⟩ : ∃ r, r = s[k].toNat % 16 := ⟨_, rfl⟩
      rw [← hq2, ← hr2] at HN
      have f1 : (s[k].toNat : Int) / 16 = (q : Int) := by omega
      have f2 := and15 s[k].toNat hc
      rw [← hr2] at f2
      have g1 := hexQ_run q (by omega)
      have g2 := hexQ_run r (by omega)
      have HB := hide (wByte (unhide HW) 61 61 rfl (by have := unhide HLEN; omega))
      clear hq HQ HW hq2 hr2
      go_wp2_with fail
      refine (unhide HB).mono ?_
      rintro e w2 ⟨rfl, h2⟩
      have HB2 := hide (wByte h2 (hx q) ((hx q).toNat : Int) rfl (by have := unhide HLEN; rw [List.length_append, List.length_singleton]; omega))
      clear h2 HB
      go_wp2_with fail
      refine (unhide HB2).mono ?_
      rintro e w3 ⟨rfl, h2⟩
      have HB3 := hide (wByte h2 (hx r) ((hx r).toNat : Int) rfl (by have := unhide HLEN; rw [List.length_append, List.length_append, List.length_singleton, List.length_singleton]; omega))
      clear h2 HB2
      go_wp2_with fail
      refine (unhide HB3).mono ?_
      rintro e w4 ⟨rfl, h2⟩
      rw [← unhide HN] at h2
      have H2 := hide h2
      clear h2 HB3 HN HLEN
      go_wp2
      exact ⟨⟨k + 1, by go_num, by omega, H2⟩, by simp [intOf]; omega⟩
    · have hlt' : ¬ (k : Int) < (s.size : Int) := by omega
      have HE := unhide HW
      rw [List.take_of_length_le (by rw [sizeL]; omega)] at HE
      have HR := hide HE
      clear HE HW
      go_wp2
      go_end0
      exact ⟨rfl, unhide HR⟩
end Go.Proofs.YtdallfakfhajdaaGreatDoor
