/-
  What strconv.ParseUint does with two bytes at base 16, over this seat's program.
-/
import Derived.Test.YtdallfakfhajdaaGreatDoorWop
import Derived.Shelf.Pu.ParseUintPublic10
import Derived.Deep.QuietTactic
import Derived.BigQuiet
import Derived.WalkSmall
import Derived.Test.YtdallfakfhajdaaGreatDoorRnm
import Derived.Laws.IdiomStrings
import Derived.Deep.Cut
set_option linter.unusedVariables false
namespace Go.Proofs.YtdallfakfhajdaaGreatDoor
open Go.RowKit Go.Proofs.Enc

/-- A small letter's number, by its bits. -/
def lwN (n : Nat) : Nat := n ||| 32
theorem lw_bits (n : Nat) (h : n < 256) : bits .or .u8 (n : Int) 32 = (lwN n : Int) := by
  have h1 : ∀ n : Fin 256, bits .or .u8 (n.val : Int) 32 = (lwN n.val : Int) := by decide +kernel
  exact h1 ⟨n, h⟩
theorem dig_cases (c : UInt8) : (48 ≤ c.toNat ∧ c.toNat ≤ 57 ∧ dig c = c.toNat - 48) ∨ (¬ (48 ≤ c.toNat ∧ c.toNat ≤ 57) ∧ 97 ≤ lwN c.toNat ∧ lwN c.toNat ≤ 102 ∧ dig c = lwN c.toNat - 87) ∨
    (¬ (48 ≤ c.toNat ∧ c.toNat ≤ 57) ∧ 103 ≤ lwN c.toNat ∧ lwN c.toNat ≤ 122 ∧ dig c = 16) ∨ (¬ (48 ≤ c.toNat ∧ c.toNat ≤ 57) ∧ (lwN c.toNat < 97 ∨ 122 < lwN c.toNat) ∧ dig c = 16) := by
  have h1 : ∀ n : Fin 256, (48 ≤ n.val ∧ n.val ≤ 57 ∧ dig (UInt8.ofNat n.val) = n.val - 48) ∨ (¬ (48 ≤ n.val ∧ n.val ≤ 57) ∧ 97 ≤ lwN n.val ∧ lwN n.val ≤ 102 ∧ dig (UInt8.ofNat n.val) = lwN n.val - 87) ∨
    (¬ (48 ≤ n.val ∧ n.val ≤ 57) ∧ 103 ≤ lwN n.val ∧ lwN n.val ≤ 122 ∧ dig (UInt8.ofNat n.val) = 16) ∨ (¬ (48 ≤ n.val ∧ n.val ≤ 57) ∧ (lwN n.val < 97 ∨ 122 < lwN n.val) ∧ dig (UInt8.ofNat n.val) = 16) := by decide +kernel
  have := h1 ⟨c.toNat, c.toNat_lt⟩
  simpa using this
theorem lwN_lt (n : Nat) (h : n < 256) : lwN n < 256 := by
  have h1 : ∀ n : Fin 256, lwN n.val < 256 := by decide +kernel
  exact h1 ⟨n, h⟩

set_option maxHeartbeats 1000000 in
theorem lower_any (n : Nat) (w : World) (h : n < 256) : Calls Tryz.prog 157 #[.int .u8 (n : Int)] w fun e w' => e = .returned (.int .u8 (lwN n : Int)) ∧ w' = w := by
  have hb := lw_bits n h
  go_enter Tryz.func157, Tryz.ntmps157
  go_wp2
  go_ret
  exact ⟨by first | rfl | rw [hb] | simp, rfl⟩

/-- What two hexadecimal digits are, gathered from one place on. -/
def hexA (acc : Nat) : List UInt8 → Option Nat
  | [] => some acc
  | c :: r => if dig c < 16 then hexA (acc * 16 + dig c) r else none
def hexE (o : Option Nat) : Value := match o with
  | some n => .tuple #[.int .u64 (n : Int), .nilIface]
  | none => .tuple #[.int .u64 0, .iface 168 (.int .i64 2)]

set_option maxHeartbeats 4000000 in
set_option maxRecDepth 100000 in
theorem puIn_any (t : ByteArray) (w : World) (h2 : t.size = 2) :
    Calls Tryz.prog 153 #[.string t, .int .i64 16, .int .i64 8] w fun e w' => e = .returned (hexE (hexA 0 t.data.toList)) ∧ Below w.heap.size w w' := by
  have hemp : t.toList.isEmpty = false := by rw [empty_size]; exact decide_eq_false (by omega)
  have hcv := Lib.run_convert_string_bytes (P := Tryz.prog) w 9 36 5 t Tryz.underlying9 Tryz.underlying36 Tryz.underlying5
  have hB : ∀ j, j < t.size → (Lib.bytesWorld w 5 t).cell? ⟨w.heap.size, j, none⟩ = some (.int .u8 (t.data.toList.getD j 0).toNat) := fun j hj => Lib.bytesWorld_cell w 5 t j hj
  have hbel := Lib.bytesWorld_below w 5 t
  obtain ⟨W1, hW1⟩ : ∃ W1, W1 = Lib.bytesWorld w 5 t := ⟨_, rfl⟩
  rw [← hW1] at hcv hB hbel
  have HBEL := hide hbel
  have HBC := hide hB
  have hmv : IntKind.u64.wrap (IntKind.u64.wrap 256 - 1) = 255 := by rw [IntKind.wrap_u64, IntKind.wrap_u64]; decide
  clear hW1 hbel hB
  generalize grownCap w t.size 0 5 = cap at hcv
  go_enter Tryz.func153, Tryz.ntmps153
  go_wp2
  go_loop [12, 13, 101] (fun vu vn vi => ∃ (k acc : Nat) (a : Int), vu = .bool false ∧ vn = .int .u64 a ∧ vi = .int .i64 k ∧ k ≤ 2 ∧ 0 ≤ a ∧ a ≤ 255 ∧ Hid (a = (acc : Int) ∧ acc < 16 ^ k ∧ hexA 0 t.data.toList = hexA acc (t.data.toList.drop k))) (fun _ _ vi => 2 - (intOf vi).toNat)
  case atStart => exact ⟨0, 0, 0, rfl, rfl, rfl, by omega, by omega, by omega, hide ⟨rfl, by simp, rfl⟩⟩
  case round =>
    obtain ⟨k, acc, a, rfl, rfl, rfl, hk, ha0, ha1, HE⟩ := hrel
    by_cases hlt : k < 2
    · have hkt : k < t.size := by omega
      have hlt' : (k : Int) < 2 := by omega
      have hcell := unhide HBC k hkt
      rw [getD_byte t k hkt] at hcell
      have hdr := drop_byte t k hkt
      have hc := t[k].toNat_lt
      have hlwb := lwN_lt t[k].toNat hc
      have HL := hide (fun W => lower_any t[k].toNat W hc)
      have h95 : ((t[k].toNat : Int) == 95) = decide (t[k].toNat = 95) := by rw [Bool.eq_iff_iff]; simp; omega
      have hacc : acc < 16 := by
        have := (unhide HE).2.1
        rcases (by omega : k = 0 ∨ k = 1) with rfl | rfl
        · simp at this; omega
        · simpa using this
      have ha : a = (acc : Int) := (unhide HE).1
      have he := (unhide HE).2.2
      rw [hdr] at he
      have haccp : acc < 16 ^ k := (unhide HE).2.1
      have HE2 : Hid (hexA 0 t.data.toList = if dig t[k] < 16 then hexA (acc * 16 + dig t[k]) (t.data.toList.drop (k + 1)) else none) := hide (by rw [he]; rfl)
      have hpow : acc * 16 + 15 < 16 ^ (k + 1) := by rw [Nat.pow_succ]; omega
      rcases dig_cases t[k] with ⟨c1, c2, hd⟩ | ⟨c1, c2, c3, hd⟩ | ⟨c1, c2, c3, hd⟩ | ⟨c1, c2, hd⟩
      · have HR : Hid (hexA 0 t.data.toList = hexA (acc * 16 + (t[k].toNat - 48)) (t.data.toList.drop (k + 1))) := hide (by rw [unhide HE2, if_pos (by omega), hd])
        have HPW := hide hpow
        have HA := hide ha
        have d1 : (48 : Int) ≤ (t[k].toNat : Int) := by omega
        have d2 : (t[k].toNat : Int) ≤ 57 := by omega
        have d3 : a ≤ 15 := by omega
        have e95 : ((t[k].toNat : Int) == 95) = false := by rw [beq_eq_false_iff_ne]; omega
        clear HE HE2 he hpow ha hd c1 c2 h95 hacc haccp hdr HL hlwb
        go_wp2
        exact ⟨⟨k + 1, acc * 16 + (t[k].toNat - 48), a * 16 + ((t[k].toNat : Int) - 48), rfl, rfl, by go_num, by omega, by omega, by omega, hide ⟨by have := unhide HA; omega, by have := unhide HPW; omega, unhide HR⟩⟩, by simp [intOf]; omega⟩
      · have HR : Hid (hexA 0 t.data.toList = hexA (acc * 16 + (lwN t[k].toNat - 87)) (t.data.toList.drop (k + 1))) := hide (by rw [unhide HE2, if_pos (by omega), hd])
        have HPW := hide hpow
        have HA := hide ha
        have d3 : a ≤ 15 := by omega
        have e95 : ((t[k].toNat : Int) == 95) = false := by
          rw [beq_eq_false_iff_ne]
          intro h
          have : lwN 95 = 127 := rfl
          rw [show t[k].toNat = 95 by omega] at c3
          omega
        have HC1 := hide c1
        have f1 : (97 : Int) ≤ (lwN t[k].toNat : Int) := by omega
        have f2 : (lwN t[k].toNat : Int) ≤ 102 := by omega
        by_cases g : 48 ≤ t[k].toNat
        · have g1 : (48 : Int) ≤ (t[k].toNat : Int) := by omega
          have g2 : ¬ (t[k].toNat : Int) ≤ 57 := by omega
          clear HE HE2 he hpow ha hd c1 c2 c3 h95 hacc haccp hdr hlwb HC1
          go_wp2_with (go_at_call 157; refine (unhide HL _).mono ?_; rintro e w' ⟨rfl, rfl⟩)
          exact ⟨⟨k + 1, acc * 16 + (lwN t[k].toNat - 87), a * 16 + ((lwN t[k].toNat : Int) - 97 + 10), rfl, rfl, by go_num, by omega, by omega, by omega, hide ⟨by have := unhide HA; omega, by have := unhide HPW; omega, unhide HR⟩⟩, by simp [intOf]; omega⟩
        · have g1 : ¬ (48 : Int) ≤ (t[k].toNat : Int) := by omega
          clear HE HE2 he hpow ha hd c1 c2 c3 h95 hacc haccp hdr hlwb HC1
          go_wp2_with (go_at_call 157; refine (unhide HL _).mono ?_; rintro e w' ⟨rfl, rfl⟩)
          exact ⟨⟨k + 1, acc * 16 + (lwN t[k].toNat - 87), a * 16 + ((lwN t[k].toNat : Int) - 97 + 10), rfl, rfl, by go_num, by omega, by omega, by omega, hide ⟨by have := unhide HA; omega, by have := unhide HPW; omega, unhide HR⟩⟩, by simp [intOf]; omega⟩
      · have HR : Hid (hexA 0 t.data.toList = none) := hide (by rw [unhide HE2, if_neg (by omega)])
        have e95 : ((t[k].toNat : Int) == 95) = false := by
          rw [beq_eq_false_iff_ne]
          intro h
          have : lwN 95 = 127 := rfl
          rw [show t[k].toNat = 95 by omega] at c3
          omega
        have f1 : (103 : Int) ≤ (lwN t[k].toNat : Int) := by omega
        have f2 : (lwN t[k].toNat : Int) ≤ 122 := by omega
        by_cases g : 48 ≤ t[k].toNat
        · have g1 : (48 : Int) ≤ (t[k].toNat : Int) := by omega
          have g2 : ¬ (t[k].toNat : Int) ≤ 57 := by omega
          clear HE HE2 he hpow ha hd c1 c2 c3 h95 hacc haccp hdr hlwb
          go_wp2_with (go_at_call 157; refine (unhide HL _).mono ?_; rintro e w' ⟨rfl, rfl⟩)
          go_ret2
          exact ⟨by rw [unhide HR]; rfl, unhide HBEL⟩
        · have g1 : ¬ (48 : Int) ≤ (t[k].toNat : Int) := by omega
          clear HE HE2 he hpow ha hd c1 c2 c3 h95 hacc haccp hdr hlwb
          go_wp2_with (go_at_call 157; refine (unhide HL _).mono ?_; rintro e w' ⟨rfl, rfl⟩)
          go_ret2
          exact ⟨by rw [unhide HR]; rfl, unhide HBEL⟩
      · have HR : Hid (hexA 0 t.data.toList = none) := hide (by rw [unhide HE2, if_neg (by omega)])
        obtain ⟨b, hb⟩ : ∃ b, ((t[k].toNat : Int) == 95) = b := ⟨_, rfl⟩
        have HC1 := hide c1
        have HC2 := hide c2
        clear HE HE2 he hpow ha hd c1 c2 h95 hacc haccp hdr
        by_cases g : 48 ≤ t[k].toNat
        · have g1 : (48 : Int) ≤ (t[k].toNat : Int) := by omega
          have g2 : ¬ (t[k].toNat : Int) ≤ 57 := by have := unhide HC1; omega
          rcases unhide HC2 with q | q
          · have q1 : ¬ (97 : Int) ≤ (lwN t[k].toNat : Int) := by omega
            cases b
            all_goals
              go_wp2_with (go_at_call 157; refine (unhide HL _).mono ?_; rintro e w' ⟨rfl, rfl⟩)
              go_ret2
              exact ⟨by rw [unhide HR]; rfl, unhide HBEL⟩
          · have q1 : (97 : Int) ≤ (lwN t[k].toNat : Int) := by omega
            have q2 : ¬ (lwN t[k].toNat : Int) ≤ 122 := by omega
            cases b
            all_goals
              go_wp2_with (go_at_call 157; refine (unhide HL _).mono ?_; rintro e w' ⟨rfl, rfl⟩)
              go_ret2
              exact ⟨by rw [unhide HR]; rfl, unhide HBEL⟩
        · have g1 : ¬ (48 : Int) ≤ (t[k].toNat : Int) := by omega
          rcases unhide HC2 with q | q
          · have q1 : ¬ (97 : Int) ≤ (lwN t[k].toNat : Int) := by omega
            cases b
            all_goals
              go_wp2_with (go_at_call 157; refine (unhide HL _).mono ?_; rintro e w' ⟨rfl, rfl⟩)
              go_ret2
              exact ⟨by rw [unhide HR]; rfl, unhide HBEL⟩
          · have q1 : (97 : Int) ≤ (lwN t[k].toNat : Int) := by omega
            have q2 : ¬ (lwN t[k].toNat : Int) ≤ 122 := by omega
            cases b
            all_goals
              go_wp2_with (go_at_call 157; refine (unhide HL _).mono ?_; rintro e w' ⟨rfl, rfl⟩)
              go_ret2
              exact ⟨by rw [unhide HR]; rfl, unhide HBEL⟩
    · have hlt' : ¬ (k : Int) < 2 := by omega
      have hk2 : k = 2 := by omega
      have he := (unhide HE).2.2
      rw [drop_end t (by omega)] at he
      have HR : Hid (hexA 0 t.data.toList = some acc) := hide he
      have HA := hide (unhide HE).1
      clear HE he
      go_wp2
      go_ret2
      exact ⟨by rw [unhide HR, unhide HA]; rfl, unhide HBEL⟩

/-- The library's error of a text that is no number lies in its variable. -/
def ErrS (w : World) : Prop := 7 < w.heap.size ∧ ∃ ev, w.cell? ⟨7, 0, none⟩ = some ev ∧ (ev = .nilIface ∨ ∃ te pe, ev = .iface te pe)
theorem ErrS.below {w w' : World} (h : ErrS w) (hb : Below w.heap.size w w') : ErrS w' := by
  obtain ⟨h1, ev, h2, h3⟩ := h
  have := hb.size
  exact ⟨by omega, ev, (hb.cell (p := ⟨7, 0, none⟩) h1).trans h2, h3⟩

set_option maxHeartbeats 2000000 in
set_option maxRecDepth 100000 in
theorem pu_ok (t : ByteArray) (n : Nat) (w : World) (h2 : t.size = 2) (hx : hexA 0 t.data.toList = some n) :
    Calls Tryz.prog 143 #[.string t, .int .i64 16, .int .i64 8] w fun e w' => e = .returned (.tuple #[.int .u64 (n : Int), .nilIface]) ∧ Below w.heap.size w w' := by
  have HP := hide (puIn_any t w h2)
  rw [hx] at HP
  simp only [hexE] at HP
  clear hx h2
  go_enter Tryz.func143, Tryz.ntmps143
  go_wp2_with fail
  refine (unhide HP).mono ?_
  rintro e w2 ⟨rfl, hb⟩
  have HB := hide hb
  clear hb HP
  go_wp2
  go_ret2
  exact ⟨rfl, unhide HB⟩

set_option maxHeartbeats 2000000 in
set_option maxRecDepth 100000 in
theorem pu_no (t : ByteArray) (w : World) (h2 : t.size = 2) (hx : hexA 0 t.data.toList = none) (hes : ErrS w) :
    Calls Tryz.prog 143 #[.string t, .int .i64 16, .int .i64 8] w fun e w' => (∃ N, e = .returned (.tuple #[.int .u64 0, .iface 169 (.pointer (some ⟨N, 0, none⟩))])) ∧ Below w.heap.size w w' := by
  have HP := hide (puIn_any t w h2)
  rw [hx] at HP
  simp only [hexE] at HP
  have HES := hide hes
  clear hx hes
  go_enter Tryz.func143, Tryz.ntmps143
  go_wp2_with fail
  refine (unhide HP).mono ?_
  rintro e w2 ⟨rfl, hb⟩
  obtain ⟨hg, ev, hev, hevf⟩ := (unhide HES).below hb
  have HTE := hide (AnyPu.strconv_toError_syntax (P := Tryz.prog) (ρ := Tryz.laysPu14_ren) { Tryz.laysPu14 with } ⟨#[80, 97, 114, 115, 101, 85, 105, 110, 116]⟩ t 16 8 ev w2 (by omega) hev hevf)
  have HB := hide hb
  clear hb HP hev hevf hg HES
  go_wp2_with fail
  refine (unhide HTE).mono ?_
  rintro e w3 ⟨N, rfl, _, _, hb⟩
  have HB2 := hide (belows' (unhide HB) hb)
  clear hb HTE HB
  go_wp2
  go_ret2
  exact ⟨⟨N, rfl⟩, unhide HB2⟩
end Go.Proofs.YtdallfakfhajdaaGreatDoor

/-
  What missiveref09.q does, over this seat's program: bytes as a text of Q.
-/
set_option linter.unusedVariables false
namespace Go.Proofs.YtdallfakfhajdaaGreatDoor
open Go.RowKit Go.Proofs.Enc

def hexC : ByteArray := ⟨#[48, 49, 50, 51, 52, 53, 54, 55, 56, 57, 65, 66, 67, 68, 69, 70]⟩
theorem hexC_size : hexC.size = 16 := rfl
theorem hexC_fin : ∀ n : Fin 16, hexC.data.toList.getD n.val 0 = hx n.val := by decide +kernel
theorem hexC_get (n : Nat) (h : n < 16) (h' : n < hexC.size) : hexC[n] = hx n := by
  rw [← getD_byte hexC n h']
  exact hexC_fin ⟨n, h⟩
theorem hexC_slice (m : Nat) (hm : m < 16) (w : World) : (Instr.slice 9 (.string hexC) (some (.int .u8 (m : Int))) (some (.int .u8 ((m : Int) + 1))) none).run Tryz.prog w = .ok (.string (bts [hx m])) w := by
  have h := run_slice_string (P := Tryz.prog) w 9 hexC .u8 .u8 m ((m : Int) + 1) Tryz.underlying9 (by omega) (by omega) (by rw [hexC_size]; omega)
  rw [show ((m : Int) + 1).toNat = m + 1 by omega, show (m : Int).toNat = m from rfl] at h
  have e : hexC.extract m (m + 1) = bts [hx m] := by
    apply ext_list
    rw [toList_part, toList_bts, drop_byte hexC m (by rw [hexC_size]; omega), hexC_get m hm]
    simp
  rw [e] at h
  exact h
theorem sliceC_one (s : ByteArray) (k : Nat) (h : k < s.size) (w : World) : (Instr.slice 9 (.string s) (some (.int .i64 (k : Int))) (some (.int .i64 ((k : Int) + 1))) none).run Tryz.prog w = .ok (.string (bts [s[k]])) w := by
  have h2 := slice_km s k 1 (by omega) w
  have e : s.extract k (k + 1) = bts [s[k]] := by
    apply ext_list
    rw [toList_part, toList_bts, drop_byte s k h]
    simp
  rw [e] at h2
  exact h2
theorem btsC (a b : List UInt8) : bts a ++ bts b = bts (a ++ b) := by
  apply ext_list
  rw [ByteArray.data_append, Array.toList_append, toList_bts, toList_bts, toList_bts]
theorem qL_step (c : UInt8) (r : List UInt8) : qL (c :: r) = qB c ++ qL r := by simp [qL]

set_option maxHeartbeats 4000000 in
set_option maxRecDepth 100000 in
/-- missiveref09.q answers the bytes as a text of Q. -/
theorem refQ_any (s : ByteArray) (w : World) (hs : s.size ≤ 4000000) :
    Calls Tryz.prog 45 #[.string s] w fun e w' => e = .returned (.string (bts (qL s.data.toList))) ∧ Below w.heap.size w w' := by
  go_enter Tryz.func45, Tryz.ntmps45
  go_wp2
  go_loopw [3, 4, 5] (fun x z y1 wr => ∃ (k : Nat) (acc : List UInt8), z = .int .i64 k ∧ k ≤ s.size ∧ x = .string (bts acc) ∧ acc.length ≤ 3 * k ∧ Hid (acc ++ qL (s.data.toList.drop k) = qL s.data.toList) ∧ Below w.heap.size w wr) (fun _ z _ _ => s.size - (intOf z).toNat)
  case atStart => exact ⟨0, [], rfl, by omega, rfl, by simp, hide rfl, Below.refl _ _⟩
  case round =>
    obtain ⟨k, acc, rfl, hk, rfl, hacc, HE, hbw⟩ := hrel
    by_cases hlt : k < s.size
    · have hd := drop_byte s k hlt
      have hc := s[k].toNat_lt
      have hfin := unhide HE
      rw [hd, qL_step, ← List.append_assoc] at hfin
      have hsz : (bts acc).size ≤ 12000000 := by rw [size_bts]; omega
      have hlt' : (k : Int) < (s.size : Int) := by omega
      by_cases hi : alB s[k] = true
      · rw [qB, if_pos hi] at hfin
        have hnx : bts (acc ++ [s[k]]) = bts acc ++ bts [s[k]] := (btsC _ _).symm
        have hl1 : (acc ++ [s[k]]).length ≤ 3 * (k + 1) := by simp; omega
        have HF := hide hfin
        have HN := hide hnx
        have HL := hide hl1
        have hsl := sliceC_one s k hlt
        have hs1 : (bts [s[k]]).size = 1 := by rw [size_bts]; rfl
        have hcase : (65 ≤ s[k].toNat ∧ s[k].toNat ≤ 90) ∨ (97 ≤ s[k].toNat ∧ s[k].toNat ≤ 122) ∨ (48 ≤ s[k].toNat ∧ s[k].toNat ≤ 57) := of_decide_eq_true hi
        clear hfin hnx hl1 hd hi HE
        generalize bts acc = o at hsz HN
        rcases hcase with ⟨g1, g2⟩ | ⟨g1, g2⟩ | ⟨g1, g2⟩
        · have e1 : (48 : Int) ≤ (s[k].toNat : Int) := by omega
          have e2 : ¬ (s[k].toNat : Int) ≤ 57 := by omega
          have e3 : (65 : Int) ≤ (s[k].toNat : Int) := by omega
          have e4 : (s[k].toNat : Int) ≤ 90 := by omega
          clear g1 g2
          generalize bts [s[k]] = t at hsl hs1 HN
          go_wp2
          exact ⟨⟨k + 1, _, by go_num, by omega, by rw [unhide HN], unhide HL, HF, hbw⟩, by simp [intOf]; omega⟩
        · have e1 : (48 : Int) ≤ (s[k].toNat : Int) := by omega
          have e2 : ¬ (s[k].toNat : Int) ≤ 57 := by omega
          have e3 : (65 : Int) ≤ (s[k].toNat : Int) := by omega
          have e4 : ¬ (s[k].toNat : Int) ≤ 90 := by omega
          have e5 : (97 : Int) ≤ (s[k].toNat : Int) := by omega
          have e6 : (s[k].toNat : Int) ≤ 122 := by omega
          clear g1 g2
          generalize bts [s[k]] = t at hsl hs1 HN
          go_wp2
          exact ⟨⟨k + 1, _, by go_num, by omega, by rw [unhide HN], unhide HL, HF, hbw⟩, by simp [intOf]; omega⟩
        · have e1 : (48 : Int) ≤ (s[k].toNat : Int) := by omega
          have e2 : (s[k].toNat : Int) ≤ 57 := by omega
          clear g1 g2
          generalize bts [s[k]] = t at hsl hs1 HN
          go_wp2
          exact ⟨⟨k + 1, _, by go_num, by omega, by rw [unhide HN], unhide HL, HF, hbw⟩, by simp [intOf]; omega⟩
      · have hnot : ¬ ((65 ≤ s[k].toNat ∧ s[k].toNat ≤ 90) ∨ (97 ≤ s[k].toNat ∧ s[k].toNat ≤ 122) ∨ (48 ≤ s[k].toNat ∧ s[k].toNat ≤ 57)) := fun h => hi (decide_eq_true h)
        by_cases h32 : s[k].toNat = 32
        · rw [qB, if_neg hi, if_pos h32] at hfin
          have hnx : bts (acc ++ [95]) = bts acc ++ ⟨#[95]⟩ := by rw [show ByteArray.mk #[95] = bts [95] from rfl, btsC]
          have hl1 : (acc ++ [95]).length ≤ 3 * (k + 1) := by simp; omega
          have HF := hide hfin
          have HN := hide hnx
          have HL := hide hl1
          have e1 : ¬ (48 : Int) ≤ (s[k].toNat : Int) := by omega
          have e2 : ¬ (65 : Int) ≤ (s[k].toNat : Int) := by omega
          have e3 : ¬ (97 : Int) ≤ (s[k].toNat : Int) := by omega
          have e4 : ((s[k].toNat : Int) == 32) = true := by simp [h32]
          clear hfin hnx hl1 hd hi HE hnot h32
          generalize bts acc = o at hsz HN
          go_wp2
          exact ⟨⟨k + 1, _, by go_num, by omega, by rw [unhide HN], unhide HL, HF, hbw⟩, by simp [intOf]; omega⟩
        · rw [qB, if_neg hi, if_neg h32] at hfin
          have hnx : bts (acc ++ [61, hx (s[k].toNat / 16), hx (s[k].toNat % 16)]) = bts acc ++ (ByteArray.mk #[61] ++ bts [hx (s[k].toNat / 16)] ++ bts [hx (s[k].toNat % 16)]) := by
            rw [show ByteArray.mk #[61] = bts [61] from rfl, btsC, btsC, btsC]
            rfl
          have hl1 : (acc ++ [61, hx (s[k].toNat / 16), hx (s[k].toNat % 16)]).length ≤ 3 * (k + 1) := by simp; omega
          have HF := hide hfin
          have HN := hide hnx
          have HL := hide hl1
          have hsl1 := hexC_slice (s[k].toNat / 16) (by omega)
          have hsl2 := hexC_slice (s[k].toNat % 16) (by omega)
          have hs1 : (bts [hx (s[k].toNat / 16)]).size = 1 := by rw [size_bts]; rfl
          have hs2 : (bts [hx (s[k].toNat % 16)]).size = 1 := by rw [size_bts]; rfl
          have hs3 : (ByteArray.mk #[61] ++ bts [hx (s[k].toNat / 16)]).size = 2 := by rw [ByteArray.size_append, hs1]; rfl
          have hs4 : (ByteArray.mk #[61] ++ bts [hx (s[k].toNat / 16)] ++ bts [hx (s[k].toNat % 16)]).size = 3 := by rw [ByteArray.size_append, hs3, hs2]
          rw [show ((s[k].toNat / 16 : Nat) : Int) = (s[k].toNat : Int) / 16 by omega] at hsl1
          rw [show ((s[k].toNat % 16 : Nat) : Int) = (s[k].toNat : Int) % 16 by omega] at hsl2
          unfold hexC at hsl1 hsl2
          have e4 : ((s[k].toNat : Int) == 32) = false := by simp; omega
          have hcase : s[k].toNat < 48 ∨ (57 < s[k].toNat ∧ s[k].toNat < 65) ∨ (90 < s[k].toNat ∧ s[k].toNat < 97) ∨ 122 < s[k].toNat := by omega
          clear hfin hnx hl1 hd hi HE hnot h32
          generalize bts acc = o at hsz HN
          generalize bts [hx (s[k].toNat / 16)] = t1 at hsl1 hs1 hs3 hs4 HN
          generalize bts [hx (s[k].toNat % 16)] = t2 at hsl2 hs2 hs4 HN
          rcases hcase with g1 | ⟨g1, g2⟩ | ⟨g1, g2⟩ | g1
          · have e1 : ¬ (48 : Int) ≤ (s[k].toNat : Int) := by omega
            have e2 : ¬ (65 : Int) ≤ (s[k].toNat : Int) := by omega
            have e3 : ¬ (97 : Int) ≤ (s[k].toNat : Int) := by omega
            clear g1
            go_wp2
            go_quiet (fail)
            go_wp2
            exact ⟨⟨k + 1, _, by go_num, by omega, by rw [unhide HN], unhide HL, HF, below_drewN hbw _⟩, by simp [intOf]; omega⟩
          · have e1 : (48 : Int) ≤ (s[k].toNat : Int) := by omega
            have e5 : ¬ (s[k].toNat : Int) ≤ 57 := by omega
            have e2 : ¬ (65 : Int) ≤ (s[k].toNat : Int) := by omega
            have e3 : ¬ (97 : Int) ≤ (s[k].toNat : Int) := by omega
            clear g1 g2
            go_wp2
            go_quiet (fail)
            go_wp2
            exact ⟨⟨k + 1, _, by go_num, by omega, by rw [unhide HN], unhide HL, HF, below_drewN hbw _⟩, by simp [intOf]; omega⟩
          · have e1 : (48 : Int) ≤ (s[k].toNat : Int) := by omega
            have e5 : ¬ (s[k].toNat : Int) ≤ 57 := by omega
            have e2 : (65 : Int) ≤ (s[k].toNat : Int) := by omega
            have e6 : ¬ (s[k].toNat : Int) ≤ 90 := by omega
            have e3 : ¬ (97 : Int) ≤ (s[k].toNat : Int) := by omega
            clear g1 g2
            go_wp2
            go_quiet (fail)
            go_wp2
            exact ⟨⟨k + 1, _, by go_num, by omega, by rw [unhide HN], unhide HL, HF, below_drewN hbw _⟩, by simp [intOf]; omega⟩
          · have e1 : (48 : Int) ≤ (s[k].toNat : Int) := by omega
            have e5 : ¬ (s[k].toNat : Int) ≤ 57 := by omega
            have e2 : (65 : Int) ≤ (s[k].toNat : Int) := by omega
            have e6 : ¬ (s[k].toNat : Int) ≤ 90 := by omega
            have e3 : (97 : Int) ≤ (s[k].toNat : Int) := by omega
            have e7 : ¬ (s[k].toNat : Int) ≤ 122 := by omega
            clear g1
            go_wp2
            go_quiet (fail)
            go_wp2
            exact ⟨⟨k + 1, _, by go_num, by omega, by rw [unhide HN], unhide HL, HF, below_drewN hbw _⟩, by simp [intOf]; omega⟩
    · have hlt' : ¬ (k : Int) < (s.size : Int) := by omega
      have hfin : acc = qL s.data.toList := by
        have := unhide HE
        rw [drop_end s (by omega)] at this
        simpa [qL] using this
      have HF := hide hfin
      have HB := hide hbw
      clear hfin hbw HE
      go_wp2
      go_ret
      exact ⟨by rw [← unhide HF]; rfl, unhide HB⟩
end Go.Proofs.YtdallfakfhajdaaGreatDoor

/-
  What the document's great, Named and Name of layer 6 do, over this seat's program.
-/
set_option linter.unusedVariables false
namespace Go.Proofs.YtdallfakfhajdaaGreatDoor
open Go.RowKit Go.Proofs.Rns

/-- The world has the bytes l in block b, from its first cell on, and none of them is frozen. -/
structure Bytes (w : World) (b : Nat) (l : List UInt8) : Prop where
  cell : ∀ j (h : j < l.length), w.cell? ⟨b, j, none⟩ = some (.int .u8 (l[j].toNat : Int))
  free : ∀ j, j < l.length → w.frozen? ⟨b, j, none⟩ = false

theorem bytes_new (w : World) (l : List UInt8) (cap : Nat) : Bytes (w.alloc (.cells (bytesRow (bts l) cap) 5 ((bytesRow (bts l) cap).size, (bytesRow (bts l) cap).size + 1))).drew w.heap.size l := by
  have hsz : l.length ≤ (bytesRow (bts l) cap).size := by
    simp [bytesRow, bts]
  refine ⟨fun j hj => ?_, fun j hj => ?_⟩
  · have := World.cell?_alloc_mark w.drew (bytesRow (bts l) cap) 5 ((bytesRow (bts l) cap).size, (bytesRow (bts l) cap).size + 1) j
    refine Eq.trans this ?_
    simp [bytesRow, bts, Array.getElem?_append, hj]
  · have hh : (w.alloc (.cells (bytesRow (bts l) cap) 5 ((bytesRow (bts l) cap).size, (bytesRow (bts l) cap).size + 1))).drew.heap[w.heap.size]? = some (.cells (bytesRow (bts l) cap) 5 ((bytesRow (bts l) cap).size, (bytesRow (bts l) cap).size + 1)) := by
      show (w.heap.push _)[w.heap.size]? = _
      simp
    unfold World.frozen?
    simp only [hh]
    simp
    omega

theorem Bytes.set {w : World} {b : Nat} {l : List UInt8} (h : Bytes w b l) (t : Nat) (ht : t < l.length) (z : UInt8) : Bytes (w.setCell ⟨b, t, none⟩ (.int .u8 (z.toNat : Int))) b (l.set t z) := by
  refine ⟨fun j hj => ?_, fun j hj => ?_⟩
  · have hj' : j < l.length := by simpa using hj
    by_cases e : j = t
    · subst e
      rw [World.cell?_setCell_same _ _ _ (h.cell j ht), List.getElem_set_self]
    · rw [World.cell?_setCell_other _ _ _ _ (by intro hh; have h3 := congrArg Addr.off hh; simp at h3; omega), h.cell j hj', List.getElem_set_ne (by omega)]
  · have hj' : j < l.length := by simpa using hj
    rw [World.frozen?_setCell]; exact h.free j hj'

/-- The first k great, the rest as they were. -/
def gre (k : Nat) (l : List UInt8) : List UInt8 := (l.take k).map upB ++ l.drop k
theorem gre_len (k : Nat) (l : List UInt8) : (gre k l).length = l.length := by simp [gre]; omega
theorem gre_at (k : Nat) (l : List UInt8) (h : k < l.length) : (gre k l)[k]'(by rw [gre_len]; exact h) = l[k] := by
  unfold gre
  rw [List.getElem_append_right (by simp; omega)]
  simp [Nat.min_eq_left (Nat.le_of_lt h)]
theorem gre_next (k : Nat) (l : List UInt8) (h : k < l.length) : gre (k + 1) l = (gre k l).set k (upB l[k]) := by
  unfold gre
  rw [List.set_append_right _ _ (by simp; omega)]
  simp only [List.length_map, List.length_take, Nat.min_eq_left (Nat.le_of_lt h), Nat.sub_self]
  rw [List.drop_eq_getElem_cons h, List.set_cons_zero, List.take_succ_eq_append_getElem h]
  simp only [List.map_append, List.map_cons, List.map_nil, List.append_assoc, List.cons_append, List.nil_append]
theorem gre_same (k : Nat) (l : List UInt8) (h : k < l.length) (hu : upB l[k] = l[k]) : gre (k + 1) l = gre k l := by
  rw [gre_next k l h, hu]
  conv => lhs; rw [← gre_at k l h]
  rw [List.set_getElem_self]
theorem gre_all (l : List UInt8) (k : Nat) (h : l.length ≤ k) : gre k l = l.map upB := by simp [gre, List.take_of_length_le h, List.drop_eq_nil_of_le h]

set_option maxHeartbeats 1000000 in
set_option maxRecDepth 100000 in
theorem great_l (L : List UInt8) (w : World) (hs : L.length ≤ 1099511627776) :
    Calls Tryz.prog 71 #[.string (bts L)] w fun e w' => e = .returned (.string (bts (L.map upB))) ∧ Below w.heap.size w w' := by
  have hsb := size_bts L
  have kc := fun (w : World) => run_bytes_of_string (P := Tryz.prog) w 9 36 5 (bts L) Tryz.underlying9 Tryz.underlying36 Tryz.underlying5
  rw [hsb] at kc
  go_enter Tryz.func71, Tryz.ntmps71
  go_upto_region 2 with (fail)
  have HB := hide (bytes_new w L (grownCap w L.length 0 5))
  have bN : Below w.heap.size w (w.alloc (.cells (bytesRow (bts L) (grownCap w L.length 0 5)) 5 ((bytesRow (bts L) (grownCap w L.length 0 5)).size, (bytesRow (bts L) (grownCap w L.length 0 5)).size + 1))).drew := ((Below.refl _ w).alloc (Nat.le_refl _) _).drew
  obtain ⟨W, hW⟩ : ∃ W, W = (w.alloc (.cells (bytesRow (bts L) (grownCap w L.length 0 5)) 5 ((bytesRow (bts L) (grownCap w L.length 0 5)).size, (bytesRow (bts L) (grownCap w L.length 0 5)).size + 1))).drew := ⟨_, rfl⟩
  rw [← hW] at HB bN ⊢
  clear hW kc
  generalize grownCap w L.length 0 5 = cap
  obtain ⟨B, hB⟩ : ∃ B, B = w.heap.size := ⟨_, rfl⟩
  rw [← hB] at HB bN ⊢
  have HBE := hide hB
  clear hB hsb
  go_wp2
  go_loopw [4, 5, 10] (fun x y z wr => ∃ k : Nat, z = .int .i64 k ∧ k ≤ L.length ∧ Bytes wr B (gre k L) ∧ Below B w wr) (fun _ _ z _ => L.length - (intOf z).toNat)
  case atStart => exact ⟨0, rfl, Nat.zero_le _, by simpa [gre] using unhide HB, bN⟩
  case round =>
    obtain ⟨k, rfl, hk, hby, hbw⟩ := hrel
    by_cases hlt : k < L.length
    · have hcc := hby.cell k (by rw [gre_len]; exact hlt)
      rw [gre_at k L hlt] at hcc
      have hfz := hby.free k (by rw [gre_len]; exact hlt)
      have hlt' : (k : Int) < (L.length : Int) := by omega
      have hc := L[k].toNat_lt
      by_cases h12 : 97 ≤ L[k].toNat ∧ L[k].toNat ≤ 122
      · have hup : ((L[k].toNat : Int) - 32) = ((upB L[k]).toNat : Int) := by
          unfold upB
          rw [if_pos h12]
          simp; omega
        have hn := hby.set k (by rw [gre_len]; exact hlt) (upB L[k])
        rw [← gre_next k L hlt, ← hup] at hn
        have HN := hide hn
        have HB2 := hide (hbw.setCell (p := ⟨B, k, none⟩) (Nat.le_refl _) (.int .u8 ((L[k].toNat : Int) - 32)))
        have h1 := h12.1
        have h2 := h12.2
        clear hn hup h12 hby hbw
        generalize L[k].toNat = c at hcc HN HB2 h1 h2 hc
        go_wp2
        exact ⟨⟨k + 1, by go_num, by omega, unhide HN, unhide HB2⟩, by simp [intOf]; omega⟩
      · have hup : upB L[k] = L[k] := by unfold upB; rw [if_neg h12]
        have HN := hide (show Bytes wr B (gre (k + 1) L) by rw [gre_same k L hlt hup]; exact hby)
        have HB2 := hide hbw
        clear hup hby hbw
        generalize L[k].toNat = c at hcc h12 hc
        by_cases h1 : 97 ≤ c
        · have h2 : ¬ c ≤ 122 := fun x => h12 ⟨h1, x⟩
          clear h12
          go_wp2
          exact ⟨⟨k + 1, by go_num, by omega, unhide HN, unhide HB2⟩, by simp [intOf]; omega⟩
        · clear h12
          go_wp2
          exact ⟨⟨k + 1, by go_num, by omega, unhide HN, unhide HB2⟩, by simp [intOf]; omega⟩
    · have hlt' : ¬ (k : Int) < (L.length : Int) := by omega
      rw [gre_all L k (by omega)] at hby
      have hcs : ∀ j (hj : j < (L.map upB).length), wr.cell? (Addr.add ⟨B, 0, none⟩ j) = some (.int .u8 ((L.map upB)[j].toNat : Int)) := by
        intro j hj
        have hadd : Addr.add ⟨B, 0, none⟩ j = ⟨B, j, none⟩ := by simp only [Addr.add, Nat.zero_add]; split <;> simp_all
        rw [hadd]
        exact hby.cell j hj
      have hcv := run_convert_bytes_back (P := Tryz.prog) wr 36 9 5 ⟨B, 0, none⟩ cap (L.map upB) Tryz.underlying36 Tryz.underlying5 Tryz.underlying9 hcs
      rw [List.length_map, show ({ data := (L.map upB).toArray } : ByteArray) = bts (L.map upB) from rfl] at hcv
      have HB2 := hide hbw
      clear hcs hby hbw
      obtain ⟨x, hx⟩ : ∃ x, x = bts (L.map upB) := ⟨_, rfl⟩
      rw [← hx] at hcv
      have HX := hide hx
      clear hx
      go_wp2
      go_ret
      exact ⟨by rw [← unhide HX]; rfl, by rw [← unhide HBE]; exact unhide HB2⟩

theorem great_any (s : ByteArray) (w : World) (hs : s.size ≤ 1099511627776) :
    Calls Tryz.prog 71 #[.string s] w fun e w' => e = .returned (.string (bts (s.data.toList.map upB))) ∧ Below w.heap.size w w' := by
  have h := great_l s.data.toList w (by rw [sizeL]; exact hs)
  rw [bts_toList] at h
  exact h

set_option maxHeartbeats 2000000 in
set_option maxRecDepth 100000 in
/-- The document's Named. -/
theorem refNamed_any (s : ByteArray) (w : World) (hs : s.size ≤ 1099511627776) :
    Calls Tryz.prog 30 #[.string s] w fun e w' => e = .returned (.tuple #[.int .u8 (namedR s.data.toList).1, .int .i64 (namedR s.data.toList).2]) ∧ Below w.heap.size w w' := by
  have hg := fun W => great_any s W hs
  have hx : (bts (s.data.toList.map upB)).toList = s.data.toList.map upB := by rw [ByteArray.toList_eq, toList_bts]
  unfold namedR
  generalize s.data.toList.map upB = u at hg hx ⊢
  generalize bts u = x at hg hx
  have HG := hide hg
  have HX := hide hx
  clear hg hx
  by_cases h0 : u = [85, 83, 45, 65, 83, 67, 73, 73]
  · have hb : (x.toList == [85, 83, 45, 65, 83, 67, 73, 73]) = true := by rw [unhide HX, h0]; rfl
    rw [show namedF u namesT = (1, 0) by rw [h0]; decide +kernel]
    clear h0
    go_enter Tryz.func30, Tryz.ntmps30
    go_wp2_with fail
    refine (unhide HG _).mono ?_
    rintro e w1 ⟨rfl, b1⟩
    go_wp2
    go_ret2
    exact ⟨rfl, b1⟩
  have b0x : (x.toList == [85, 83, 45, 65, 83, 67, 73, 73]) = false := by rw [unhide HX]; exact beq_eq_false_iff_ne.2 h0
  by_cases h1 : u = [65, 83, 67, 73, 73]
  · have hb : (x.toList == [65, 83, 67, 73, 73]) = true := by rw [unhide HX, h1]; rfl
    rw [show namedF u namesT = (1, 0) by rw [h1]; decide +kernel]
    clear h0 h1
    go_enter Tryz.func30, Tryz.ntmps30
    go_wp2_with fail
    refine (unhide HG _).mono ?_
    rintro e w1 ⟨rfl, b1⟩
    go_wp2
    go_ret2
    exact ⟨rfl, b1⟩
  have b1x : (x.toList == [65, 83, 67, 73, 73]) = false := by rw [unhide HX]; exact beq_eq_false_iff_ne.2 h1
  by_cases h2 : u = [85, 84, 70, 45, 56]
  · have hb : (x.toList == [85, 84, 70, 45, 56]) = true := by rw [unhide HX, h2]; rfl
    rw [show namedF u namesT = (2, 0) by rw [h2]; decide +kernel]
    clear h0 h1 h2
    go_enter Tryz.func30, Tryz.ntmps30
    go_wp2_with fail
    refine (unhide HG _).mono ?_
    rintro e w1 ⟨rfl, b1⟩
    go_wp2
    go_ret2
    exact ⟨rfl, b1⟩
  have b2x : (x.toList == [85, 84, 70, 45, 56]) = false := by rw [unhide HX]; exact beq_eq_false_iff_ne.2 h2
  by_cases h3 : u = [85, 84, 70, 56]
  · have hb : (x.toList == [85, 84, 70, 56]) = true := by rw [unhide HX, h3]; rfl
    rw [show namedF u namesT = (2, 0) by rw [h3]; decide +kernel]
    clear h0 h1 h2 h3
    go_enter Tryz.func30, Tryz.ntmps30
    go_wp2_with fail
    refine (unhide HG _).mono ?_
    rintro e w1 ⟨rfl, b1⟩
    go_wp2
    go_ret2
    exact ⟨rfl, b1⟩
  have b3x : (x.toList == [85, 84, 70, 56]) = false := by rw [unhide HX]; exact beq_eq_false_iff_ne.2 h3
  by_cases h4 : u = [73, 83, 79, 45, 56, 56, 53, 57, 45, 49]
  · have hb : (x.toList == [73, 83, 79, 45, 56, 56, 53, 57, 45, 49]) = true := by rw [unhide HX, h4]; rfl
    rw [show namedF u namesT = (3, 0) by rw [h4]; decide +kernel]
    clear h0 h1 h2 h3 h4
    go_enter Tryz.func30, Tryz.ntmps30
    go_wp2_with fail
    refine (unhide HG _).mono ?_
    rintro e w1 ⟨rfl, b1⟩
    go_wp2
    go_ret2
    exact ⟨rfl, b1⟩
  have b4x : (x.toList == [73, 83, 79, 45, 56, 56, 53, 57, 45, 49]) = false := by rw [unhide HX]; exact beq_eq_false_iff_ne.2 h4
  by_cases h5 : u = [76, 65, 84, 73, 78, 49]
  · have hb : (x.toList == [76, 65, 84, 73, 78, 49]) = true := by rw [unhide HX, h5]; rfl
    rw [show namedF u namesT = (3, 0) by rw [h5]; decide +kernel]
    clear h0 h1 h2 h3 h4 h5
    go_enter Tryz.func30, Tryz.ntmps30
    go_wp2_with fail
    refine (unhide HG _).mono ?_
    rintro e w1 ⟨rfl, b1⟩
    go_wp2
    go_ret2
    exact ⟨rfl, b1⟩
  have b5x : (x.toList == [76, 65, 84, 73, 78, 49]) = false := by rw [unhide HX]; exact beq_eq_false_iff_ne.2 h5
  by_cases h6 : u = [73, 83, 79, 45, 56, 56, 53, 57, 45, 49, 53]
  · have hb : (x.toList == [73, 83, 79, 45, 56, 56, 53, 57, 45, 49, 53]) = true := by rw [unhide HX, h6]; rfl
    rw [show namedF u namesT = (4, 0) by rw [h6]; decide +kernel]
    clear h0 h1 h2 h3 h4 h5 h6
    go_enter Tryz.func30, Tryz.ntmps30
    go_wp2_with fail
    refine (unhide HG _).mono ?_
    rintro e w1 ⟨rfl, b1⟩
    go_wp2
    go_ret2
    exact ⟨rfl, b1⟩
  have b6x : (x.toList == [73, 83, 79, 45, 56, 56, 53, 57, 45, 49, 53]) = false := by rw [unhide HX]; exact beq_eq_false_iff_ne.2 h6
  by_cases h7 : u = [76, 65, 84, 73, 78, 57]
  · have hb : (x.toList == [76, 65, 84, 73, 78, 57]) = true := by rw [unhide HX, h7]; rfl
    rw [show namedF u namesT = (4, 0) by rw [h7]; decide +kernel]
    clear h0 h1 h2 h3 h4 h5 h6 h7
    go_enter Tryz.func30, Tryz.ntmps30
    go_wp2_with fail
    refine (unhide HG _).mono ?_
    rintro e w1 ⟨rfl, b1⟩
    go_wp2
    go_ret2
    exact ⟨rfl, b1⟩
  have b7x : (x.toList == [76, 65, 84, 73, 78, 57]) = false := by rw [unhide HX]; exact beq_eq_false_iff_ne.2 h7
  by_cases h8 : u = [87, 73, 78, 68, 79, 87, 83, 45, 49, 50, 53, 50]
  · have hb : (x.toList == [87, 73, 78, 68, 79, 87, 83, 45, 49, 50, 53, 50]) = true := by rw [unhide HX, h8]; rfl
    rw [show namedF u namesT = (5, 0) by rw [h8]; decide +kernel]
    clear h0 h1 h2 h3 h4 h5 h6 h7 h8
    go_enter Tryz.func30, Tryz.ntmps30
    go_wp2_with fail
    refine (unhide HG _).mono ?_
    rintro e w1 ⟨rfl, b1⟩
    go_wp2
    go_ret2
    exact ⟨rfl, b1⟩
  have b8x : (x.toList == [87, 73, 78, 68, 79, 87, 83, 45, 49, 50, 53, 50]) = false := by rw [unhide HX]; exact beq_eq_false_iff_ne.2 h8
  by_cases h9 : u = [67, 80, 49, 50, 53, 50]
  · have hb : (x.toList == [67, 80, 49, 50, 53, 50]) = true := by rw [unhide HX, h9]; rfl
    rw [show namedF u namesT = (5, 0) by rw [h9]; decide +kernel]
    clear h0 h1 h2 h3 h4 h5 h6 h7 h8 h9
    go_enter Tryz.func30, Tryz.ntmps30
    go_wp2_with fail
    refine (unhide HG _).mono ?_
    rintro e w1 ⟨rfl, b1⟩
    go_wp2
    go_ret2
    exact ⟨rfl, b1⟩
  have b9x : (x.toList == [67, 80, 49, 50, 53, 50]) = false := by rw [unhide HX]; exact beq_eq_false_iff_ne.2 h9
  rw [show namedF u namesT = (0, 14) by simp only [namesT, namedF, if_neg h0, if_neg h1, if_neg h2, if_neg h3, if_neg h4, if_neg h5, if_neg h6, if_neg h7, if_neg h8, if_neg h9]]
  clear h0 h1 h2 h3 h4 h5 h6 h7 h8 h9
  go_enter Tryz.func30, Tryz.ntmps30
  go_wp2_with fail
  refine (unhide HG _).mono ?_
  rintro e w1 ⟨rfl, b1⟩
  go_wp2
  go_ret2
  exact ⟨rfl, b1⟩

set_option maxHeartbeats 1000000 in
set_option maxRecDepth 100000 in
/-- The document's Name. -/
theorem refNameG_any (c : Nat) (w : World) (hc : c < 256) :
    Calls Tryz.prog 74 #[.int .u8 c] w fun e w' => e = .returned (.tuple #[.string (bts (nameR c).1), .int .i64 (nameR c).2]) ∧ w' = w := by
  by_cases h1 : c = 1
  · have hb : ((c : Int) == 1) = true := by rw [h1]; rfl
    rw [show nameR c = ([85, 83, 45, 65, 83, 67, 73, 73], 0) by rw [h1]; decide +kernel]
    clear h1
    go_enter Tryz.func74, Tryz.ntmps74
    go_wp2
    go_ret2
    exact ⟨rfl, rfl⟩
  have b1x : ((c : Int) == 1) = false := by simp; omega
  by_cases h2 : c = 2
  · have hb : ((c : Int) == 2) = true := by rw [h2]; rfl
    rw [show nameR c = ([85, 84, 70, 45, 56], 0) by rw [h2]; decide +kernel]
    clear h1 h2
    go_enter Tryz.func74, Tryz.ntmps74
    go_wp2
    go_ret2
    exact ⟨rfl, rfl⟩
  have b2x : ((c : Int) == 2) = false := by simp; omega
  by_cases h3 : c = 3
  · have hb : ((c : Int) == 3) = true := by rw [h3]; rfl
    rw [show nameR c = ([73, 83, 79, 45, 56, 56, 53, 57, 45, 49], 0) by rw [h3]; decide +kernel]
    clear h1 h2 h3
    go_enter Tryz.func74, Tryz.ntmps74
    go_wp2
    go_ret2
    exact ⟨rfl, rfl⟩
  have b3x : ((c : Int) == 3) = false := by simp; omega
  by_cases h4 : c = 4
  · have hb : ((c : Int) == 4) = true := by rw [h4]; rfl
    rw [show nameR c = ([73, 83, 79, 45, 56, 56, 53, 57, 45, 49, 53], 0) by rw [h4]; decide +kernel]
    clear h1 h2 h3 h4
    go_enter Tryz.func74, Tryz.ntmps74
    go_wp2
    go_ret2
    exact ⟨rfl, rfl⟩
  have b4x : ((c : Int) == 4) = false := by simp; omega
  by_cases h5 : c = 5
  · have hb : ((c : Int) == 5) = true := by rw [h5]; rfl
    rw [show nameR c = ([87, 73, 78, 68, 79, 87, 83, 45, 49, 50, 53, 50], 0) by rw [h5]; decide +kernel]
    clear h1 h2 h3 h4 h5
    go_enter Tryz.func74, Tryz.ntmps74
    go_wp2
    go_ret2
    exact ⟨rfl, rfl⟩
  have b5x : ((c : Int) == 5) = false := by simp; omega
  rw [show nameR c = ([], 14) by simp only [nameR, nameF, namesT, if_neg (show ¬ 1 = c from fun e => h1 e.symm), if_neg (show ¬ 2 = c from fun e => h2 e.symm), if_neg (show ¬ 3 = c from fun e => h3 e.symm), if_neg (show ¬ 4 = c from fun e => h4 e.symm), if_neg (show ¬ 5 = c from fun e => h5 e.symm)]]
  clear h1 h2 h3 h4 h5
  go_enter Tryz.func74, Tryz.ntmps74
  go_wp2
  go_ret2
  exact ⟨rfl, rfl⟩
end Go.Proofs.YtdallfakfhajdaaGreatDoor
