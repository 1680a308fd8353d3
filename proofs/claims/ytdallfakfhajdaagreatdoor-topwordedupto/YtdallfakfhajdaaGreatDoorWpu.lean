/-
  What strconv.ParseUint does with two bytes at base 16, over this seat's program.
-/
import Derived.Test.YtdallfakfhajdaaGreatDoorWop
import Derived.Shelf.Pu.ParseUintPublic10
set_option linter.unusedVariables false
namespace Go.Proofs.YtdallfakfhajdaaGreatDoor
open Go.RowKit Go.Proofs.Enc

/-- A small letter's number, by its bits. -/
def lwN (n : Nat) : Nat := n ||| 32
theorem lw_bits (n : Nat) (h : n < 256) : bits .or .u8 (n : Int) 32 = (lwN n : Int) := by
  have h1 : ∀ n : Fin 256, bits .or .u8 (n.val : Int) 32 = (lwN n.val : Int) := by decide +kernel
  exact h1 ⟨n, h⟩
theorem dig_cases (c : UInt8) : (48 ≤ c.toNat ∧ c.toNat ≤ 57 ∧ dig c = c.toNat - 48) ∨ (¬ (48 ≤ c.toNat ∧ c.toNat ≤ 57) ∧ 97 ≤ lwN c.toNat ∧ lwN c.toNat ≤ 102 ∧ dig c = lwN c.toNat - 87) ∨
    (¬ (48 ≤ c.toNat ∧ c.toNat ≤ 57) ∧ 103 ≤ lwN c.toNat ∧ lwN c.toNat ≤ 122 ∧ dig c = 16) ∨ (¬ (48 ≤ c.toNat ∧ c.toNat ≤ 57) ∧ (lwN c.toNat < 97 ∨ 122 < lwN c.toNat) ∧ dig c = 16) := by
  have h1 : ∀ n : Fin 256, (48 ≤ n.val ∧ n.val ≤ 57 ∧ dig (UInt8.ofNat n.val) = n.val - 48) ∨ (¬ (48 ≤ n.val ∧ n.val ≤ 57) ∧ 97 ≤ lwN n.val ∧ lwN n.val ≤ 102 ∧ dig (UInt8.ofNat n.val) = lwN n.val - 87) ∨
    (¬ (48 ≤ n.val ∧ n.val ≤ 57) ∧ 103 ≤ lwN n.val ∧ lwN n.val ≤ 122 ∧ dig (UInt8.ofNat n.val) = 16) ∨ (¬ (48 ≤ n.val ∧ n.val ≤ 57) ∧ (lwN n.val < 97 ∨ 122 < lwN n.val) ∧ dig (UInt8.ofNat n.val) = 16) := by decide +kernel
  have := h1 ⟨c.toNat, c.toNat_lt⟩
  simpa using this
theorem lwN_lt (n : Nat) (h : n < 256) : lwN n < 256 := by
  have h1 : ∀ n : Fin 256, lwN n.val < 256 := by decide +kernel
  exact h1 ⟨n, h⟩

set_option maxHeartbeats 1000000 in
theorem lower_any (n : Nat) (w : World) (h : n < 256) : Calls Tryz.prog 157 #[.int .u8 (n : Int)] w fun e w' => e = .returned (.int .u8 (lwN n : Int)) ∧ w' = w := by
  have hb := lw_bits n h
  go_enter Tryz.func157, Tryz.ntmps157
  go_wp2
  go_ret
  exact ⟨by first | rfl | rw [hb] | simp, rfl⟩

/-- What two hexadecimal digits are, gathered from one place on. -/
def hexA (acc : Nat) : List UInt8 → Option Nat
  | [] => some acc
  | c :: r => if dig c < 16 then hexA (acc * 16 + dig c) r else none
def hexE (o : Option Nat) : Value := match o with
  | some n => .tuple #[.int .u64 (n : Int), .nilIface]
  | none => .tuple #[.int .u64 0, .iface 168 (.int .i64 2)]

set_option maxHeartbeats 4000000 in
set_option maxRecDepth 100000 in
theorem puIn_any (t : ByteArray) (w : World) (h2 : t.size = 2) :
    Calls Tryz.prog 153 #[.string t, .int .i64 16, .int .i64 8] w fun e w' => e = .returned (hexE (hexA 0 t.data.toList)) ∧ Below w.heap.size w w' := by
  have hemp : t.toList.isEmpty = false := by rw [empty_size]; exact decide_eq_false (by omega)
  have hcv := Lib.run_convert_string_bytes (P := Tryz.prog) w 9 36 5 t Tryz.underlying9 Tryz.underlying36 Tryz.underlying5
  have hB : ∀ j, j < t.size → (Lib.bytesWorld w 5 t).cell? ⟨w.heap.size, j, none⟩ = some (.int .u8 (t.data.toList.getD j 0).toNat) := fun j hj => Lib.bytesWorld_cell w 5 t j hj
  have hbel := Lib.bytesWorld_below w 5 t
  obtain ⟨W1, hW1⟩ : ∃ W1, W1 = Lib.bytesWorld w 5 t := ⟨_, rfl⟩
  rw [← hW1] at hcv hB hbel
  have HBEL := hide hbel
  have HBC := hide hB
  have hmv : IntKind.u64.wrap (IntKind.u64.wrap 256 - 1) = 255 := by rw [IntKind.wrap_u64, IntKind.wrap_u64]; decide
  clear hW1 hbel hB
  generalize grownCap w t.size 0 5 = cap at hcv
  go_enter Tryz.func153, Tryz.ntmps153
  go_wp2
  go_loop [12, 13, 101] (fun vu vn vi => ∃ (k acc : Nat) (a : Int), vu = .bool false ∧ vn = .int .u64 a ∧ vi = .int .i64 k ∧ k ≤ 2 ∧ 0 ≤ a ∧ a ≤ 255 ∧ Hid (a = (acc : Int) ∧ acc < 16 ^ k ∧ hexA 0 t.data.toList = hexA acc (t.data.toList.drop k))) (fun _ _ vi => 2 - (intOf vi).toNat)
  case atStart => exact ⟨0, 0, 0, rfl, rfl, rfl, by omega, by omega, by omega, hide ⟨rfl, by simp, rfl⟩⟩
  case round =>
    obtain ⟨k, acc, a, rfl, rfl, rfl, hk, ha0, ha1, HE⟩ := hrel
    by_cases hlt : k < 2
    · have hkt : k < t.size := by omega
      have hlt' : (k : Int) < 2 := by omega
      have hcell := unhide HBC k hkt
      rw [getD_byte t k hkt] at hcell
      have hdr := drop_byte t k hkt
      have hc := t[k].toNat_lt
      have hlwb := lwN_lt t[k].toNat hc
      have HL := hide (fun W => lower_any t[k].toNat W hc)
      have h95 : ((t[k].toNat : Int) == 95) = decide (t[k].toNat = 95) := by rw [Bool.eq_iff_iff]; simp; omega
      have hacc : acc < 16 := by
        have := (unhide HE).2.1
        rcases (by omega : k = 0 ∨ k = 1) with rfl | rfl
        · simp at this; omega
        · simpa using this
      have ha : a = (acc : Int) := (unhide HE).1
      have he := (unhide HE).2.2
      rw [hdr] at he
      have haccp : acc < 16 ^ k := (unhide HE).2.1
      have HE2 : Hid (hexA 0 t.data.toList = if dig t[k] < 16 then hexA (acc * 16 + dig t[k]) (t.data.toList.drop (k + 1)) else none) := hide (by rw [he]; rfl)
      have hpow : acc * 16 + 15 < 16 ^ (k + 1) := by rw [Nat.pow_succ]; omega
      rcases dig_cases t[k] with ⟨c1, c2, hd⟩ | ⟨c1, c2, c3, hd⟩ | ⟨c1, c2, c3, hd⟩ | ⟨c1, c2, hd⟩
      · have HR : Hid (hexA 0 t.data.toList = hexA (acc * 16 + (t[k].toNat - 48)) (t.data.toList.drop (k + 1))) := hide (by rw [unhide HE2, if_pos (by omega), hd])
        have HPW := hide hpow
        have HA := hide ha
        have d1 : (48 : Int) ≤ (t[k].toNat : Int) := by omega
        have d2 : (t[k].toNat : Int) ≤ 57 := by omega
        have d3 : a ≤ 15 := by omega
        have e95 : ((t[k].toNat : Int) == 95) = false := by rw [beq_eq_false_iff_ne]; omega
        clear HE HE2 he hpow ha hd c1 c2 h95 hacc haccp hdr HL hlwb
        go_wp2
        exact ⟨⟨k + 1, acc * 16 + (t[k].toNat - 48), a * 16 + ((t[k].toNat : Int) - 48), rfl, rfl, by go_num, by omega, by omega, by omega, hide ⟨by have := unhide HA; omega, by have := unhide HPW; omega, unhide HR⟩⟩, by simp [intOf]; omega⟩
      · have HR : Hid (hexA 0 t.data.toList = hexA (acc * 16 + (lwN t[k].toNat - 87)) (t.data.toList.drop (k + 1))) := hide (by rw [unhide HE2, if_pos (by omega), hd])
        have HPW := hide hpow
        have HA := hide ha
        have d3 : a ≤ 15 := by omega
        have e95 : ((t[k].toNat : Int) == 95) = false := by
          rw [beq_eq_false_iff_ne]
          intro h
          have : lwN 95 = 127 := rfl
          rw [show t[k].toNat = 95 by omega] at c3
          omega
        have HC1 := hide c1
        have f1 : (97 : Int) ≤ (lwN t[k].toNat : Int) := by omega
        have f2 : (lwN t[k].toNat : Int) ≤ 102 := by omega
        by_cases g : 48 ≤ t[k].toNat
        · have g1 : (48 : Int) ≤ (t[k].toNat : Int) := by omega
          have g2 : ¬ (t[k].toNat : Int) ≤ 57 := by omega
          clear HE HE2 he hpow ha hd c1 c2 c3 h95 hacc haccp hdr hlwb HC1
          go_wp2_with (go_at_call 157; refine (unhide HL _).mono ?_; rintro e w' ⟨rfl, rfl⟩)
          exact ⟨⟨k + 1, acc * 16 + (lwN t[k].toNat - 87), a * 16 + ((lwN t[k].toNat : Int) - 97 + 10), rfl, rfl, by go_num, by omega, by omega, by omega, hide ⟨by have := unhide HA; omega, by have := unhide HPW; omega, unhide HR⟩⟩, by simp [intOf]; omega⟩
        · have g1 : ¬ (48 : Int) ≤ (t[k].toNat : Int) := by omega
          clear HE HE2 he hpow ha hd c1 c2 c3 h95 hacc haccp hdr hlwb HC1
          go_wp2_with (go_at_call 157; refine (unhide HL _).mono ?_; rintro e w' ⟨rfl, rfl⟩)
          exact ⟨⟨k + 1, acc * 16 + (lwN t[k].toNat - 87), a * 16 + ((lwN t[k].toNat : Int) - 97 + 10), rfl, rfl, by go_num, by omega, by omega, by omega, hide ⟨by have := unhide HA; omega, by have := unhide HPW; omega, unhide HR⟩⟩, by simp [intOf]; omega⟩
      · have HR : Hid (hexA 0 t.data.toList = none) := hide (by rw [unhide HE2, if_neg (by omega)])
        have e95 : ((t[k].toNat : Int) == 95) = false := by
          rw [beq_eq_false_iff_ne]
          intro h
          have : lwN 95 = 127 := rfl
          rw [show t[k].toNat = 95 by omega] at c3
          omega
        have f1 : (103 : Int) ≤ (lwN t[k].toNat : Int) := by omega
        have f2 : (lwN t[k].toNat : Int) ≤ 122 := by omega
        by_cases g : 48 ≤ t[k].toNat
        · have g1 : (48 : Int) ≤ (t[k].toNat : Int) := by omega
          have g2 : ¬ (t[k].toNat : Int) ≤ 57 := by omega
          clear HE HE2 he hpow ha hd c1 c2 c3 h95 hacc haccp hdr hlwb
          go_wp2_with (go_at_call 157; refine (unhide HL _).mono ?_; rintro e w' ⟨rfl, rfl⟩)
          go_ret2
          exact ⟨by rw [unhide HR]; rfl, unhide HBEL⟩
        · have g1 : ¬ (48 : Int) ≤ (t[k].toNat : Int) := by omega
          clear HE HE2 he hpow ha hd c1 c2 c3 h95 hacc haccp hdr hlwb
          go_wp2_with (go_at_call 157; refine (unhide HL _).mono ?_; rintro e w' ⟨rfl, rfl⟩)
          go_ret2
          exact ⟨by rw [unhide HR]; rfl, unhide HBEL⟩
      · have HR : Hid (hexA 0 t.data.toList = none) := hide (by rw [unhide HE2, if_neg (by omega)])
        obtain ⟨b, hb⟩ : ∃ b, ((t[k].toNat : Int) == 95) = b := ⟨_, rfl⟩
        have HC1 := hide c1
        have HC2 := hide c2
        clear HE HE2 he hpow ha hd c1 c2 h95 hacc haccp hdr
        by_cases g : 48 ≤ t[k].toNat
        · have g1 : (48 : Int) ≤ (t[k].toNat : Int) := by omega
          have g2 : ¬ (t[k].toNat : Int) ≤ 57 := by have := unhide HC1; omega
          rcases unhide HC2 with q | q
          · have q1 : ¬ (97 : Int) ≤ (lwN t[k].toNat : Int) := by omega
            cases b
            all_goals
              go_wp2_with (go_at_call 157; refine (unhide HL _).mono ?_; rintro e w' ⟨rfl, rfl⟩)
              go_ret2
              exact ⟨by rw [unhide HR]; rfl, unhide HBEL⟩
          · have q1 : (97 : Int) ≤ (lwN t[k].toNat : Int) := by omega
            have q2 : ¬ (lwN t[k].toNat : Int) ≤ 122 := by omega
            cases b
            all_goals
              go_wp2_with (go_at_call 157; refine (unhide HL _).mono ?_; rintro e w' ⟨rfl, rfl⟩)
              go_ret2
              exact ⟨by rw [unhide HR]; rfl, unhide HBEL⟩
        · have g1 : ¬ (48 : Int) ≤ (t[k].toNat : Int) := by omega
          rcases unhide HC2 with q | q
          · have q1 : ¬ (97 : Int) ≤ (lwN t[k].toNat : Int) := by omega
            cases b
            all_goals
              go_wp2_with (go_at_call 157; refine (unhide HL _).mono ?_; rintro e w' ⟨rfl, rfl⟩)
              go_ret2
              exact ⟨by rw [unhide HR]; rfl, unhide HBEL⟩
          · have q1 : (97 : Int) ≤ (lwN t[k].toNat : Int) := by omega
            have q2 : ¬ (lwN t[k].toNat : Int) ≤ 122 := by omega
            cases b
            all_goals
              go_wp2_with (go_at_call 157; refine (unhide HL _).mono ?_; rintro e w' ⟨rfl, rfl⟩)
              go_ret2
              exact ⟨by rw [unhide HR]; rfl, unhide HBEL⟩
    · have hlt' : ¬ (k : Int) < 2 := by omega
      have hk2 : k = 2 := by omega
      have he := (unhide HE).2.2
      rw [drop_end t (by omega)] at he
      have HR : Hid (hexA 0 t.data.toList = some acc) := hide he
      have HA := hide (unhide HE).1
      clear HE he
      go_wp2
      go_ret2
      exact ⟨by rw [unhide HR, unhide HA]; rfl, unhide HBEL⟩

/-- The library's error of a text that is no number lies in its variable. -/
def ErrS (w : World) : Prop := 7 < w.heap.size ∧ ∃ ev, w.cell? ⟨7, 0, none⟩ = some ev ∧ (ev = .nilIface ∨ ∃ te pe, ev = .iface te pe)
theorem ErrS.below {w w' : World} (h : ErrS w) (hb : Below w.heap.size w w') : ErrS w' := by
  obtain ⟨h1, ev, h2, h3⟩ := h
  have := hb.size
  exact ⟨by omega, ev, (hb.cell (p := ⟨7, 0, none⟩) h1).trans h2, h3⟩

set_option maxHeartbeats 2000000 in
set_option maxRecDepth 100000 in
theorem pu_ok (t : ByteArray) (n : Nat) (w : World) (h2 : t.size = 2) (hx : hexA 0 t.data.toList = some n) :
    Calls Tryz.prog 143 #[.string t, .int .i64 16, .int .i64 8] w fun e w' => e = .returned (.tuple #[.int .u64 (n : Int), .nilIface]) ∧ Below w.heap.size w w' := by
  have HP := hide (puIn_any t w h2)
  rw [hx] at HP
  simp only [hexE] at HP
  clear hx h2
  go_enter Tryz.func143, Tryz.ntmps143
  go_wp2_with fail
  refine (unhide HP).mono ?_
  rintro e w2 ⟨rfl, hb⟩
  have HB := hide hb
  clear hb HP
  go_wp2
  go_ret2
  exact ⟨rfl, unhide HB⟩

set_option maxHeartbeats 2000000 in
set_option maxRecDepth 100000 in
theorem pu_no (t : ByteArray) (w : World) (h2 : t.size = 2) (hx : hexA 0 t.data.toList = none) (hes : ErrS w) :
    Calls Tryz.prog 143 #[.string t, .int .i64 16, .int .i64 8] w fun e w' => (∃ N, e = .returned (.tuple #[.int .u64 0, .iface 169 (.pointer (some ⟨N, 0, none⟩))])) ∧ Below w.heap.size w w' := by
  have HP := hide (puIn_any t w h2)
  rw [hx] at HP
  simp only [hexE] at HP
  have HES := hide hes
  clear hx hes
  go_enter Tryz.func143, Tryz.ntmps143
  go_wp2_with fail
  refine (unhide HP).mono ?_
  rintro e w2 ⟨rfl, hb⟩
  obtain ⟨hg, ev, hev, hevf⟩ := (unhide HES).below hb
  have HTE := hide (AnyPu.strconv_toError_syntax (P := Tryz.prog) (ρ := Tryz.laysPu14_ren) { Tryz.laysPu14 with } ⟨#[80, 97, 114, 115, 101, 85, 105, 110, 116]⟩ t 16 8 ev w2 (by omega) hev hevf)
  have HB := hide hb
  clear hb HP hev hevf hg HES
  go_wp2_with fail
  refine (unhide HTE).mono ?_
  rintro e w3 ⟨N, rfl, _, _, hb⟩
  have HB2 := hide (belows' (unhide HB) hb)
  clear hb HTE HB
  go_wp2
  go_ret2
  exact ⟨⟨N, rfl⟩, unhide HB2⟩
end Go.Proofs.YtdallfakfhajdaaGreatDoor
