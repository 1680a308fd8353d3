/-
  Texts of dates, as lists of bytes, and what date.number, nameOf, monthOf and the moment's has and take do, over this seat's program.
-/
import Derived.Test.YtdallfakfhajdaaGreatDoorHlk
import Derived.Test.YtdallfakfhajdaaGreatDoorBnd5
import Derived.Test.YtdallfakfhajdaaGreatDoorCts
import Derived.Test.YtdallfakfhajdaaGreatDoorWrb
set_option linter.unusedVariables false
namespace Go.Proofs.YtdallfakfhajdaaGreatDoor
open Go.RowKit Go.Proofs.Dcl

/-- A digit. -/
def digB (c : UInt8) : Bool := decide (48 ≤ c.toNat ∧ c.toNat ≤ 57)
/-- A number of digits alone, behind one. -/
def numA (acc : Nat) : List UInt8 → Option Nat
  | [] => some acc
  | c :: r => if digB c then numA (acc * 10 + (c.toNat - 48)) r else none
/-- A number of so many digits. -/
def numR (l : List UInt8) (least most : Nat) : Option Nat := if l.length < least ∨ most < l.length then none else numA 0 l
/-- The months' names. -/
def nmT : List (List UInt8) := [[74, 97, 110], [70, 101, 98], [77, 97, 114], [65, 112, 114], [77, 97, 121], [74, 117, 110], [74, 117, 108], [65, 117, 103], [83, 101, 112], [79, 99, 116], [78, 111, 118], [68, 101, 99]]
def nmL (k : Nat) : List UInt8 := nmT.getD k []
/-- The month of a name, from one on. -/
def monF (l : List UInt8) : Nat → Nat → Nat
  | 0, _ => 0
  | f + 1, k => if smL l = smL (nmL k) then k + 1 else monF l f (k + 1)
/-- The month of a name; 0: there is none. -/
def monR (l : List UInt8) : Nat := monF l 12 0
theorem monF_le (l : List UInt8) (f k : Nat) : monF l f k ≤ k + f := by
  induction f generalizing k with
  | zero => simp [monF]
  | succ f ih => unfold monF; split
                 · omega
                 · have := ih (k + 1); omega
theorem monR_le (l : List UInt8) : monR l ≤ 12 := by have := monF_le l 12 0; unfold monR; omega

/-- A pair, or nothing, as Go tells it. -/
def optV (o : Option Nat) : Value := match o with
  | some n => .tuple #[.int .i64 (n : Int), .bool true]
  | none => .tuple #[.int .i64 0, .bool false]

theorem numA_bound (l : List UInt8) (acc : Nat) (n : Nat) (h : numA acc l = some n) : n < (acc + 1) * 10 ^ l.length := by
  induction l generalizing acc with
  | nil => simp [numA] at h; subst h; simp
  | cons c r ih =>
    unfold numA at h
    split at h
    · rename_i hd
      have hd' : 48 ≤ c.toNat ∧ c.toNat ≤ 57 := by simpa [digB] using hd
      have := ih _ h
      simp only [List.length_cons, Nat.pow_succ]
      have h2 : (acc * 10 + (c.toNat - 48) + 1) * 10 ^ r.length ≤ ((acc + 1) * 10) * 10 ^ r.length := Nat.mul_le_mul_right _ (by omega)
      have h3 : ((acc + 1) * 10) * 10 ^ r.length = (acc + 1) * (10 ^ r.length * 10) := by rw [Nat.mul_assoc, Nat.mul_comm 10]
      omega
    · cases h

theorem ret_opt {o o' : Option Nat} (h : o = o') : Ending.returned (optV o) = .returned (optV o') := by rw [h]

set_option maxHeartbeats 1000000 in
theorem number_any (s : ByteArray) (least most : Nat) (w : World) (h4 : most ≤ 4) (hl : least ≤ 4) :
    Calls Tryz.prog 61 #[.string s, .int .i64 (least : Int), .int .i64 (most : Int)] w fun e w' => e = .returned (optV (numR s.data.toList least most)) ∧ w' = w := by
  unfold numR
  rw [sizeL]
  by_cases a1 : s.size < least
  · rw [if_pos (Or.inl a1)]
    have a1' : (s.size : Int) < (least : Int) := by omega
    go_enter Tryz.func61, Tryz.ntmps61
    go_wp2
    go_ret2
    exact ⟨rfl, rfl⟩
  by_cases a2 : most < s.size
  · rw [if_pos (Or.inr a2)]
    have a1' : ¬ (s.size : Int) < (least : Int) := by omega
    have a2' : (most : Int) < (s.size : Int) := by omega
    go_enter Tryz.func61, Tryz.ntmps61
    go_wp2
    go_ret2
    exact ⟨rfl, rfl⟩
  rw [if_neg (by omega)]
  have a1' : ¬ (s.size : Int) < (least : Int) := by omega
  have a2' : ¬ (most : Int) < (s.size : Int) := by omega
  have hs4 : s.size ≤ 4 := by omega
  clear a1 a2 hl h4
  go_enter Tryz.func61, Tryz.ntmps61
  go_wp2
  go_loop [8, 22] (fun n i => ∃ (k acc : Nat), k ≤ s.size ∧ i = .int .i64 (k : Int) ∧ n = .int .i64 (acc : Int) ∧ acc < 10 ^ k ∧ numA 0 s.data.toList = numA acc (s.data.toList.drop k)) (fun _ i => s.size - (intOf i).toNat)
  case atStart => exact ⟨0, 0, by omega, rfl, rfl, by simp, rfl⟩
  case round =>
    obtain ⟨k, acc, hk, rfl, rfl, hac, heq⟩ := hrel
    have hp : (10 : Nat) ^ k ≤ 10 ^ 4 := Nat.pow_le_pow_right (by omega) (by omega)
    have hp4 : (10 : Nat) ^ 4 = 10000 := by decide
    by_cases hlt : k < s.size
    · rw [drop_byte s k hlt] at heq
      have hc := s[k].toNat_lt
      have hgo : ∀ n : Nat, n = s[k].toNat → numA acc (s[k] :: s.data.toList.drop (k + 1)) = if 48 ≤ n ∧ n ≤ 57 then numA (acc * 10 + (n - 48)) (s.data.toList.drop (k + 1)) else none := by
        intro n hn; subst hn
        conv => lhs; unfold numA
        by_cases hd : 48 ≤ s[k].toNat ∧ s[k].toNat ≤ 57
        · simp [digB, hd]
        · simp only [digB, decide_eq_false hd, if_neg hd]; rfl
      have HG := hide hgo
      have HE := hide heq
      clear hgo heq
      by_cases d1 : s[k].toNat < 48
      · have d1' : (s[k].toNat : Int) < 48 := by omega
        have he := unhide HE
        rw [unhide HG _ rfl, if_neg (by omega)] at he
        rw [he]
        clear HE HG
        go_wp2
        go_ret2
        exact ⟨rfl, rfl⟩
      by_cases d2 : 57 < s[k].toNat
      · have d1' : ¬ (s[k].toNat : Int) < 48 := by omega
        have d2' : 57 < (s[k].toNat : Int) := by omega
        have he := unhide HE
        rw [unhide HG _ rfl, if_neg (by omega)] at he
        rw [he]
        clear HE HG
        go_wp2
        go_ret2
        exact ⟨rfl, rfl⟩
      have d1' : 48 ≤ (s[k].toNat : Int) := by omega
      have d2' : (s[k].toNat : Int) ≤ 57 := by omega
      have he := unhide HE
      rw [unhide HG _ rfl, if_pos (by omega)] at he
      have HE2 := hide he
      clear HE HG he
      go_wp2
      go_round
      case rel => exact ⟨k + 1, acc * 10 + (s[k].toNat - 48), by omega, by go_num, by congr 1; omega, by rw [Nat.pow_succ]; omega, unhide HE2⟩
      case measure => simp [intOf]; omega
    · obtain rfl : k = s.size := by omega
      rw [drop_end s (Nat.le_refl _)] at heq
      have HE : Hid (numA 0 s.data.toList = some acc) := heq.trans (by simp [numA])
      clear heq
      go_wp2
      go_ret2
      exact ⟨by rw [unhide HE]; rfl, rfl⟩

theorem name_part (k : Nat) (h : k < 12) : ((bts [74, 97, 110, 70, 101, 98, 77, 97, 114, 65, 112, 114, 77, 97, 121, 74, 117, 110, 74, 117, 108, 65, 117, 103, 83, 101, 112, 79, 99, 116, 78, 111, 118, 68, 101, 99]).extract (k * 3) (k * 3 + 3)) = bts (nmL k) := by
  have : k = 0 ∨ k = 1 ∨ k = 2 ∨ k = 3 ∨ k = 4 ∨ k = 5 ∨ k = 6 ∨ k = 7 ∨ k = 8 ∨ k = 9 ∨ k = 10 ∨ k = 11 := by omega
  rcases this with rfl | rfl | rfl | rfl | rfl | rfl | rfl | rfl | rfl | rfl | rfl | rfl <;> (apply ext_list; rw [toList_part, toList_bts, toList_bts]; rfl)

set_option maxHeartbeats 1000000 in
theorem nameOf_any (k : Nat) (w : World) (h : k < 12) :
    Calls Tryz.prog 93 #[.int .i64 ((k : Int) + 1)] w fun e w' => e = .returned (.string (bts (nmL k))) ∧ w' = w := by
  have hp := name_part k h
  have hk : (k : Int) ≤ 11 := by omega
  have hsl : ∀ W : World, (Instr.slice 9 (.string (bts [74, 97, 110, 70, 101, 98, 77, 97, 114, 65, 112, 114, 77, 97, 121, 74, 117, 110, 74, 117, 108, 65, 117, 103, 83, 101, 112, 79, 99, 116, 78, 111, 118, 68, 101, 99])) (some (.int .i64 ((k : Int) * 3))) (some (.int .i64 (((k : Int) + 1) * 3))) none).run Tryz.prog W = .ok (.string (bts (nmL k))) W := by
    intro W
    have := slice_km (bts [74, 97, 110, 70, 101, 98, 77, 97, 114, 65, 112, 114, 77, 97, 121, 74, 117, 110, 74, 117, 108, 65, 117, 103, 83, 101, 112, 79, 99, 116, 78, 111, 118, 68, 101, 99]) (k * 3) 3 (by rw [size_bts]; simp; omega) W
    rw [hp] at this
    rwa [show ((k * 3 : Nat) : Int) = (k : Int) * 3 by omega, show (k : Int) * 3 + ((3 : Nat) : Int) = ((k : Int) + 1) * 3 by omega] at this
  simp only [bts, List.toArray] at hsl
  clear hp
  have HS := hide hsl
  go_enter Tryz.func93, Tryz.ntmps93
  go_wp2
  go_ret
  exact ⟨rfl, rfl⟩

end Go.Proofs.YtdallfakfhajdaaGreatDoor

/-
  What date.monthOf and the moment's has, take and readDay do, over this seat's program.
-/
set_option linter.unusedVariables false
namespace Go.Proofs.YtdallfakfhajdaaGreatDoor
open Go.RowKit Go.Proofs.Dcl

theorem nmL_len (k : Nat) (h : k < 12) : (nmL k).length = 3 := by
  have : k = 0 ∨ k = 1 ∨ k = 2 ∨ k = 3 ∨ k = 4 ∨ k = 5 ∨ k = 6 ∨ k = 7 ∨ k = 8 ∨ k = 9 ∨ k = 10 ∨ k = 11 := by omega
  rcases this with rfl | rfl | rfl | rfl | rfl | rfl | rfl | rfl | rfl | rfl | rfl | rfl <;> rfl

def monV (m : Nat) : Value := if m = 0 then .tuple #[.int .i64 0, .bool false] else .tuple #[.int .i64 (m : Int), .bool true]

set_option maxHeartbeats 1000000 in
theorem monthOf_any (s : ByteArray) (w : World) (hs : s.size ≤ 281474976710656) :
    Calls Tryz.prog 63 #[.string s] w fun e w' => e = .returned (monV (monR s.data.toList)) ∧ ∃ q, w' = w.drewN q := by
  go_enter Tryz.func63, Tryz.ntmps63
  go_wp2
  go_loopw [5] (fun i wr => ∃ k q : Nat, i = .int .i64 (k : Int) ∧ k ≤ 12 ∧ Hid (monR s.data.toList = monF s.data.toList (12 - k) k) ∧ wr = w.drewN q) (fun i _ => 12 - (intOf i).toNat)
  case atStart => exact ⟨0, 0, rfl, by omega, hide rfl, rfl⟩
  case round =>
    obtain ⟨k, q, rfl, hk, HE, rfl⟩ := hrel
    by_cases hlt : k < 12
    · have hlt' : (k : Int) < 12 := by omega
      have HN := hide (fun W => nameOf_any k W hlt)
      have HL := hide (fun W => like_any s (bts (nmL k)) W hs (by rw [size_bts, nmL_len k hlt]; omega))
      have he := unhide HE
      obtain ⟨f, hf⟩ : ∃ f, 12 - k = f + 1 := ⟨11 - k, by omega⟩
      rw [hf] at he
      unfold monF at he
      rw [toList_bts] at HL
      clear HE
      by_cases hm : smL s.data.toList = smL (nmL k)
      · rw [if_pos hm] at he
        rw [decide_eq_true hm] at HL
        have HE := hide he
        clear hm he hf
        go_wp2_with fail
        refine (unhide HN _).mono ?_
        rintro e _ ⟨rfl, rfl⟩
        go_wp2_with fail
        refine (unhide HL _).mono ?_
        rintro e _ ⟨rfl, q2, rfl⟩
        go_wp2
        go_ret2
        exact ⟨by rw [unhide HE]; simp [monV], q + q2, by first | rfl | rw [World.drewN_drewN]⟩
      · rw [if_neg hm] at he
        rw [decide_eq_false hm] at HL
        have HE := hide he
        have hf' : f = 12 - (k + 1) := by omega
        subst hf'
        clear hm he hf
        go_wp2_with fail
        refine (unhide HN _).mono ?_
        rintro e _ ⟨rfl, rfl⟩
        go_wp2_with fail
        refine (unhide HL _).mono ?_
        rintro e _ ⟨rfl, q2, rfl⟩
        go_wp2
        go_roundw
        case rel => exact ⟨k + 1, q + q2, by go_num, by omega, HE, by first | rfl | rw [World.drewN_drewN]⟩
        case measure => simp [intOf]; omega
    · obtain rfl : k = 12 := by omega
      go_wp2
      go_ret2
      exact ⟨by rw [unhide HE]; rfl, q, rfl⟩

/-- A moment at work: its day, second, zone, and what is left of its text. -/
def Mom (w : World) (b : Nat) (d s z : Int) (l : ByteArray) : Prop := Blk w b 94 #[.int .i64 d, .int .i64 s, .int .i64 z, .string l]

theorem Mom.left {w : World} {b : Nat} {d s z : Int} {l : ByteArray} (h : Mom w b d s z l) (l' : ByteArray) : Mom (w.setCell ⟨b, 3, none⟩ (.string l')) b d s z l' := Blk.set h 3 (.string l')
theorem Mom.day {w : World} {b : Nat} {d s z : Int} {l : ByteArray} (h : Mom w b d s z l) (d' : Int) : Mom (w.setCell ⟨b, 0, none⟩ (.int .i64 d')) b d' s z l := Blk.set h 0 (.int .i64 d')
theorem Mom.drew {w : World} {b : Nat} {d s z : Int} {l : ByteArray} (h : Mom w b d s z l) (q : Nat) : Mom (w.drewN q) b d s z l := h

/-- What is left behind a byte that is asked for. -/
def behindB (c : UInt8) (l : ByteArray) : ByteArray := if l.data.toList.head? = some c then l.extract 1 l.size else l

set_option maxHeartbeats 1000000 in
theorem take_any (b : Nat) (d s z : Int) (l : ByteArray) (k : Nat) (w : World) (hM : Mom w b d s z l) (hs : l.size ≤ 281474976710656) (hk : k ≤ 281474976710656) :
    Calls Tryz.prog 110 #[.pointer (some ⟨b, 0, none⟩), .int .i64 (k : Int)] w fun e w' => e = .returned (.string (bts (l.data.toList.take k))) ∧ w' = w.setCell ⟨b, 3, none⟩ (.string (bts (l.data.toList.drop k))) := by
  have c3 : w.cell? ⟨b, 3, none⟩ = some (.string l) := (Blk.cell hM 3).trans rfl
  have f3 := Blk.frozen hM 3
  clear hM
  by_cases hlt : k ≤ l.size
  · have hlt' : (k : Int) ≤ (l.size : Int) := by omega
    have S1 := fun W => slice_upto l (k : Int) k rfl hlt W
    have S2 := fun W => slice_from l (k : Int) k rfl hlt W
    have e1 : l.extract 0 k = bts (l.data.toList.take k) := ext_list (by rw [toList_upto, toList_bts])
    have e2 : l.extract k l.size = bts (l.data.toList.drop k) := ext_list (by rw [toList_from, toList_bts])
    rw [e1] at S1
    rw [e2] at S2
    generalize bts (l.data.toList.take k) = p at S1 ⊢
    generalize bts (l.data.toList.drop k) = q at S2 ⊢
    clear e1 e2
    have hmin : min (k : Int) (l.size : Int) = (k : Int) := by omega
    go_enter Tryz.func110, Tryz.ntmps110
    go_wp2
    go_ret
    exact ⟨rfl, rfl⟩
  · have hlt' : ¬ (k : Int) ≤ (l.size : Int) := by omega
    have S1 := fun W => slice_upto l (l.size : Int) l.size rfl (Nat.le_refl _) W
    have S2 := fun W => slice_from l (l.size : Int) l.size rfl (Nat.le_refl _) W
    have e1 : l.extract 0 l.size = bts (l.data.toList.take k) := ext_list (by rw [toList_upto, toList_bts, List.take_of_length_le (by rw [sizeL]; omega), List.take_of_length_le (by rw [sizeL]; omega)])
    have e2 : l.extract l.size l.size = bts (l.data.toList.drop k) := ext_list (by rw [toList_from, toList_bts, List.drop_of_length_le (by rw [sizeL]; omega), List.drop_of_length_le (by rw [sizeL]; omega)])
    rw [e1] at S1
    rw [e2] at S2
    generalize bts (l.data.toList.take k) = p at S1 ⊢
    generalize bts (l.data.toList.drop k) = q at S2 ⊢
    clear e1 e2
    have hmin : min (k : Int) (l.size : Int) = (l.size : Int) := by omega
    go_enter Tryz.func110, Tryz.ntmps110
    go_wp2
    go_ret
    exact ⟨rfl, rfl⟩

end Go.Proofs.YtdallfakfhajdaaGreatDoor

/-
  What the moment's readDay does, over this seat's program.
-/
set_option linter.unusedVariables false
namespace Go.Proofs.YtdallfakfhajdaaGreatDoor
open Go.RowKit Go.Proofs.Dcl

section
variable {P : Program} {a : Act} {w : World} {Q : Exit → Act → World → Prop}
/-- A scope with one label that is gone to from ahead of it. -/
theorem wp_scope_out {c rest : Code} (l : Nat) (J : Act → World → Prop) (hf : findLabel c l = some (Code.skip.seq rest))
    (first : c.wp P (Exit.jump l J Q) a w)
    (pass : ∀ a w, J a w → rest.wp P (Exit.jump l (fun a' w' => J a' w' ∧ 0 < 0) Q) a w) : (Code.scope c).wp P Q a w :=
  wp_scope_jumps l J (fun _ _ => 0) hf first (fun a w h => wp_seq (wp_skip (pass a w h)))
end

/-- A day's text: so many digits, a name, four digits. -/
def readDayR (k : Nat) (l : List UInt8) : Option (Int × List UInt8) :=
  match numR (l.take k) k k with
  | none => none
  | some d =>
    if (l.drop k).head? = some 45 then
      if monR (((l.drop k).drop 1).take 3) = 0 then none
      else if (((l.drop k).drop 1).drop 3).head? = some 45 then
        match numR (((((l.drop k).drop 1).drop 3).drop 1).take 4) 4 4 with
        | none => none
        | some y =>
          if vldB y (monR (((l.drop k).drop 1).take 3)) d then some (num y (monR (((l.drop k).drop 1).take 3)) d, ((((l.drop k).drop 1).drop 3).drop 1).drop 4) else none
      else none
    else none

theorem behind_yes {c : UInt8} {l : ByteArray} (h : l.data.toList.head? = some c) : behindB c l = bts (l.data.toList.drop 1) := by
  unfold behindB; rw [if_pos h]; exact ext_list (by rw [toList_from, toList_bts])
theorem behind_no {c : UInt8} {l : ByteArray} (h : ¬ l.data.toList.head? = some c) : behindB c l = l := by
  unfold behindB; rw [if_neg h]

theorem LTab.belowB {w w' : World} {b : Nat} (h : LTab w) (hb : Below b w w') (hg : 1 < b) : LTab w' := by
  have hz := hb.size
  have h5 := h.size
  refine ⟨by omega, fun j hj => ?_⟩
  rw [hb.cell (p := ⟨1, j, none⟩) hg]; exact h.cells j hj

/-- What is so where no day is read. -/
def NoDay (b : Nat) (s z : Int) (w w' : World) : Prop := ∃ d' l', Mom w' b d' s z l' ∧ Below b w w'
def JDay (b : Nat) (s z : Int) (w : World) (k : Nat) (l : List UInt8) (a' : Act) (w' : World) : Prop :=
  ∃ u : Nat → Value, a' = { tmps := #[u 0, u 1, u 2, u 3, u 4, u 5, u 6, u 7, u 8, u 9, u 10, u 11, u 12, u 13, u 14, u 15, u 16, u 17, u 18, u 19, u 20, u 21, u 22, u 23, u 24, u 25, u 26, u 27, u 28, u 29, u 30, u 31, u 32, u 33, u 34, u 35, u 36, u 37, u 38, u 39, u 40, u 41, u 42, u 43, u 44, u 45, u 46, u 47, u 48, u 49, u 50, u 51, u 52, u 53, u 54, u 55, u 56, u 57, u 58, u 59], defers := [] } ∧ Hid (readDayR k l = none ∧ NoDay b s z w w')
theorem JDay.mk {b : Nat} {s z : Int} {w : World} {k : Nat} {l : List UInt8} {a' : Act} {w' : World}
    (ha : a' = { tmps := #[a'.tmps.getD 0 undef, a'.tmps.getD 1 undef, a'.tmps.getD 2 undef, a'.tmps.getD 3 undef, a'.tmps.getD 4 undef, a'.tmps.getD 5 undef, a'.tmps.getD 6 undef, a'.tmps.getD 7 undef, a'.tmps.getD 8 undef, a'.tmps.getD 9 undef, a'.tmps.getD 10 undef, a'.tmps.getD 11 undef, a'.tmps.getD 12 undef, a'.tmps.getD 13 undef, a'.tmps.getD 14 undef, a'.tmps.getD 15 undef, a'.tmps.getD 16 undef, a'.tmps.getD 17 undef, a'.tmps.getD 18 undef, a'.tmps.getD 19 undef, a'.tmps.getD 20 undef, a'.tmps.getD 21 undef, a'.tmps.getD 22 undef, a'.tmps.getD 23 undef, a'.tmps.getD 24 undef, a'.tmps.getD 25 undef, a'.tmps.getD 26 undef, a'.tmps.getD 27 undef, a'.tmps.getD 28 undef, a'.tmps.getD 29 undef, a'.tmps.getD 30 undef, a'.tmps.getD 31 undef, a'.tmps.getD 32 undef, a'.tmps.getD 33 undef, a'.tmps.getD 34 undef, a'.tmps.getD 35 undef, a'.tmps.getD 36 undef, a'.tmps.getD 37 undef, a'.tmps.getD 38 undef, a'.tmps.getD 39 undef, a'.tmps.getD 40 undef, a'.tmps.getD 41 undef, a'.tmps.getD 42 undef, a'.tmps.getD 43 undef, a'.tmps.getD 44 undef, a'.tmps.getD 45 undef, a'.tmps.getD 46 undef, a'.tmps.getD 47 undef, a'.tmps.getD 48 undef, a'.tmps.getD 49 undef, a'.tmps.getD 50 undef, a'.tmps.getD 51 undef, a'.tmps.getD 52 undef, a'.tmps.getD 53 undef, a'.tmps.getD 54 undef, a'.tmps.getD 55 undef, a'.tmps.getD 56 undef, a'.tmps.getD 57 undef, a'.tmps.getD 58 undef, a'.tmps.getD 59 undef], defers := [] }) (h : readDayR k l = none) (d' : Int) (l' : ByteArray) (hm : Mom w' b d' s z l') (hb : Below b w w') : JDay b s z w k l a' w' :=
  ⟨fun i => a'.tmps.getD i undef, ha, h, d', l', hm, hb⟩

theorem setB {b : Nat} {w w1 : World} (h : Below b w w1) (i : Nat) (v : Value) : Below b w (w1.setCell ⟨b, i, none⟩ v) := h.setCell (p := ⟨b, i, none⟩) (Nat.le_refl _) v

theorem size_drop (l : List UInt8) (k n : Nat) (h : l.length ≤ n) : (bts (l.drop k)).size ≤ n := by
  rw [size_bts, List.length_drop]; omega

end Go.Proofs.YtdallfakfhajdaaGreatDoor

/-
  What date.Parse does, over this seat's program.
-/
set_option linter.unusedVariables false
namespace Go.Proofs.YtdallfakfhajdaaGreatDoor
open Go.RowKit Go.Proofs.Dcl

/-- The day, if nothing is left. -/
def dayOnly (o : Option (Int × List UInt8)) : Option Int := match o with
  | some (d, []) => some d
  | _ => none
/-- A client's day. -/
def parseR (l : List UInt8) : Option Int :=
  if Lib.indexByte l 45 < 1 ∨ 2 < Lib.indexByte l 45 ∨ (Lib.indexByte l 45 = 2 ∧ l.head? = some 48) then none
  else dayOnly (readDayR (Lib.indexByte l 45).toNat l)
/-- A number, or an error. -/
def numV (o : Option Int) (no : Int) : Value := match o with
  | some n => .tuple #[.int .i64 n, .int .i64 0]
  | none => .tuple #[.int .i64 0, .int .i64 no]

theorem mom_new (w : World) (l : ByteArray) : Mom (w.alloc (.cells #[.int .i64 0, .int .i64 0, .int .i64 0, .string l] 94)) w.heap.size 0 0 0 l := Blk.new w _ _

theorem bts_ne (l : List UInt8) : ((bts l).toList == (ByteArray.toList { data := #[] })) = decide (l = []) := by
  rw [ByteArray.toList_eq, ByteArray.toList_eq, toList_bts]
  cases l <;> simp

end Go.Proofs.YtdallfakfhajdaaGreatDoor

/-
  What date.digit, writeTwo, writeDay and Write do, over this seat's program.
-/
set_option linter.unusedVariables false
namespace Go.Proofs.YtdallfakfhajdaaGreatDoor
open Go.RowKit Go.Proofs.Dcl

/-- A digit's byte. -/
def dg (n : Nat) : UInt8 := UInt8.ofNat (48 + n)
theorem dg_nat (n : Nat) (h : n < 10) : (dg n).toNat = 48 + n := by unfold dg; simp; omega
/-- Two digits. -/
def twoL (n : Nat) : List UInt8 := [dg (n / 10), dg (n % 10)]
/-- A day's text. -/
def dayT (y m d : Nat) : List UInt8 := (if 10 ≤ d then [dg (d / 10)] else []) ++ ([dg (d % 10)] ++ ([45] ++ (nmL (m - 1) ++ ([45] ++ (twoL (y / 100) ++ twoL (y % 100))))))

set_option maxHeartbeats 400000 in
theorem digit_any (n : Nat) (w : World) (h : n < 10) :
    Calls Tryz.prog 92 #[.int .i64 (n : Int)] w fun e w' => e = .returned (.int .u8 ((dg n).toNat : Int)) ∧ w' = w := by
  rw [dg_nat n h]
  have h' : (n : Int) < 10 := by omega
  go_enter Tryz.func92, Tryz.ntmps92
  go_wp2
  go_ret
  exact ⟨ret_int (by omega), rfl⟩

set_option maxHeartbeats 1000000 in
theorem wTwo {u W : World} {l : List UInt8} (h : Wr u W l) (n : Nat) (hn : n < 100) (hl : l.length ≤ 900) :
    Calls Tryz.prog 94 #[.pointer (some ⟨u.heap.size, 0, none⟩), .int .i64 (n : Int)] W fun e w' => e = .returned (.tuple #[]) ∧ Wr u w' (l ++ twoL n) := by
  have H1 := hide (fun W => digit_any (n / 10) W (by omega))
  have H2 := hide (fun W => digit_any (n % 10) W (by omega))
  rw [show ((n / 10 : Nat) : Int) = (n : Int) / 10 by omega] at H1
  rw [show ((n % 10 : Nat) : Int) = (n : Int) % 10 by omega] at H2
  have HW := hide h
  clear h
  go_enter Tryz.func94, Tryz.ntmps94
  go_wp2_with fail
  refine (unhide H1 _).mono ?_
  rintro e _ ⟨rfl, rfl⟩
  go_wp2_with fail
  refine (wByte (unhide HW) (dg (n / 10)) _ rfl (by omega)).mono ?_
  rintro e W1 ⟨rfl, h1⟩
  have HW1 := hide h1
  clear h1
  go_wp2_with fail
  refine (unhide H2 _).mono ?_
  rintro e _ ⟨rfl, rfl⟩
  go_wp2_with fail
  refine (wByte (unhide HW1) (dg (n % 10)) _ rfl (by simp; omega)).mono ?_
  rintro e W2 ⟨rfl, h2⟩
  go_wp2
  go_end0
  exact ⟨rfl, by rw [List.append_assoc] at h2; exact h2⟩

theorem LTab.wr {u W : World} {l : List UInt8} (h : LTab u) (hw : Wr u W l) : LTab W := h.below hw.bel

theorem dim_le (y m : Int) : dim y m ≤ 31 := (dim_bd y m).2

set_option maxHeartbeats 2000000 in
theorem wDay {u W : World} {l : List UInt8} (h : Wr u W l) (ht : LTab u) (y m d : Nat) (hv : vldB y m d = true) (n : Int) (hn : num y m d = n) (hl : l.length ≤ 800) :
    Calls Tryz.prog 50 #[.pointer (some ⟨u.heap.size, 0, none⟩), .int .i64 n] W fun e w' => e = .returned (.tuple #[]) ∧ Wr u w' (l ++ dayT y m d) := by
  have HC := hide (civil_any n W (ht.wr h))
  obtain ⟨y1, y2, m1, m2, d1, d2⟩ := vld_iff.1 hv
  have d3 := dim_le y m
  have HV := hide (And.intro hv hn)
  have HW := hide h
  clear hv hn h ht
  obtain ⟨k, rfl⟩ : ∃ k, m = k + 1 := ⟨m - 1, by omega⟩
  have hk : k < 12 := by omega
  have hnl := nmL_len k hk
  have HN := hide (fun W => nameOf_any k W hk)
  have HY1 := hide (fun W (l : List UInt8) (h : Wr u W l) (hl : l.length ≤ 900) => wTwo h (y / 100) (by omega) hl)
  have HY2 := hide (fun W (l : List UInt8) (h : Wr u W l) (hl : l.length ≤ 900) => wTwo h (y % 100) (by omega) hl)
  rw [show ((y / 100 : Nat) : Int) = (y : Int) / 100 by omega] at HY1
  rw [show ((y % 100 : Nat) : Int) = (y : Int) % 100 by omega] at HY2
  have H1 := hide (fun W => digit_any (d / 10) W (by omega))
  have H2 := hide (fun W => digit_any (d % 10) W (by omega))
  rw [show ((d / 10 : Nat) : Int) = (d : Int) / 10 by omega] at H1
  rw [show ((d % 10 : Nat) : Int) = (d : Int) % 10 by omega] at H2
  have hd31 : d ≤ 31 := by omega
  clear d2 d3
  have hfin : ∀ (l0 : List UInt8), l0.length ≤ 901 → (l0 = l ++ (if 10 ≤ d then [dg (d / 10)] else [])) → l0 ++ [dg (d % 10)] ++ [45] ++ (bts (nmL k)).data.toList ++ [45] ++ twoL (y / 100) ++ twoL (y % 100) = l ++ dayT y (k + 1) d := by
    intro l0 _ h0
    rw [h0, toList_bts]
    simp [dayT]
  have HFIN := hide hfin
  clear hfin
  by_cases h10 : 10 ≤ d
  · rw [if_pos h10] at HFIN
    have h10' : 10 ≤ (d : Int) := by omega
    go_enter Tryz.func50, Tryz.ntmps50
    go_wp2_with fail
    refine (unhide HC).mono ?_
    rintro e W1 ⟨v, rfl, hc, hb⟩
    have HW1 := hide ((unhide HW).below hb)
    obtain rfl := civ_known hc (unhide HV).1 (unhide HV).2
    clear hc hb HW HC HV
    go_wp2_with fail
    refine (unhide H1 _).mono ?_
    rintro e _ ⟨rfl, rfl⟩
    go_wp2_with fail
    refine (wByte (unhide HW1) (dg (d / 10)) _ rfl (by omega)).mono ?_
    rintro e W2 ⟨rfl, h⟩
    have HW2 := hide h
    clear h HW1
    go_wp2_with fail
    refine (unhide H2 _).mono ?_
    rintro e _ ⟨rfl, rfl⟩
    go_wp2_with fail
    refine (wByte (unhide HW2) (dg (d % 10)) _ rfl (by first | omega | (simp; omega) | (rw [size_bts, hnl]; omega) | (rw [size_bts, hnl]; simp; omega) | (simp [toList_bts, hnl]; omega) | (simp [toList_bts, hnl, twoL]; omega))).mono ?_
    rintro e W3 ⟨rfl, h⟩
    have HW3 := hide h
    clear h HW2
    go_wp2_with fail
    refine (wByte (unhide HW3) 45 45 rfl (by first | omega | (simp; omega) | (rw [size_bts, hnl]; omega) | (rw [size_bts, hnl]; simp; omega) | (simp [toList_bts, hnl]; omega) | (simp [toList_bts, hnl, twoL]; omega))).mono ?_
    rintro e W4 ⟨rfl, h⟩
    have HW4 := hide h
    clear h HW3
    go_wp2_with fail
    refine (unhide HN _).mono ?_
    rintro e _ ⟨rfl, rfl⟩
    go_wp2_with fail
    refine (wStr (unhide HW4) (bts (nmL k)) (by first | omega | (simp; omega) | (rw [size_bts, hnl]; omega) | (rw [size_bts, hnl]; simp; omega) | (simp [toList_bts, hnl]; omega) | (simp [toList_bts, hnl, twoL]; omega))).mono ?_
    rintro e W5 ⟨rfl, h⟩
    have HW5 := hide h
    clear h HW4
    go_wp2_with fail
    refine (wByte (unhide HW5) 45 45 rfl (by first | omega | (simp; omega) | (rw [size_bts, hnl]; omega) | (rw [size_bts, hnl]; simp; omega) | (simp [toList_bts, hnl]; omega) | (simp [toList_bts, hnl, twoL]; omega))).mono ?_
    rintro e W6 ⟨rfl, h⟩
    have HW6 := hide h
    clear h HW5
    go_wp2_with fail
    refine (unhide HY1 _ _ (unhide HW6) (by first | omega | (simp; omega) | (rw [size_bts, hnl]; omega) | (rw [size_bts, hnl]; simp; omega) | (simp [toList_bts, hnl]; omega) | (simp [toList_bts, hnl, twoL]; omega))).mono ?_
    rintro e W7 ⟨rfl, h⟩
    have HW7 := hide h
    clear h HW6
    go_wp2_with fail
    refine (unhide HY2 _ _ (unhide HW7) (by first | omega | (simp; omega) | (rw [size_bts, hnl]; omega) | (rw [size_bts, hnl]; simp; omega) | (simp [toList_bts, hnl]; omega) | (simp [toList_bts, hnl, twoL]; omega))).mono ?_
    rintro e W8 ⟨rfl, h⟩
    go_wp2
    go_end0
    exact ⟨rfl, by rw [unhide HFIN (l ++ [dg (d / 10)]) (by simp; omega) rfl] at h; exact h⟩
  · rw [if_neg h10] at HFIN
    have h10' : ¬ 10 ≤ (d : Int) := by omega
    go_enter Tryz.func50, Tryz.ntmps50
    go_wp2_with fail
    refine (unhide HC).mono ?_
    rintro e W1 ⟨v, rfl, hc, hb⟩
    have HW1 := hide ((unhide HW).below hb)
    obtain rfl := civ_known hc (unhide HV).1 (unhide HV).2
    clear hc hb HW HC HV
    have HW2 := HW1
    clear HW1
    go_wp2_with fail
    refine (unhide H2 _).mono ?_
    rintro e _ ⟨rfl, rfl⟩
    go_wp2_with fail
    refine (wByte (unhide HW2) (dg (d % 10)) _ rfl (by first | omega | (simp; omega) | (rw [size_bts, hnl]; omega) | (rw [size_bts, hnl]; simp; omega) | (simp [toList_bts, hnl]; omega) | (simp [toList_bts, hnl, twoL]; omega))).mono ?_
    rintro e W3 ⟨rfl, h⟩
    have HW3 := hide h
    clear h HW2
    go_wp2_with fail
    refine (wByte (unhide HW3) 45 45 rfl (by first | omega | (simp; omega) | (rw [size_bts, hnl]; omega) | (rw [size_bts, hnl]; simp; omega) | (simp [toList_bts, hnl]; omega) | (simp [toList_bts, hnl, twoL]; omega))).mono ?_
    rintro e W4 ⟨rfl, h⟩
    have HW4 := hide h
    clear h HW3
    go_wp2_with fail
    refine (unhide HN _).mono ?_
    rintro e _ ⟨rfl, rfl⟩
    go_wp2_with fail
    refine (wStr (unhide HW4) (bts (nmL k)) (by first | omega | (simp; omega) | (rw [size_bts, hnl]; omega) | (rw [size_bts, hnl]; simp; omega) | (simp [toList_bts, hnl]; omega) | (simp [toList_bts, hnl, twoL]; omega))).mono ?_
    rintro e W5 ⟨rfl, h⟩
    have HW5 := hide h
    clear h HW4
    go_wp2_with fail
    refine (wByte (unhide HW5) 45 45 rfl (by first | omega | (simp; omega) | (rw [size_bts, hnl]; omega) | (rw [size_bts, hnl]; simp; omega) | (simp [toList_bts, hnl]; omega) | (simp [toList_bts, hnl, twoL]; omega))).mono ?_
    rintro e W6 ⟨rfl, h⟩
    have HW6 := hide h
    clear h HW5
    go_wp2_with fail
    refine (unhide HY1 _ _ (unhide HW6) (by first | omega | (simp; omega) | (rw [size_bts, hnl]; omega) | (rw [size_bts, hnl]; simp; omega) | (simp [toList_bts, hnl]; omega) | (simp [toList_bts, hnl, twoL]; omega))).mono ?_
    rintro e W7 ⟨rfl, h⟩
    have HW7 := hide h
    clear h HW6
    go_wp2_with fail
    refine (unhide HY2 _ _ (unhide HW7) (by first | omega | (simp; omega) | (rw [size_bts, hnl]; omega) | (rw [size_bts, hnl]; simp; omega) | (simp [toList_bts, hnl]; omega) | (simp [toList_bts, hnl, twoL]; omega))).mono ?_
    rintro e W8 ⟨rfl, h⟩
    go_wp2
    go_end0
    exact ⟨rfl, by rw [unhide HFIN l (by omega) (by simp)] at h; exact h⟩

end Go.Proofs.YtdallfakfhajdaaGreatDoor

/-
  What date.Write, isRight and WriteTime do, over this seat's program.
-/
set_option linter.unusedVariables false
namespace Go.Proofs.YtdallfakfhajdaaGreatDoor
open Go.RowKit Go.Proofs.Dcl

theorem find_step (f : Nat → Int) (r : Int) (h1 : f 1 ≤ r) (j : Nat) : (∃ m, 1 ≤ m ∧ m ≤ j ∧ f m ≤ r ∧ r < f (m + 1)) ∨ f (j + 1) ≤ r := by
  induction j with
  | zero => exact .inr h1
  | succ j ih =>
    rcases ih with ⟨m, a, b, c, d⟩ | h
    · exact .inl ⟨m, a, by omega, c, d⟩
    · by_cases hr : f (j + 1 + 1) ≤ r
      · exact .inr hr
      · exact .inl ⟨j + 1, by omega, by omega, h, by omega⟩

/-- A number that is a day's has its day. -/
theorem day_exists {n : Int} (h : dayB n = true) : ∃ y m d : Nat, vldB y m d = true ∧ num y m d = n := by
  obtain ⟨a, b⟩ := dayB_t h
  obtain ⟨c, _, c1, hlo, hup⟩ := year_of n a b
  obtain ⟨Y, hY⟩ : ∃ Y : Nat, (Y : Int) = 1 + (c : Int) := ⟨1 + c, by omega⟩
  rw [← hY] at hlo hup
  have hs := ahd_succ Y
  rcases find_step (fun m => cum Y m) (n + 719162 - ahd Y) (by rw [show ((1 : Nat) : Int) = 1 from rfl, cum_one]; omega) 12 with ⟨m, m1, m2, ha, hb⟩ | hbad
  · have hcs := cum_succ Y m (by omega) (by omega)
    rw [show ((m + 1 : Nat) : Int) = (m : Int) + 1 by omega, hcs] at hb
    refine ⟨Y, m, (n + 719162 - ahd Y - cum Y m + 1).toNat, ?_, ?_⟩
    · rw [show (((n + 719162 - ahd Y - cum Y m + 1).toNat : Nat) : Int) = n + 719162 - ahd Y - cum Y m + 1 by omega]
      exact vld_of n Y m (by omega) (by omega) (by omega) (by omega) (by omega) (by omega)
    · rw [show (((n + 719162 - ahd Y - cum Y m + 1).toNat : Nat) : Int) = n + 719162 - ahd Y - cum Y m + 1 by omega]
      exact num_of n Y m
  · have := cum_13 Y
    have e : cum (Y : Int) ((12 + 1 : Nat) : Int) = cum Y 13 := rfl
    omega

set_option maxHeartbeats 1000000 in
theorem write_no (n : Int) (w : World) (h : dayB n = false) :
    Calls Tryz.prog 21 #[.int .i64 n] w fun e w' => e = .returned (.tuple #[.string (bts []), .int .i64 1]) ∧ w' = w := by
  have HI := fun W => isDay_any n W
  rw [h] at HI
  go_enter Tryz.func21, Tryz.ntmps21
  go_wp2_with (go_at_call 49; refine (HI _).mono ?_; rintro e w' ⟨rfl, rfl⟩)
  go_ret2
  exact ⟨rfl, rfl⟩

set_option maxHeartbeats 1000000 in
theorem write_yes (y m d : Nat) (n : Int) (w : World) (ht : LTab w) (hv : vldB y m d = true) (hn : num y m d = n) :
    Calls Tryz.prog 21 #[.int .i64 n] w fun e w' => e = .returned (.tuple #[.string (bts (dayT y m d)), .int .i64 0]) ∧ Below w.heap.size w w' := by
  have HI := fun W => isDay_any n W
  rw [← hn, day_of_vld hv, hn] at HI
  have HD := hide (wDay (Wr.new w) ht y m d hv n hn (by simp))
  rw [List.nil_append] at HD
  clear hv hn ht
  go_enter Tryz.func21, Tryz.ntmps21
  go_wp2_with (go_at_call 49; refine (HI _).mono ?_; rintro e w' ⟨rfl, rfl⟩)
  refine (unhide HD).mono ?_
  rintro e W1 ⟨rfl, h⟩
  have HS := hide (Tryz.Builder_String_any_f _ _ _ W1 h.isb h.bel.size)
  have HB := hide h.bel
  clear h HD
  go_wp2_with fail
  refine (unhide HS).mono ?_
  rintro e W2 ⟨rfl, _, hb⟩
  have HB2 := hide ((unhide HB).trans hb)
  clear hb HS
  go_wp2
  go_ret2
  exact ⟨rfl, unhide HB2⟩

def rightB (d s z : Int) : Bool := dayB d && decide (0 ≤ s ∧ s ≤ 86399 ∧ -5999 ≤ z ∧ z ≤ 5999)

end Go.Proofs.YtdallfakfhajdaaGreatDoor
