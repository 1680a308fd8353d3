/-
  What lex.unended, mayTouch, isOfAtom, atom, spaces, quoted and literal do, over this seat's program.
-/
import Derived.Test.YtafegjbhaofgiaaDoorLxa
import Derived.Test.YtafegjbhaofgiaaDoorHlk
set_option linter.unusedVariables false
namespace Go.Proofs.YtafegjbhaofgiaaDoor
open Go.RowKit Go.Proofs.Lx

set_option maxHeartbeats 400000 in
theorem unended_any (n : Nat) (w : World) : Calls Tryd.prog 21 #[.int .i64 (n : Int)] w fun e w' => e = .returned (.int .i64 ((if 8192 < n then 15 else 5 : Nat) : Int)) ∧ w' = w := by
  by_cases h : 8192 < n
  · have e1 : 8192 < (n : Int) := by omega
    rw [if_pos h]
    go_enter Tryd.func21, Tryd.ntmps21
    go_wp2
    go_ret
    exact ⟨rfl, rfl⟩
  · have e1 : ¬ 8192 < (n : Int) := by omega
    rw [if_neg h]
    go_enter Tryd.func21, Tryd.ntmps21
    go_wp2
    go_ret
    exact ⟨rfl, rfl⟩

theorem ret_i64 {a b : Nat} (h : a = b) : Ending.returned (.int .i64 (a : Int)) = .returned (.int .i64 (b : Int)) := by rw [h]
theorem mayT_cases (a b : Nat) : mayT a b = (decide (a = 3) || (decide (b = 4) || (decide (a = 4) && decide (b = 3)))) := by
  unfold mayT
  rw [Bool.eq_iff_iff]; simp
theorem beq_dec (a k : Nat) : ((a : Int) == (k : Int)) = decide (a = k) := by
  rw [Bool.eq_iff_iff]; simp; omega
set_option maxHeartbeats 400000 in
theorem mayTouch_any (a b : Nat) (w : World) : Calls Tryd.prog 30 #[.int .u8 (a : Int), .int .u8 (b : Int)] w fun e w' => e = .returned (.bool (mayT a b)) ∧ w' = w := by
  rw [mayT_cases]
  have a3 : ((a : Int) == 3) = decide (a = 3) := beq_dec a 3
  have a4 : ((a : Int) == 4) = decide (a = 4) := beq_dec a 4
  have b4 : ((b : Int) == 4) = decide (b = 4) := beq_dec b 4
  have b3 : ((b : Int) == 3) = decide (b = 3) := beq_dec b 3
  generalize decide (a = 3) = x at *
  generalize decide (a = 4) = y at *
  generalize decide (b = 4) = z at *
  generalize decide (b = 3) = t at *
  cases x <;> cases y <;> cases z <;> cases t <;>
  · go_enter Tryd.func30, Tryd.ntmps30
    go_wp2
    go_ret
    exact ⟨rfl, rfl⟩

theorem isA_cases (c : UInt8) : isA c = (!decide (c.toNat = 40) && (!decide (c.toNat = 41) && (!decide (c.toNat = 34) && (!decide (c.toNat = 123) && (decide (33 ≤ c.toNat) && decide (c.toNat ≤ 126)))))) := by
  unfold isA
  rw [Bool.eq_iff_iff]; simp; omega
set_option maxHeartbeats 1000000 in
theorem isOfAtom_any (c : UInt8) (w : World) : Calls Tryd.prog 59 #[.int .u8 (c.toNat : Int)] w fun e w' => e = .returned (.bool (isA c)) ∧ w' = w := by
  rw [isA_cases]
  have b1 : ((c.toNat : Int) == 40) = decide (c.toNat = 40) := beq_dec c.toNat 40
  have b2 : ((c.toNat : Int) == 41) = decide (c.toNat = 41) := beq_dec c.toNat 41
  have b3 : ((c.toNat : Int) == 34) = decide (c.toNat = 34) := beq_dec c.toNat 34
  have b4 : ((c.toNat : Int) == 123) = decide (c.toNat = 123) := beq_dec c.toNat 123
  have b5 : decide ((33 : Int) ≤ (c.toNat : Int)) = decide (33 ≤ c.toNat) := by rw [Bool.eq_iff_iff]; simp; omega
  have b6 : decide ((c.toNat : Int) ≤ 126) = decide (c.toNat ≤ 126) := by rw [Bool.eq_iff_iff]; simp; omega
  generalize decide (c.toNat = 40) = x1 at *
  generalize decide (c.toNat = 41) = x2 at *
  generalize decide (c.toNat = 34) = x3 at *
  generalize decide (c.toNat = 123) = x4 at *
  generalize decide (33 ≤ c.toNat) = x5 at *
  generalize decide (c.toNat ≤ 126) = x6 at *
  generalize (c.toNat : Int) = n at *
  cases x1 with
  | true =>
    go_enter Tryd.func59, Tryd.ntmps59
    go_wp2
    go_ret
    exact ⟨rfl, rfl⟩
  | false =>
    cases x2 with
    | true =>
      go_enter Tryd.func59, Tryd.ntmps59
      go_wp2
      go_ret
      exact ⟨rfl, rfl⟩
    | false =>
      cases x3 with
      | true =>
        go_enter Tryd.func59, Tryd.ntmps59
        go_wp2
        go_ret
        exact ⟨rfl, rfl⟩
      | false =>
        cases x4 with
        | true =>
          go_enter Tryd.func59, Tryd.ntmps59
          go_wp2
          go_ret
          exact ⟨rfl, rfl⟩
        | false =>
          cases x5 <;> cases x6 <;>
          · go_enter Tryd.func59, Tryd.ntmps59
            go_wp2
            go_ret
            exact ⟨rfl, rfl⟩

/-- What the frame of atom holds at its label, k bytes read. -/
def AtJ (s : ByteArray) (w : World) (a' : Act) (w' : World) : Prop :=
  w' = w ∧ ∃ (k : Nat) (u4 u5 u6 u7 u8 u9 u10 u11 u12 u13 u14 u15 u16 : Value), a' = { tmps := #[.string s, undef, .int .i64 0, .int .i64 k, u4, u5, u6, u7, u8, u9, u10, u11, u12, u13, u14, u15, u16], defers := [] } ∧ k ≤ s.size ∧ Hid (k + atomL (s.data.toList.drop k) = atomL s.data.toList)

set_option maxHeartbeats 1000000 in
set_option maxRecDepth 100000 in
theorem atom_any (s : ByteArray) (w : World) (hs : s.size ≤ 281474976710656) :
    Calls Tryd.prog 46 #[.string s] w fun e w' => e = .returned (.int .i64 (atomL s.data.toList : Int)) ∧ w' = w := by
  go_enter Tryd.func46, Tryd.ntmps46
  go_wp2
  refine wp_scope_one 0 (AtJ s w) (fun a' _ => s.size - (intOf (a'.tmps.getD 3 undef)).toNat) rfl ?_ ?_
  · intro hp
    go_wp2
    go_step3
    rename_i K hK
    exact hK _ _ (hp _ _ ⟨rfl, 0, _, _, _, _, _, _, _, _, _, _, _, _, _, rfl, Nat.zero_le _, hide (by simp)⟩)
  · rintro a' w' ⟨rfl, k, u4, u5, u6, u7, u8, u9, u10, u11, u12, u13, u14, u15, u16, rfl, hk, HE⟩
    by_cases hlt : k < s.size
    · have hlt' : (k : Int) < (s.size : Int) := by omega
      have hd := unhide HE
      rw [drop_byte s k hlt, atomL] at hd
      have HI := hide (fun W => isOfAtom_any s[k] W)
      have hc := s[k].toNat_lt
      cases hi : isA s[k] with
      | true =>
        rw [hi] at HI hd
        rw [if_pos rfl] at hd
        have HF : Hid ((k + 1) + atomL (s.data.toList.drop (k + 1)) = atomL s.data.toList) := hide (by omega)
        clear hd HE hi
        go_wp2_with fail
        refine (unhide HI _).mono ?_
        rintro e w1 ⟨rfl, rfl⟩
        go_wp2
        go_step3
        refine ⟨rfl, ⟨rfl, k + 1, _, _, _, _, _, _, _, _, _, _, _, _, _, rfl, by omega, HF⟩, ?_⟩
        simp [intOf]
        omega
      | false =>
        rw [hi] at HI hd
        rw [if_neg (by decide)] at hd
        have HF : Hid (k = atomL s.data.toList) := hide (by omega)
        clear hd HE hi
        go_wp2_with fail
        refine (unhide HI _).mono ?_
        rintro e w1 ⟨rfl, rfl⟩
        go_wp2
        simp only [Exit.jump]
        go_ret
        exact ⟨ret_i64 (unhide HF), rfl⟩
    · have hlt' : ¬ (k : Int) < (s.size : Int) := by omega
      have hd := unhide HE
      rw [drop_end s (by omega), atomL] at hd
      have HF : Hid (k = atomL s.data.toList) := hide (by omega)
      clear hd HE
      go_wp2
      simp only [Exit.jump]
      go_ret
      exact ⟨ret_i64 (unhide HF), rfl⟩

theorem spL_trim : ∀ l : List UInt8, l.length = spL l + (Lib.trimLeftB l 32).length
  | [] => rfl
  | c :: r => by
    have := spL_trim r
    unfold Lib.trimLeftB at *
    simp only [spL, List.dropWhile_cons]
    by_cases h : c = 32
    · rw [if_pos h, if_pos (by simp [h])]; simp; omega
    · rw [if_neg h, if_neg (by simp [h])]; simp
set_option maxHeartbeats 400000 in
theorem spaces_any (s : ByteArray) (w : World) (hs : s.size ≤ 281474976710656) :
    Calls Tryd.prog 28 #[.string s] w fun e w' => e = .returned (.int .i64 (spL s.data.toList : Int)) ∧ w' = w := by
  have HT := hide (fun W => Tryd.strings_TrimLeft_one s 32 (by decide) W)
  obtain ⟨t, ht⟩ : ∃ t : ByteArray, t = ⟨(Lib.trimLeftB s.data.toList 32).toArray⟩ := ⟨_, rfl⟩
  rw [← ht] at HT
  have htz : s.size = spL s.data.toList + t.size := by
    have := spL_trim s.data.toList
    rw [sizeL] at this
    rw [this, ht]
    show _ = _ + (Lib.trimLeftB s.data.toList 32).toArray.size
    simp
  have hle := htz
  generalize spL s.data.toList = n at *
  clear ht
  go_enter Tryd.func28, Tryd.ntmps28
  go_wp2_with fail
  refine (unhide HT _).mono ?_
  rintro e w1 ⟨rfl, rfl⟩
  go_wp2
  go_ret
  exact ⟨by first | rfl | go_num | (congr 2; omega), rfl⟩
end Go.Proofs.YtafegjbhaofgiaaDoor
