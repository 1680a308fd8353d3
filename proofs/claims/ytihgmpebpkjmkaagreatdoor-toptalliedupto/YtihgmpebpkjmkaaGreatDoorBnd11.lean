/-
  What lex.unended, mayTouch, isOfAtom, atom, spaces, quoted and literal do, over this seat's program.
-/
import Derived.Test.YtihgmpebpkjmkaaGreatDoorBnd10
import Derived.Test.YtihgmpebpkjmkaaGreatDoorHlk
import Derived.Test.YtihgmpebpkjmkaaGreatDoorCts
set_option linter.unusedVariables false
namespace Go.Proofs.YtihgmpebpkjmkaaGreatDoor
open Go.RowKit Go.Proofs.Lx

theorem ret_i64 {a b : Nat} (h : a = b) : Ending.returned (.int .i64 (a : Int)) = .returned (.int .i64 (b : Int)) := by rw [h]
theorem mayT_cases (a b : Nat) : mayT a b = (decide (a = 3) || (decide (b = 4) || (decide (a = 4) && decide (b = 3)))) := by
  unfold mayT
  rw [Bool.eq_iff_iff]; simp
theorem beq_dec (a k : Nat) : ((a : Int) == (k : Int)) = decide (a = k) := by
  rw [Bool.eq_iff_iff]; simp; omega
set_option maxHeartbeats 400000 in
theorem mayTouch_any (a b : Nat) (w : World) : Calls Tryz.prog 25 #[.int .u8 (a : Int), .int .u8 (b : Int)] w fun e w' => e = .returned (.bool (mayT a b)) ∧ w' = w := by
  rw [mayT_cases]
  have a3 : ((a : Int) == 3) = decide (a = 3) := beq_dec a 3
  have a4 : ((a : Int) == 4) = decide (a = 4) := beq_dec a 4
  have b4 : ((b : Int) == 4) = decide (b = 4) := beq_dec b 4
  have b3 : ((b : Int) == 3) = decide (b = 3) := beq_dec b 3
  generalize decide (a = 3) = x at *
  generalize decide (a = 4) = y at *
  generalize decide (b = 4) = z at *
  generalize decide (b = 3) = t at *
  cases x <;> cases y <;> cases z <;> cases t <;>
  · go_enter Tryz.func25, Tryz.ntmps25
    go_wp2
    go_ret
    exact ⟨rfl, rfl⟩

theorem isA_cases (c : UInt8) : isA c = (!decide (c.toNat = 40) && (!decide (c.toNat = 41) && (!decide (c.toNat = 34) && (!decide (c.toNat = 123) && (decide (33 ≤ c.toNat) && decide (c.toNat ≤ 126)))))) := by
  unfold isA
  rw [Bool.eq_iff_iff]; simp; omega
set_option maxHeartbeats 1000000 in
theorem isOfAtom_any (c : UInt8) (w : World) : Calls Tryz.prog 71 #[.int .u8 (c.toNat : Int)] w fun e w' => e = .returned (.bool (isA c)) ∧ w' = w := by
  rw [isA_cases]
  have b1 : ((c.toNat : Int) == 40) = decide (c.toNat = 40) := beq_dec c.toNat 40
  have b2 : ((c.toNat : Int) == 41) = decide (c.toNat = 41) := beq_dec c.toNat 41
  have b3 : ((c.toNat : Int) == 34) = decide (c.toNat = 34) := beq_dec c.toNat 34
  have b4 : ((c.toNat : Int) == 123) = decide (c.toNat = 123) := beq_dec c.toNat 123
  have b5 : decide ((33 : Int) ≤ (c.toNat : Int)) = decide (33 ≤ c.toNat) := by rw [Bool.eq_iff_iff]; simp; omega
  have b6 : decide ((c.toNat : Int) ≤ 126) = decide (c.toNat ≤ 126) := by rw [Bool.eq_iff_iff]; simp; omega
  generalize decide (c.toNat = 40) = x1 at *
  generalize decide (c.toNat = 41) = x2 at *
  generalize decide (c.toNat = 34) = x3 at *
  generalize decide (c.toNat = 123) = x4 at *
  generalize decide (33 ≤ c.toNat) = x5 at *
  generalize decide (c.toNat ≤ 126) = x6 at *
  generalize (c.toNat : Int) = n at *
  cases x1 with
  | true =>
    go_enter Tryz.func71, Tryz.ntmps71
    go_wp2
    go_ret
    exact ⟨rfl, rfl⟩
  | false =>
    cases x2 with
    | true =>
      go_enter Tryz.func71, Tryz.ntmps71
      go_wp2
      go_ret
      exact ⟨rfl, rfl⟩
    | false =>
      cases x3 with
      | true =>
        go_enter Tryz.func71, Tryz.ntmps71
        go_wp2
        go_ret
        exact ⟨rfl, rfl⟩
      | false =>
        cases x4 with
        | true =>
          go_enter Tryz.func71, Tryz.ntmps71
          go_wp2
          go_ret
          exact ⟨rfl, rfl⟩
        | false =>
          cases x5 <;> cases x6 <;>
          · go_enter Tryz.func71, Tryz.ntmps71
            go_wp2
            go_ret
            exact ⟨rfl, rfl⟩

/-- What the frame of atom holds at its label, k bytes read. -/
def AtJ (s : ByteArray) (w : World) (a' : Act) (w' : World) : Prop :=
  w' = w ∧ ∃ (k : Nat) (u4 u5 u6 u7 u8 u9 u10 u11 u12 u13 u14 u15 u16 : Value), a' = { tmps := #[.string s, undef, .int .i64 0, .int .i64 k, u4, u5, u6, u7, u8, u9, u10, u11, u12, u13, u14, u15, u16], defers := [] } ∧ k ≤ s.size ∧ Hid (k + atomL (s.data.toList.drop k) = atomL s.data.toList)

set_option maxHeartbeats 1000000 in
set_option maxRecDepth 100000 in
theorem atom_any (s : ByteArray) (w : World) (hs : s.size ≤ 281474976710656) :
    Calls Tryz.prog 47 #[.string s] w fun e w' => e = .returned (.int .i64 (atomL s.data.toList : Int)) ∧ w' = w := by
  go_enter Tryz.func47, Tryz.ntmps47
  go_wp2
  refine wp_scope_one 0 (AtJ s w) (fun a' _ => s.size - (intOf (a'.tmps.getD 3 undef)).toNat) rfl ?_ ?_
  · intro hp
    go_wp2
    go_step3
    rename_i K hK
    exact hK _ _ (hp _ _ ⟨rfl, 0, _, _, _, _, _, _, _, _, _, _, _, _, _, rfl, Nat.zero_le _, hide (by simp)⟩)
  · rintro a' w' ⟨rfl, k, u4, u5, u6, u7, u8, u9, u10, u11, u12, u13, u14, u15, u16, rfl, hk, HE⟩
    by_cases hlt : k < s.size
    · have hlt' : (k : Int) < (s.size : Int) := by omega
      have hd := unhide HE
      rw [drop_byte s k hlt, atomL] at hd
      have HI := hide (fun W => isOfAtom_any s[k] W)
      have hc := s[k].toNat_lt
      cases hi : isA s[k] with
      | true =>
        rw [hi] at HI hd
        rw [if_pos rfl] at hd
        have HF : Hid ((k + 1) + atomL (s.data.toList.drop (k + 1)) = atomL s.data.toList) := hide (by omega)
        clear hd HE hi
        go_wp2_with fail
        refine (unhide HI _).mono ?_
        rintro e w1 ⟨rfl, rfl⟩
        go_wp2
        go_step3
        refine ⟨rfl, ⟨rfl, k + 1, _, _, _, _, _, _, _, _, _, _, _, _, _, rfl, by omega, HF⟩, ?_⟩
        simp [intOf]
        omega
      | false =>
        rw [hi] at HI hd
        rw [if_neg (by decide)] at hd
        have HF : Hid (k = atomL s.data.toList) := hide (by omega)
        clear hd HE hi
        go_wp2_with fail
        refine (unhide HI _).mono ?_
        rintro e w1 ⟨rfl, rfl⟩
        go_wp2
        simp only [Exit.jump]
        go_ret
        exact ⟨ret_i64 (unhide HF), rfl⟩
    · have hlt' : ¬ (k : Int) < (s.size : Int) := by omega
      have hd := unhide HE
      rw [drop_end s (by omega), atomL] at hd
      have HF : Hid (k = atomL s.data.toList) := hide (by omega)
      clear hd HE
      go_wp2
      simp only [Exit.jump]
      go_ret
      exact ⟨ret_i64 (unhide HF), rfl⟩

theorem spL_trim : ∀ l : List UInt8, l.length = spL l + (Lib.trimLeftB l 32).length
  | [] => rfl
  | c :: r => by
    have := spL_trim r
    unfold Lib.trimLeftB at *
    simp only [spL, List.dropWhile_cons]
    by_cases h : c = 32
    · rw [if_pos h, if_pos (by simp [h])]; simp; omega
    · rw [if_neg h, if_neg (by simp [h])]; simp
set_option maxHeartbeats 400000 in
theorem spaces_any (s : ByteArray) (w : World) (hs : s.size ≤ 281474976710656) :
    Calls Tryz.prog 23 #[.string s] w fun e w' => e = .returned (.int .i64 (spL s.data.toList : Int)) ∧ w' = w := by
  have HT := hide (fun W => Tryz.strings_TrimLeft_one s 32 (by decide) W)
  obtain ⟨t, ht⟩ : ∃ t : ByteArray, t = ⟨(Lib.trimLeftB s.data.toList 32).toArray⟩ := ⟨_, rfl⟩
  rw [← ht] at HT
  have htz : s.size = spL s.data.toList + t.size := by
    have := spL_trim s.data.toList
    rw [sizeL] at this
    rw [this, ht]
    show _ = _ + (Lib.trimLeftB s.data.toList 32).toArray.size
    simp
  have hle := htz
  generalize spL s.data.toList = n at *
  clear ht
  go_enter Tryz.func23, Tryz.ntmps23
  go_wp2_with fail
  refine (unhide HT _).mono ?_
  rintro e w1 ⟨rfl, rfl⟩
  go_wp2
  go_ret
  exact ⟨by first | rfl | go_num | (congr 2; omega), rfl⟩
end Go.Proofs.YtihgmpebpkjmkaaGreatDoor

/-
  What lex.quoted does, over this seat's program.
-/
set_option linter.unusedVariables false
namespace Go.Proofs.YtihgmpebpkjmkaaGreatDoor
open Go.RowKit Go.Proofs.Lx

/-- What is read of a quoted text, or nothing, as Go tells it. -/
def quoV (o : Option (List UInt8 × Nat)) : Value := match o with
  | some p => .tuple #[.string (bts p.1), .int .i64 ((p.2 + 1 : Nat) : Int)]
  | none => .tuple #[.string ⟨#[]⟩, .int .i64 0]
/-- What is still to be read, behind k bytes of which acc was made. -/
def QuR (s : ByteArray) (k : Nat) (acc : List UInt8) : Prop := quoA (s.data.toList.drop 1) = (quoA (s.data.toList.drop k)).map fun p => (acc ++ p.1, k - 1 + p.2)
/-- What the frame of quoted holds at its label. -/
def QuJ (s : ByteArray) (w : World) (a' : Act) (w' : World) : Prop :=
  ∃ (k : Nat) (acc : List UInt8) (u6 u7 u8 u9 u10 u11 u12 u13 u14 u15 u16 u17 u18 u19 u20 u21 u22 u23 u24 u25 u26 u27 u28 u29 u30 u31 u32 u33 u34 u35 u36 u37 u38 u39 u40 u41 u42 u43 u44 u45 u46 : Value), a' = { tmps := #[.string s, undef, .string ⟨#[]⟩, .int .i64 0, .pointer (some ⟨w.heap.size, 0, none⟩), .int .i64 k, u6, u7, u8, u9, u10, u11, u12, u13, u14, u15, u16, u17, u18, u19, u20, u21, u22, u23, u24, u25, u26, u27, u28, u29, u30, u31, u32, u33, u34, u35, u36, u37, u38, u39, u40, u41, u42, u43, u44, u45, u46], defers := [] } ∧ 1 ≤ k ∧ k ≤ s.size ∧ acc.length ≤ k ∧ Hid (QuR s k acc) ∧ Hid (Wr w w' acc)

theorem ret_quo {o : Option (List UInt8 × Nat)} {v : Value} (h : quoV o = v) : Ending.returned v = .returned (quoV o) := by rw [h]
theorem beqN (a k : Nat) (b : Bool) (h : decide (a = k) = b) : ((a : Int) == (k : Int)) = b := by rw [beq_dec, h]

set_option maxHeartbeats 2000000 in
set_option maxRecDepth 100000 in
theorem quoted_any (s : ByteArray) (w : World) (h1 : 1 ≤ s.size) (hs : s.size ≤ 1099511627000) :
    Calls Tryz.prog 45 #[.string s] w fun e w' => e = .returned (quoV (quoA (s.data.toList.drop 1))) ∧ Below w.heap.size w w' := by
  have HW0 := hide (Wr.new w)
  go_enter Tryz.func45, Tryz.ntmps45
  go_wp2
  refine wp_scope_one 0 (QuJ s w) (fun a' _ => s.size - (intOf (a'.tmps.getD 5 undef)).toNat) rfl ?_ ?_
  · intro hp
    go_wp2
    go_step3
    rename_i K hK
    exact hK _ _ (hp _ _ ⟨1, [], _, _, _, _, _, _, _, _, _, _, _, _, _, _, _, _, _, _, _, _, _, _, _, _, _, _, _, _, _, _, _, _, _, _, _, _, _, _, _, _, _, rfl, by omega, h1, by simp, hide (by unfold QuR; simp), HW0⟩)
  · rintro a' w' ⟨k, acc, u6, u7, u8, u9, u10, u11, u12, u13, u14, u15, u16, u17, u18, u19, u20, u21, u22, u23, u24, u25, u26, u27, u28, u29, u30, u31, u32, u33, u34, u35, u36, u37, u38, u39, u40, u41, u42, u43, u44, u45, u46, rfl, hk1, hk, hacc, HE, HW⟩
    clear HW0 h1
    by_cases hend : k = s.size
    · have hbe : ((k : Int) == (s.size : Int)) = true := by simp [hend]
      have hF := unhide HE
      unfold QuR at hF
      rw [drop_end s (k := k) (by omega), quoA] at hF
      have HF : Hid (quoA (s.data.toList.drop 1) = none) := hide hF
      have HB := hide (unhide HW).bel
      clear hF HE hend HW
      go_wp2
      simp only [Exit.jump]
      go_ret2
      exact ⟨by rw [unhide HF]; rfl, unhide HB⟩
    · have hlt : k < s.size := by omega
      have hbe : ((k : Int) == (s.size : Int)) = false := by simp; omega
      have hq := unhide HE
      unfold QuR at hq
      rw [drop_byte s k hlt, quoA.eq_def (s[k] :: s.data.toList.drop (k + 1))] at hq
      try simp only at hq
      have hc := s[k].toNat_lt
      by_cases c34 : s[k] = 34
      · have e1 : ((s[k].toNat : Int) == 34) = true := by rw [c34]; rfl
        rw [if_pos c34] at hq
        have HF : Hid (quoA (s.data.toList.drop 1) = some (acc, k)) := hide (by
          rw [hq]; simp; omega)
        have HS := hide (Tryz.Builder_String_any_k w.heap.size w.heap.size acc w' (unhide HW).isb (unhide HW).bel.size)
        have HB := hide (unhide HW).bel
        clear hq HE HW c34 hend
        go_wp2_with fail
        refine (unhide HS).mono ?_
        rintro e w2 ⟨rfl, _, hb2, _⟩
        have HB2 := hide ((unhide HB).trans hb2)
        clear hb2
        go_wp2
        simp only [Exit.jump]
        go_ret2
        exact ⟨by rw [unhide HF]; first | rfl | (simp only [quoV]; rfl), unhide HB2⟩
      · have e1 : ((s[k].toNat : Int) == 34) = false := by
          rw [beq_eq_false_iff_ne]; intro h
          exact c34 (UInt8.toNat_inj.1 (by have : (34 : UInt8).toNat = 34 := rfl; omega))
        rw [if_neg c34] at hq
        by_cases cnl : s[k] = 13 ∨ s[k] = 10
        · rw [if_pos cnl] at hq
          have HF : Hid (quoA (s.data.toList.drop 1) = none) := hide hq
          have HB := hide (unhide HW).bel
          have e2 : ((s[k].toNat : Int) == 13) = true ∨ (((s[k].toNat : Int) == 13) = false ∧ ((s[k].toNat : Int) == 10) = true) := by
            rcases cnl with h | h
            · left; rw [h]; rfl
            · right; rw [h]; exact ⟨rfl, rfl⟩
          clear hq HE HW c34 hend cnl
          rcases e2 with e2 | ⟨e2, e3⟩
          · go_wp2
            simp only [Exit.jump]
            go_ret2
            exact ⟨by rw [unhide HF]; rfl, unhide HB⟩
          · go_wp2
            simp only [Exit.jump]
            go_ret2
            exact ⟨by rw [unhide HF]; rfl, unhide HB⟩
        · rw [if_neg cnl] at hq
          have e2 : ((s[k].toNat : Int) == 13) = false := by
            rw [beq_eq_false_iff_ne]; intro h
            exact cnl (Or.inl (UInt8.toNat_inj.1 (by have : (13 : UInt8).toNat = 13 := rfl; omega)))
          have e3 : ((s[k].toNat : Int) == 10) = false := by
            rw [beq_eq_false_iff_ne]; intro h
            exact cnl (Or.inr (UInt8.toNat_inj.1 (by have : (10 : UInt8).toNat = 10 := rfl; omega)))
          by_cases c92 : s[k] = 92
          · have e4 : ((s[k].toNat : Int) == 92) = true := by rw [c92]; rfl
            rw [if_pos c92] at hq
            by_cases hk2 : k + 1 < s.size
            · have hbe2 : ((k : Int) + 1 == (s.size : Int)) = false := by rw [beq_eq_false_iff_ne]; omega
              have hk2' : (k : Int) + 1 < (s.size : Int) := by omega
              rw [drop_byte s (k + 1) hk2] at hq
              try simp only at hq
              have hc2 := s[k + 1].toNat_lt
              by_cases cd : s[k + 1] = 34 ∨ s[k + 1] = 92
              · rw [if_pos cd] at hq
                have HF : Hid (QuR s (k + 2) (acc ++ [s[k + 1]])) := hide (by
                  unfold QuR
                  rw [hq, Option.map_map]
                  congr 1
                  funext p
                  simp
                  omega)
                have HWB := hide (wByte (unhide HW) s[k + 1] (s[k + 1].toNat : Int) rfl (by omega))
                have e5 : ((s[k + 1].toNat : Int) != 34) = false ∨ (((s[k + 1].toNat : Int) != 34) = true ∧ ((s[k + 1].toNat : Int) != 92) = false) := by
                  rcases cd with h | h
                  · left; rw [h]; rfl
                  · right; rw [h]; exact ⟨rfl, rfl⟩
                clear hq HE HW c34 hend cnl cd c92
                rcases e5 with e5 | ⟨e5, e6⟩
                · go_wp2_with fail
                  refine (unhide HWB).mono ?_
                  rintro e w3 ⟨rfl, h3⟩
                  have HW3 := hide h3
                  clear h3 HWB
                  go_wp2
                  go_step3
                  refine ⟨rfl, ⟨k + 2, _, _, _, _, _, _, _, _, _, _, _, _, _, _, _, _, _, _, _, _, _, _, _, _, _, _, _, _, _, _, _, _, _, _, _, _, _, _, _, _, _, _, rfl, by omega, by omega, by simp; omega, HF, HW3⟩, ?_⟩
                  simp [intOf]
                  omega
                · go_wp2_with fail
                  refine (unhide HWB).mono ?_
                  rintro e w3 ⟨rfl, h3⟩
                  have HW3 := hide h3
                  clear h3 HWB
                  go_wp2
                  go_step3
                  refine ⟨rfl, ⟨k + 2, _, _, _, _, _, _, _, _, _, _, _, _, _, _, _, _, _, _, _, _, _, _, _, _, _, _, _, _, _, _, _, _, _, _, _, _, _, _, _, _, _, _, rfl, by omega, by omega, by simp; omega, HF, HW3⟩, ?_⟩
                  simp [intOf]
                  omega
              · rw [if_neg cd] at hq
                have HF : Hid (quoA (s.data.toList.drop 1) = none) := hide hq
                have HB := hide (unhide HW).bel
                have e5 : ((s[k + 1].toNat : Int) != 34) = true := by
                  rw [bne_iff_ne]; intro h
                  exact cd (Or.inl (UInt8.toNat_inj.1 (by have : (34 : UInt8).toNat = 34 := rfl; omega)))
                have e6 : ((s[k + 1].toNat : Int) != 92) = true := by
                  rw [bne_iff_ne]; intro h
                  exact cd (Or.inr (UInt8.toNat_inj.1 (by have : (92 : UInt8).toNat = 92 := rfl; omega)))
                clear hq HE HW c34 hend cnl cd c92
                go_wp2
                simp only [Exit.jump]
                go_ret2
                exact ⟨by rw [unhide HF]; rfl, unhide HB⟩
            · have hbe2 : ((k : Int) + 1 == (s.size : Int)) = true := by rw [beq_iff_eq]; omega
              rw [drop_end s (k := k + 1) (by omega)] at hq
              try simp only at hq
              have HF : Hid (quoA (s.data.toList.drop 1) = none) := hide hq
              have HB := hide (unhide HW).bel
              clear hq HE HW c34 hend cnl c92
              go_wp2
              simp only [Exit.jump]
              go_ret2
              exact ⟨by rw [unhide HF]; rfl, unhide HB⟩
          · have e4 : ((s[k].toNat : Int) == 92) = false := by
              rw [beq_eq_false_iff_ne]; intro h
              exact c92 (UInt8.toNat_inj.1 (by have : (92 : UInt8).toNat = 92 := rfl; omega))
            rw [if_neg c92] at hq
            have HF : Hid (QuR s (k + 1) (acc ++ [s[k]])) := hide (by
              unfold QuR
              rw [hq, Option.map_map]
              congr 1
              funext p
              simp
              omega)
            have HWB := hide (wByte (unhide HW) s[k] (s[k].toNat : Int) rfl (by omega))
            clear hq HE HW c34 hend cnl c92
            go_wp2_with fail
            refine (unhide HWB).mono ?_
            rintro e w3 ⟨rfl, h3⟩
            have HW3 := hide h3
            clear h3 HWB
            go_wp2
            go_step3
            refine ⟨rfl, ⟨k + 1, _, _, _, _, _, _, _, _, _, _, _, _, _, _, _, _, _, _, _, _, _, _, _, _, _, _, _, _, _, _, _, _, _, _, _, _, _, _, _, _, _, _, rfl, by omega, by omega, by simp; omega, HF, HW3⟩, ?_⟩
            simp [intOf]
            omega
end Go.Proofs.YtihgmpebpkjmkaaGreatDoor

/-
  What lex.literal and first do, over this seat's program.
-/
set_option linter.unusedVariables false
namespace Go.Proofs.YtihgmpebpkjmkaaGreatDoor
open Go.RowKit Go.Proofs.Lx

theorem cutAt_eq (k : UInt8) : ∀ l : List UInt8, cutAt k l = cutB k l
  | [] => rfl
  | c :: r => by simp only [cutAt, cutB, cutAt_eq k r]
theorem lcut_any (s : ByteArray) (w : World) (hs : s.size ≤ 281474976710656) :
    Calls Tryz.prog 50 #[.string s, .string ⟨#[10]⟩] w fun e w' => e = .returned (match cutB 10 s.data.toList with | none => .tuple #[.string s, .string ⟨#[]⟩, .bool false] | some (n, v) => .tuple #[.string (bts n), .string (bts v), .bool true]) ∧ Below w.heap.size w w' := by
  refine (cut1_any 10 s w hs).mono ?_
  rintro e w' ⟨rfl, q, rfl⟩
  rw [cutAt_eq]
  exact ⟨rfl, below_drewN (Below.refl _ _) _⟩
theorem lclone_any (s : ByteArray) (w : World) (hs : s.size ≤ 281474976710656) :
    Calls Tryz.prog 33 #[.string s] w fun e w' => e = .returned (.string s) ∧ Below w.heap.size w w' := by
  have hc := Tryz.stringslite_Clone s w (by omega)
  go_enter Tryz.func33, Tryz.ntmps33
  go_wp2_with fail
  refine hc.mono ?_
  rintro e w1 ⟨rfl, hb⟩
  go_wp2
  go_ret
  exact ⟨rfl, hb⟩

/-- What is read of a literal, or nothing, as Go tells it. -/
def litV (o : Option (List UInt8 × Nat)) : Value := match o with
  | some p => .tuple #[.string (bts p.1), .int .i64 (p.2 : Int)]
  | none => .tuple #[.string ⟨#[]⟩, .int .i64 0]
theorem trimE_head {l : List UInt8} (h : l.head? = some 123) : 1 ≤ (trimE l 13).length := by
  cases l with
  | nil => simp at h
  | cons c r =>
    simp at h; subst h
    unfold trimE
    cases r with
    | nil => simp
    | cons d r => split <;> simp
theorem cutB_head {l n v : List UInt8} (h : cutB 10 l = some (n, v)) (hh : l.head? = some 123) : n.head? = some 123 := by
  obtain ⟨h1, h2⟩ := cutB_some h
  cases n with
  | nil => rw [h1] at hh; simp at hh
  | cons c r => rw [h1] at hh; simpa using hh

set_option maxHeartbeats 2000000 in
set_option maxRecDepth 100000 in
theorem literal_any (s : ByteArray) (w : World) (hh : s.data.toList.head? = some 123) (hs : s.size ≤ 1099511627000) :
    Calls Tryz.prog 46 #[.string s] w fun e w' => e = .returned (litV (litA s.data.toList)) ∧ Below w.heap.size w w' := by
  have HC := hide (fun W => lcut_any s W (by omega))
  have hsz := sizeL s
  cases hc : cutB 10 s.data.toList with
  | none =>
    rw [hc] at HC
    have HT := hide (fun W => trimSuffix_any s 13 W (by omega))
    have h1 := trimE_head hh
    have h2 := trimE_len s.data.toList 13
    have HN := hide (fun W => announced_any (bts (trimE s.data.toList 13)) W (by rw [size_bts]; exact h1) (by rw [size_bts]; omega))
    have HF : Hid (litA s.data.toList = none) := hide (by rw [litA, hc])
    rw [toList_bts] at HN
    generalize annB _ = o at HN
    generalize bts (trimE s.data.toList 13) = d at HT HN
    have hq : ((s.size : Int) - 0 == (s.size : Int)) = true := by simp
    clear hc h1 h2 hh hsz
    cases o with
    | none =>
      go_enter Tryz.func46, Tryz.ntmps46
      go_wp2_with fail
      refine (unhide HC _).mono ?_
      rintro e w1 ⟨rfl, b1⟩
      have B1 := hide b1
      clear b1
      go_wp2_with fail
      refine (unhide HT _).mono ?_
      rintro e w2 ⟨rfl, h2⟩
      subst h2
      go_wp2_with fail
      refine (unhide HN _).mono ?_
      rintro e w2 ⟨rfl, h2⟩
      subst h2
      simp only [annV]
      go_wp2
      go_ret2
      exact ⟨by rw [unhide HF]; rfl, unhide B1⟩
    | some n =>
      go_enter Tryz.func46, Tryz.ntmps46
      go_wp2_with fail
      refine (unhide HC _).mono ?_
      rintro e w1 ⟨rfl, b1⟩
      have B1 := hide b1
      clear b1
      go_wp2_with fail
      refine (unhide HT _).mono ?_
      rintro e w2 ⟨rfl, h2⟩
      subst h2
      go_wp2_with fail
      refine (unhide HN _).mono ?_
      rintro e w2 ⟨rfl, h2⟩
      subst h2
      simp only [annV]
      go_wp2
      go_ret2
      exact ⟨by rw [unhide HF]; rfl, unhide B1⟩
  | some p =>
    obtain ⟨l0, more⟩ := p
    rw [hc] at HC
    obtain ⟨hr, _⟩ := cutB_some hc
    have h1 := trimE_head (cutB_head hc hh)
    have h2 := trimE_len l0 13
    have hlen : s.size = l0.length + 1 + more.length := by rw [← hsz, hr]; simp; omega
    have HT := hide (fun W => trimSuffix_any (bts l0) 13 W (by rw [size_bts]; omega))
    rw [toList_bts] at HT
    have HN := hide (fun W => announced_any (bts (trimE l0 13)) W (by rw [size_bts]; exact h1) (by rw [size_bts]; omega))
    rw [toList_bts] at HN
    have hlt := fun m => annB_lt (r := (trimE l0 13).drop 1) (m := m)
    have HL : Hid (litA s.data.toList = match annB ((trimE l0 13).drop 1) with | none => none | some b => if more.length < b then none else some (more.take b, l0.length + 1 + b)) := hide (by
      rw [litA, hc]; rfl)
    generalize annB ((trimE l0 13).drop 1) = o at HN hlt HL
    generalize bts (trimE l0 13) = d at HT HN
    obtain ⟨D, hD⟩ : ∃ D, D = bts l0 := ⟨_, rfl⟩
    obtain ⟨M, hM⟩ : ∃ M, M = bts more := ⟨_, rfl⟩
    have hDz : D.size = l0.length := by rw [hD, size_bts]
    have hMz : M.size = more.length := by rw [hM, size_bts]
    have hMl : M.data.toList = more := by rw [hM, toList_bts]
    simp only at HC
    rw [← hD, ← hM] at HC
    rw [← hD] at HT
    rw [← hDz, ← hMz] at hlen
    rw [← hMl, ← hDz, hMl, ← hMz] at HL
    clear hD hM hDz hr hc h1 h2 hh
    have hq : ((s.size : Int) - (M.size : Int) == (D.size : Int)) = false := by rw [beq_eq_false_iff_ne]; omega
    have hle : M.size ≤ s.size := by omega
    have HLEN := hide hlen
    have hbm : decide (M.size < 0) = false := by simp
    clear hlen hbm
    cases o with
    | none =>
      have HF : Hid (litA s.data.toList = none) := hide (unhide HL)
      clear HL hlt hsz hMz hMl
      go_enter Tryz.func46, Tryz.ntmps46
      go_wp2_with fail
      refine (unhide HC _).mono ?_
      rintro e w1 ⟨rfl, b1⟩
      have B1 := hide b1
      clear b1
      go_wp2_with fail
      refine (unhide HT _).mono ?_
      rintro e w2 ⟨rfl, h2⟩
      subst h2
      go_wp2_with fail
      refine (unhide HN _).mono ?_
      rintro e w2 ⟨rfl, h2⟩
      subst h2
      simp only [annV]
      go_wp2
      go_ret2
      exact ⟨by rw [unhide HF]; rfl, unhide B1⟩
    | some n =>
      have hn := hlt n rfl
      have hL := unhide HL
      simp only at hL
      by_cases hm : M.size < n
      · rw [if_pos hm] at hL
        have HF : Hid (litA s.data.toList = none) := hide hL
        have hm' : (M.size : Int) < (n : Int) := by omega
        clear HL hL hlt hsz hMz hMl
        go_enter Tryz.func46, Tryz.ntmps46
        go_wp2_with fail
        refine (unhide HC _).mono ?_
        rintro e w1 ⟨rfl, b1⟩
        have B1 := hide b1
        clear b1
        go_wp2_with fail
        refine (unhide HT _).mono ?_
        rintro e w2 ⟨rfl, h2⟩
        subst h2
        go_wp2_with fail
        refine (unhide HN _).mono ?_
        rintro e w2 ⟨rfl, h2⟩
        subst h2
        simp only [annV]
        go_wp2
        go_ret2
        exact ⟨by rw [unhide HF]; rfl, unhide B1⟩
      · rw [if_neg hm] at hL
        have hm' : ¬ (M.size : Int) < (n : Int) := by omega
        obtain ⟨r, hr⟩ : ∃ r, r = M.extract 0 n := ⟨_, rfl⟩
        have hsl : ∀ W, (Instr.slice 9 (.string M) none (some (.int .i64 (n : Int))) none).run Tryz.prog W = .ok (.string r) W := fun W => by rw [hr]; exact slice_upto M n n rfl (by omega) W
        have hrl : bts (more.take n) = r := by
          apply ext_list
          rw [toList_bts, hr, toList_upto, hMl]
        have hrz : r.size ≤ 281474976710656 := by rw [hr, ByteArray.size_extract]; omega
        have HK := hide (fun W => lclone_any r W hrz)
        have HF : Hid (litV (litA s.data.toList) = .tuple #[.string r, .int .i64 ((D.size + 1 + n : Nat) : Int)]) := hide (by rw [hL]; simp only [litV]; rw [hrl])
        clear HL hL hlt hsz hr hrl hrz hMl hMz
        go_enter Tryz.func46, Tryz.ntmps46
        go_wp2_with fail
        refine (unhide HC _).mono ?_
        rintro e w1 ⟨rfl, b1⟩
        have B1 := hide b1
        clear b1
        go_wp2_with fail
        refine (unhide HT _).mono ?_
        rintro e w2 ⟨rfl, h2⟩
        subst h2
        go_wp2_with fail
        refine (unhide HN _).mono ?_
        rintro e w2 ⟨rfl, h2⟩
        subst h2
        simp only [annV]
        go_wp2_with fail
        refine (unhide HK _).mono ?_
        rintro e w3 ⟨rfl, b3⟩
        have B3 := hide ((unhide B1).trans (b3.mono (unhide B1).size))
        clear b3
        go_wp2
        go_ret2
        have hfin : (s.size : Int) - (M.size : Int) + (n : Int) = ((D.size + 1 + n : Nat) : Int) := by have := unhide HLEN; omega
        exact ⟨by rw [unhide HF, hfin]; rfl, unhide B3⟩
end Go.Proofs.YtihgmpebpkjmkaaGreatDoor
