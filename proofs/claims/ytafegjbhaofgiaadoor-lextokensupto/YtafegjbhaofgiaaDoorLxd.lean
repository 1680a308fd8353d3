/-
  What lex.quoted does, over this seat's program.
-/
import Derived.Test.YtafegjbhaofgiaaDoorLxc
set_option linter.unusedVariables false
namespace Go.Proofs.YtafegjbhaofgiaaDoor
open Go.RowKit Go.Proofs.Lx

/-- What is read of a quoted text, or nothing, as Go tells it. -/
def quoV (o : Option (List UInt8 × Nat)) : Value := match o with
  | some p => .tuple #[.string (bts p.1), .int .i64 ((p.2 + 1 : Nat) : Int)]
  | none => .tuple #[.string ⟨#[]⟩, .int .i64 0]
/-- What is still to be read, behind k bytes of which acc was made. -/
def QuR (s : ByteArray) (k : Nat) (acc : List UInt8) : Prop := quoA (s.data.toList.drop 1) = (quoA (s.data.toList.drop k)).map fun p => (acc ++ p.1, k - 1 + p.2)
/-- What the frame of quoted holds at its label. -/
def QuJ (s : ByteArray) (w : World) (a' : Act) (w' : World) : Prop :=
  ∃ (k : Nat) (acc : List UInt8) (u6 u7 u8 u9 u10 u11 u12 u13 u14 u15 u16 u17 u18 u19 u20 u21 u22 u23 u24 u25 u26 u27 u28 u29 u30 u31 u32 u33 u34 u35 u36 u37 u38 u39 u40 u41 u42 u43 u44 u45 u46 : Value), a' = { tmps := #[.string s, undef, .string ⟨#[]⟩, .int .i64 0, .pointer (some ⟨w.heap.size, 0, none⟩), .int .i64 k, u6, u7, u8, u9, u10, u11, u12, u13, u14, u15, u16, u17, u18, u19, u20, u21, u22, u23, u24, u25, u26, u27, u28, u29, u30, u31, u32, u33, u34, u35, u36, u37, u38, u39, u40, u41, u42, u43, u44, u45, u46], defers := [] } ∧ 1 ≤ k ∧ k ≤ s.size ∧ acc.length ≤ k ∧ Hid (QuR s k acc) ∧ Hid (Wr w w' acc)

theorem ret_quo {o : Option (List UInt8 × Nat)} {v : Value} (h : quoV o = v) : Ending.returned v = .returned (quoV o) := by rw [h]
theorem beqN (a k : Nat) (b : Bool) (h : decide (a = k) = b) : ((a : Int) == (k : Int)) = b := by rw [beq_dec, h]

set_option maxHeartbeats 2000000 in
set_option maxRecDepth 100000 in
theorem quoted_any (s : ByteArray) (w : World) (h1 : 1 ≤ s.size) (hs : s.size ≤ 1099511627000) :
    Calls Tryd.prog 44 #[.string s] w fun e w' => e = .returned (quoV (quoA (s.data.toList.drop 1))) ∧ Below w.heap.size w w' := by
  have HW0 := hide (Wr.new w)
  go_enter Tryd.func44, Tryd.ntmps44
  go_wp2
  refine wp_scope_one 0 (QuJ s w) (fun a' _ => s.size - (intOf (a'.tmps.getD 5 undef)).toNat) rfl ?_ ?_
  · intro hp
    go_wp2
    go_step3
    rename_i K hK
    exact hK _ _ (hp _ _ ⟨1, [], _, _, _, _, _, _, _, _, _, _, _, _, _, _, _, _, _, _, _, _, _, _, _, _, _, _, _, _, _, _, _, _, _, _, _, _, _, _, _, _, _, rfl, by omega, h1, by simp, hide (by unfold QuR; simp), HW0⟩)
  · rintro a' w' ⟨k, acc, u6, u7, u8, u9, u10, u11, u12, u13, u14, u15, u16, u17, u18, u19, u20, u21, u22, u23, u24, u25, u26, u27, u28, u29, u30, u31, u32, u33, u34, u35, u36, u37, u38, u39, u40, u41, u42, u43, u44, u45, u46, rfl, hk1, hk, hacc, HE, HW⟩
    clear HW0 h1
    by_cases hend : k = s.size
    · have hbe : ((k : Int) == (s.size : Int)) = true := by simp [hend]
      have hF := unhide HE
      unfold QuR at hF
      rw [drop_end s (k := k) (by omega), quoA] at hF
      have HF : Hid (quoA (s.data.toList.drop 1) = none) := hide hF
      have HB := hide (unhide HW).bel
      clear hF HE hend HW
      go_wp2
      simp only [Exit.jump]
      go_ret2
      exact ⟨by rw [unhide HF]; rfl, unhide HB⟩
    · have hlt : k < s.size := by omega
      have hbe : ((k : Int) == (s.size : Int)) = false := by simp; omega
      have hq := unhide HE
      unfold QuR at hq
      rw [drop_byte s k hlt, quoA.eq_def (s[k] :: s.data.toList.drop (k + 1))] at hq
      try simp only at hq
      have hc := s[k].toNat_lt
      by_cases c34 : s[k] = 34
      · have e1 : ((s[k].toNat : Int) == 34) = true := by rw [c34]; rfl
        rw [if_pos c34] at hq
        have HF : Hid (quoA (s.data.toList.drop 1) = some (acc, k)) := hide (by
          rw [hq]; simp; omega)
        have HS := hide (Tryd.Builder_String_any_k w.heap.size w.heap.size acc w' (unhide HW).isb (unhide HW).bel.size)
        have HB := hide (unhide HW).bel
        clear hq HE HW c34 hend
        go_wp2_with fail
        refine (unhide HS).mono ?_
        rintro e w2 ⟨rfl, _, hb2, _⟩
        have HB2 := hide ((unhide HB).trans hb2)
        clear hb2
        go_wp2
        simp only [Exit.jump]
        go_ret2
        exact ⟨by rw [unhide HF]; first | rfl | (simp only [quoV]; rfl), unhide HB2⟩
      · have e1 : ((s[k].toNat : Int) == 34) = false := by
          rw [beq_eq_false_iff_ne]; intro h
          exact c34 (UInt8.toNat_inj.1 (by have : (34 : UInt8).toNat = 34 := rfl; omega))
        rw [if_neg c34] at hq
        by_cases cnl : s[k] = 13 ∨ s[k] = 10
        · rw [if_pos cnl] at hq
          have HF : Hid (quoA (s.data.toList.drop 1) = none) := hide hq
          have HB := hide (unhide HW).bel
          have e2 : ((s[k].toNat : Int) == 13) = true ∨ (((s[k].toNat : Int) == 13) = false ∧ ((s[k].toNat : Int) == 10) = true) := by
            rcases cnl with h | h
            · left; rw [h]; rfl
            · right; rw [h]; exact ⟨rfl, rfl⟩
          clear hq HE HW c34 hend cnl
          rcases e2 with e2 | ⟨e2, e3⟩
          · go_wp2
            simp only [Exit.jump]
            go_ret2
            exact ⟨by rw [unhide HF]; rfl, unhide HB⟩
          · go_wp2
            simp only [Exit.jump]
            go_ret2
            exact ⟨by rw [unhide HF]; rfl, unhide HB⟩
        · rw [if_neg cnl] at hq
          have e2 : ((s[k].toNat : Int) == 13) = false := by
            rw [beq_eq_false_iff_ne]; intro h
            exact cnl (Or.inl (UInt8.toNat_inj.1 (by have : (13 : UInt8).toNat = 13 := rfl; omega)))
          have e3 : ((s[k].toNat : Int) == 10) = false := by
            rw [beq_eq_false_iff_ne]; intro h
            exact cnl (Or.inr (UInt8.toNat_inj.1 (by have : (10 : UInt8).toNat = 10 := rfl; omega)))
          by_cases c92 : s[k] = 92
          · have e4 : ((s[k].toNat : Int) == 92) = true := by rw [c92]; rfl
            rw [if_pos c92] at hq
            by_cases hk2 : k + 1 < s.size
            · have hbe2 : ((k : Int) + 1 == (s.size : Int)) = false := by rw [beq_eq_false_iff_ne]; omega
              have hk2' : (k : Int) + 1 < (s.size : Int) := by omega
              rw [drop_byte s (k + 1) hk2] at hq
              try simp only at hq
              have hc2 := s[k + 1].toNat_lt
              by_cases cd : s[k + 1] = 34 ∨ s[k + 1] = 92
              · rw [if_pos cd] at hq
                have HF : Hid (QuR s (k + 2) (acc ++ [s[k + 1]])) := hide (by
                  unfold QuR
                  rw [hq, Option.map_map]
                  congr 1
                  funext p
                  simp
                  omega)
                have HWB := hide (wByte (unhide HW) s[k + 1] (s[k + 1].toNat : Int) rfl (by omega))
                have e5 : ((s[k + 1].toNat : Int) != 34) = false ∨ (((s[k + 1].toNat : Int) != 34) = true ∧ ((s[k + 1].toNat : Int) != 92) = false) := by
                  rcases cd with h | h
                  · left; rw [h]; rfl
                  · right; rw [h]; exact ⟨rfl, rfl⟩
                clear hq HE HW c34 hend cnl cd c92
                rcases e5 with e5 | ⟨e5, e6⟩
                · go_wp2_with fail
                  refine (unhide HWB).mono ?_
                  rintro e w3 ⟨rfl, h3⟩
                  have HW3 := hide h3
                  clear h3 HWB
                  go_wp2
                  go_step3
                  refine ⟨rfl, ⟨k + 2, _, _, _, _, _, _, _, _, _, _, _, _, _, _, _, _, _, _, _, _, _, _, _, _, _, _, _, _, _, _, _, _, _, _, _, _, _, _, _, _, _, _, rfl, by omega, by omega, by simp; omega, HF, HW3⟩, ?_⟩
                  simp [intOf]
                  omega
                · go_wp2_with fail
                  refine (unhide HWB).mono ?_
                  rintro e w3 ⟨rfl, h3⟩
                  have HW3 := hide h3
                  clear h3 HWB
                  go_wp2
                  go_step3
                  refine ⟨rfl, ⟨k + 2, _, _, _, _, _, _, _, _, _, _, _, _, _, _, _, _, _, _, _, _, _, _, _, _, _, _, _, _, _, _, _, _, _, _, _, _, _, _, _, _, _, _, rfl, by omega, by omega, by simp; omega, HF, HW3⟩, ?_⟩
                  simp [intOf]
                  omega
              · rw [if_neg cd] at hq
                have HF : Hid (quoA (s.data.toList.drop 1) = none) := hide hq
                have HB := hide (unhide HW).bel
                have e5 : ((s[k + 1].toNat : Int) != 34) = true := by
                  rw [bne_iff_ne]; intro h
                  exact cd (Or.inl (UInt8.toNat_inj.1 (by have : (34 : UInt8).toNat = 34 := rfl; omega)))
                have e6 : ((s[k + 1].toNat : Int) != 92) = true := by
                  rw [bne_iff_ne]; intro h
                  exact cd (Or.inr (UInt8.toNat_inj.1 (by have : (92 : UInt8).toNat = 92 := rfl; omega)))
                clear hq HE HW c34 hend cnl cd c92
                go_wp2
                simp only [Exit.jump]
                go_ret2
                exact ⟨by rw [unhide HF]; rfl, unhide HB⟩
            · have hbe2 : ((k : Int) + 1 == (s.size : Int)) = true := by rw [beq_iff_eq]; omega
              rw [drop_end s (k := k + 1) (by omega)] at hq
              try simp only at hq
              have HF : Hid (quoA (s.data.toList.drop 1) = none) := hide hq
              have HB := hide (unhide HW).bel
              clear hq HE HW c34 hend cnl c92
              go_wp2
              simp only [Exit.jump]
              go_ret2
              exact ⟨by rw [unhide HF]; rfl, unhide HB⟩
          · have e4 : ((s[k].toNat : Int) == 92) = false := by
              rw [beq_eq_false_iff_ne]; intro h
              exact c92 (UInt8.toNat_inj.1 (by have : (92 : UInt8).toNat = 92 := rfl; omega))
            rw [if_neg c92] at hq
            have HF : Hid (QuR s (k + 1) (acc ++ [s[k]])) := hide (by
              unfold QuR
              rw [hq, Option.map_map]
              congr 1
              funext p
              simp
              omega)
            have HWB := hide (wByte (unhide HW) s[k] (s[k].toNat : Int) rfl (by omega))
            clear hq HE HW c34 hend cnl c92
            go_wp2_with fail
            refine (unhide HWB).mono ?_
            rintro e w3 ⟨rfl, h3⟩
            have HW3 := hide h3
            clear h3 HWB
            go_wp2
            go_step3
            refine ⟨rfl, ⟨k + 1, _, _, _, _, _, _, _, _, _, _, _, _, _, _, _, _, _, _, _, _, _, _, _, _, _, _, _, _, _, _, _, _, _, _, _, _, _, _, _, _, _, _, rfl, by omega, by omega, by simp; omega, HF, HW3⟩, ?_⟩
            simp [intOf]
            omega
end Go.Proofs.YtafegjbhaofgiaaDoor
