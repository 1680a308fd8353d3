/-
  What vari.scan, strings.Clone and vari.Get do, over this seat's program: they tell what the text begins with, and no older memory turns.
-/
import Derived.Test.YtpfmhlldkikbjaaDoorPu2
import Derived.ScopeJumps
import Derived.WalkMore
set_option linter.unusedVariables false
namespace Go.Proofs.YtpfmhlldkikbjaaDoor
open Go.RowKit Go.Proofs.Num

/-- A goto to label l0: J0; to label l1: J1; to any other: no way out. -/
def jumpTwoS (l0 l1 : Nat) (J0 J1 : Act → World → Prop) (Q : Exit → Act → World → Prop) : Exit → Act → World → Prop
  | .goto l', a, w => (l' = l0 ∧ J0 a w) ∨ (l' = l1 ∧ J1 a w)
  | e, a, w => Q e a w

section
variable {P : Program} {a : Act} {w : World} {Q : Exit → Act → World → Prop}

/-- A scope with two labels: the run comes back to the first one, each time with less to do, and may leave by the second one, behind which no goto stands. -/
theorem wp_scope_two {c rest0 rest1 : Code} (l0 l1 : Nat) (J0 J1 : Act → World → Prop) (μ : Act → World → Nat) (hf0 : findLabel c l0 = some (Code.skip.seq rest0)) (hf1 : findLabel c l1 = some rest1)
    (first : (∀ a w, J0 a w → rest0.wp P (jumpTwoS l0 l1 J0 J1 Q) a w) → c.wp P (jumpTwoS l0 l1 J0 J1 Q) a w)
    (pass : ∀ a w, J0 a w → rest0.wp P (jumpTwoS l0 l1 (fun a' w' => J0 a' w' ∧ μ a' w' < μ a w) J1 Q) a w)
    (last : ∀ a w, J1 a w → rest1.wp P (jumpTwoS l0 l1 (fun _ _ => False) (fun _ _ => False) Q) a w) : (Code.scope c).wp P Q a w := by
  have pass' : ∀ a w, J0 a w → (Code.skip.seq rest0).wp P (jumpTwoS l0 l1 (fun a' w' => J0 a' w' ∧ μ a' w' < μ a w) J1 Q) a w := fun a w h => wp_seq (wp_skip (pass a w h))
  intro b k cs
  have hg0 : gotoIn l0 (.inScope c :: k) = some (.code (Code.skip.seq rest0) :: .inScope c :: k) := by simp [gotoIn, hf0]
  have hg1 : gotoIn l1 (.inScope c :: k) = some (.code rest1 :: .inScope c :: k) := by simp [gotoIn, hf1]
  have key1 : ∀ a w, J1 a w → ∃ e a' w', Q e a' w' ∧ Arrives P (lone (b.at a (.code rest1 :: .inScope c :: k)) cs w) b k cs e a' w' := by
    intro a w hJ
    obtain ⟨e, a₁, w₁, hq, harr⟩ := last a w hJ b (.inScope c :: k) cs
    cases e with
    | normal => exact ⟨.normal, a₁, w₁, hq, Steps.trans harr (.one step_inScope)⟩
    | exit id => exact ⟨.exit id, a₁, w₁, hq, fun k' hk => harr k' (by simp [exitTo, hk])⟩
    | goto l' => rcases hq with ⟨_, h⟩ | ⟨_, h⟩ <;> exact h.elim
    | ret => exact ⟨_, a₁, w₁, hq, harr⟩
    | panic ch => exact ⟨_, a₁, w₁, hq, harr⟩
    | outgrown => exact ⟨_, a₁, w₁, hq, harr⟩
  have key0 : ∀ n a w, μ a w = n → J0 a w → ∃ e a' w', Q e a' w' ∧ Arrives P (lone (b.at a (.code (Code.skip.seq rest0) :: .inScope c :: k)) cs w) b k cs e a' w' := by
    intro n
    induction n using Nat.strongRecOn with
    | _ n ih =>
      intro a w hn hJ
      obtain ⟨e, a₁, w₁, hq, harr⟩ := pass' a w hJ b (.inScope c :: k) cs
      cases e with
      | normal => exact ⟨.normal, a₁, w₁, hq, Steps.trans harr (.one step_inScope)⟩
      | exit id => exact ⟨.exit id, a₁, w₁, hq, fun k' hk => harr k' (by simp [exitTo, hk])⟩
      | goto l' =>
        rcases hq with ⟨rfl, hJ', hlt⟩ | ⟨rfl, hJ'⟩
        · obtain ⟨e₂, a₂, w₂, hq₂, harr₂⟩ := ih _ (by omega) a₁ w₁ rfl hJ'
          exact ⟨e₂, a₂, w₂, hq₂, .of_steps (harr _ hg0) harr₂⟩
        · obtain ⟨e₂, a₂, w₂, hq₂, harr₂⟩ := key1 a₁ w₁ hJ'
          exact ⟨e₂, a₂, w₂, hq₂, .of_steps (harr _ hg1) harr₂⟩
      | ret => exact ⟨_, a₁, w₁, hq, harr⟩
      | panic ch => exact ⟨_, a₁, w₁, hq, harr⟩
      | outgrown => exact ⟨_, a₁, w₁, hq, harr⟩
  have hp : ∀ a w, J0 a w → rest0.wp P (jumpTwoS l0 l1 J0 J1 Q) a w := fun a w h => wp_mono (pass a w h) fun e a' w' hq => by
    cases e with
    | goto l' => rcases hq with ⟨e, hj, _⟩ | h2
                 · exact Or.inl ⟨e, hj⟩
                 · exact Or.inr h2
    | _ => exact hq
  obtain ⟨e, a₁, w₁, hq, harr⟩ := first hp b (.inScope c :: k) cs
  cases e with
  | normal => exact ⟨.normal, a₁, w₁, hq, .head step_scope (Steps.trans harr (.one step_inScope))⟩
  | exit id => exact ⟨.exit id, a₁, w₁, hq, fun k' hk => .head step_scope (harr k' (by simp [exitTo, hk]))⟩
  | goto l' =>
    rcases hq with ⟨rfl, hJ'⟩ | ⟨rfl, hJ'⟩
    · obtain ⟨e₂, a₂, w₂, hq₂, harr₂⟩ := key0 _ a₁ w₁ rfl hJ'
      exact ⟨e₂, a₂, w₂, hq₂, .of_steps (.head step_scope (harr _ hg0)) harr₂⟩
    · obtain ⟨e₂, a₂, w₂, hq₂, harr₂⟩ := key1 a₁ w₁ hJ'
      exact ⟨e₂, a₂, w₂, hq₂, .of_steps (.head step_scope (harr _ hg1)) harr₂⟩
  | ret => exact ⟨_, a₁, w₁, hq, .of_steps (.one step_scope) harr⟩
  | panic ch => exact ⟨_, a₁, w₁, hq, .of_steps (.one step_scope) harr⟩
  | outgrown => exact ⟨_, a₁, w₁, hq, .of_steps (.one step_scope) harr⟩
end

/-- What the frame of scan holds at its label 'next', k bytes read. -/
def Nxt (s : ByteArray) (w : World) (a' : Act) (w' : World) : Prop :=
  w' = w ∧ ∃ (k n : Nat) (u7 u8 u9 u10 u11 u12 u13 u14 u15 u16 u17 u18 u19 u20 u21 u22 u23 u24 u25 u26 u27 u28 u29 u30 u31 u32 u33 u34 u35 u36 u37 u38 u39 u40 : Value), a' = { tmps := #[.string s, undef, .int .u64 0, .int .i64 0, .int .i64 0, .int .u64 n, .int .i64 k, u7, u8, u9, u10, u11, u12, u13, u14, u15, u16, u17, u18, u19, u20, u21, u22, u23, u24, u25, u26, u27, u28, u29, u30, u31, u32, u33, u34, u35, u36, u37, u38, u39, u40], defers := [] } ∧ k ≤ s.size ∧ k ≤ 9 ∧ n < 2 ^ (7 * k) ∧ scanFrom (s.data.toList.drop k) k n = scanL s.data.toList
/-- .. and at its label 'wrong'. -/
def Wrg (s : ByteArray) (w : World) (a' : Act) (w' : World) : Prop :=
  w' = w ∧ ∃ (u5 u6 u7 u8 u9 u10 u11 u12 u13 u14 u15 u16 u17 u18 u19 u20 u21 u22 u23 u24 u25 u26 u27 u28 u29 u30 u31 u32 u33 u34 u35 u36 u37 u38 u39 u40 : Value), a' = { tmps := #[.string s, undef, .int .u64 0, .int .i64 0, .int .i64 0, u5, u6, u7, u8, u9, u10, u11, u12, u13, u14, u15, u16, u17, u18, u19, u20, u21, u22, u23, u24, u25, u26, u27, u28, u29, u30, u31, u32, u33, u34, u35, u36, u37, u38, u39, u40], defers := [] } ∧ scanL s.data.toList = (0, 0, 7)

theorem joinE_lt (n c k : Nat) (hn : n < 2 ^ (7 * k)) : n + c % 128 * 2 ^ (7 * k) < 2 ^ (7 * (k + 1)) := by
  have e : 2 ^ (7 * (k + 1)) = 128 * 2 ^ (7 * k) := by rw [show 7 * (k + 1) = 7 + 7 * k by omega, Nat.pow_add]
  have hmul : c % 128 * 2 ^ (7 * k) ≤ 127 * 2 ^ (7 * k) := Nat.mul_le_mul_right _ (by omega)
  rw [e]; omega

theorem joinE_u64 (n c k : Nat) (hk : k ≤ 9) (hn : n < 2 ^ (7 * k)) (hc : c < 256) (h9 : k = 9 → c ≤ 1) : n + c % 128 * 2 ^ (7 * k) < 18446744073709551616 := by
  rcases Nat.lt_or_ge k 9 with h' | h'
  · have h1 := joinE_lt n c k hn
    have hp : 2 ^ (7 * (k + 1)) ≤ 2 ^ (7 * 9) := Nat.pow_le_pow_right (by decide) (by omega)
    have h63 : (2 : Nat) ^ (7 * 9) = 9223372036854775808 := by decide
    omega
  · have hk9 : k = 9 := by omega
    subst hk9
    have h63 : (2 : Nat) ^ (7 * 9) = 9223372036854775808 := by decide
    have := h9 rfl
    rw [h63] at hn ⊢
    omega

theorem wrap_u64 (n : Nat) (h : n < 18446744073709551616) : IntKind.u64.wrap (n : Int) = n := by
  simp [IntKind.wrap, IntKind.bits, IntKind.signed]; omega

theorem joinE (n c k : Nat) (hk : k ≤ 9) (hn : n < 2 ^ (7 * k)) (hc : c < 256) (h9 : k = 9 → c ≤ 1) :
    bits .or .u64 (n : Int) (IntKind.u64.wrap (IntKind.u64.wrap (bits .and .u8 (c : Int) 127) * 2 ^ (7 * k))) = ((n + c % 128 * 2 ^ (7 * k) : Nat) : Int) := by
  have hu := joinE_u64 n c k hk hn hc h9
  have e1 : bits .and .u8 (c : Int) 127 = ((c % 128 : Nat) : Int) := (u8_and_nat c 127 hc (by omega)).trans (by rw [nat_mask7])
  rw [e1, wrap_u64 _ (by omega), show (((c % 128 : Nat) : Int) * 2 ^ (7 * k)) = ((c % 128 * 2 ^ (7 * k) : Nat) : Int) by simp, wrap_u64 _ (by omega)]
  refine (u64_or_nat _ _ (by omega) (by omega)).trans ?_
  rw [Nat.or_comm, nat_join (7 * k) _ n (Nat.mul_mod_left _ _) hn, Nat.add_comm]

set_option maxHeartbeats 1000000 in
set_option maxRecDepth 100000 in
theorem scan_any (s : ByteArray) (w : World) (hs : s.size ≤ maxLen) :
    Calls Tryd.prog 39 #[.string s] w fun e w' => e = .returned (.tuple #[.int .u64 (scanL s.data.toList).1, .int .i64 (scanL s.data.toList).2.1, .int .i64 (scanL s.data.toList).2.2]) ∧ w' = w := by
  unfold maxLen at hs
  go_enter Tryd.func39, Tryd.ntmps39
  go_wp2
  refine wp_scope_two 0 1 (Nxt s w) (Wrg s w) (fun a' _ => (10 - intOf (a'.tmps.getD 6 undef)).toNat) rfl rfl ?_ ?_ ?_
  · intro hp
    go_wp2
    go_step3
    rename_i K hK
    exact hK _ _ (hp _ _ ⟨rfl, 0, 0, _, _, _, _, _, _, _, _, _, _, _, _, _, _, _, _, _, _, _, _, _, _, _, _, _, _, _, _, _, _, _, _, _, _, rfl, Nat.zero_le _, by omega, by decide, rfl⟩)
  · rintro a' w' ⟨rfl, k, n, u7, u8, u9, u10, u11, u12, u13, u14, u15, u16, u17, u18, u19, u20, u21, u22, u23, u24, u25, u26, u27, u28, u29, u30, u31, u32, u33, u34, u35, u36, u37, u38, u39, u40, rfl, hk, hk9, hn, hsc⟩
    have HS := hide hsc
    have HN := hide hn
    clear hsc hn
    by_cases hend : k = s.size
    · have hb : ((k : Int) == (s.size : Int)) = true := by simp [hend]
      have hfin : scanL s.data.toList = (0, 0, 5) := by rw [← unhide HS, hend, drop_end s (Nat.le_refl _)]; rfl
      have HF := hide hfin
      clear hfin hend
      go_wp2
      simp only [jumpTwoS]
      go_ret3
      exact ⟨by rw [unhide HF]; rfl, rfl⟩
    · have hlt : k < s.size := by omega
      have hb : ((k : Int) == (s.size : Int)) = false := by simp; omega
      have hc := s[k].toNat_lt
      have hdrop := drop_byte s k hlt
      by_cases h9 : k = 9 ∧ 1 < s[k].toNat
      · have hb9 : ((k : Int) == 9) = true := by simp [h9.1]
        have hb1 : 1 < s[k].toNat := h9.2
        have hfin : scanL s.data.toList = (0, 0, 7) := by rw [← unhide HS, hdrop, scanFrom, if_pos h9]
        have HF := hide hfin
        clear hfin h9 hdrop
        go_wp2
        go_step3
        exact Or.inr ⟨rfl, rfl, _, _, _, _, _, _, _, _, _, _, _, _, _, _, _, _, _, _, _, _, _, _, _, _, _, _, _, _, _, _, _, _, _, _, _, _, rfl, unhide HF⟩
      · have h9c : k = 9 → s[k].toNat ≤ 1 := fun e => by omega
        have HJ := hide (joinE n s[k].toNat k (by omega) (unhide HN) hc h9c)
        by_cases h128 : 128 ≤ s[k].toNat
        · have hk8 : k ≤ 8 := by omega
          have hb9 : ((k : Int) == 9) = false := by simp; omega
          have hfin : scanFrom (s.data.toList.drop (k + 1)) (k + 1) (n + s[k].toNat % 128 * 2 ^ (7 * k)) = scanL s.data.toList := by rw [← unhide HS, hdrop, scanFrom, if_neg h9, if_pos h128]
          have HF := hide hfin
          clear hfin h9 h9c hdrop
          go_wp2
          go_step3
          rw [unhide HJ]
          refine Or.inl ⟨rfl, ⟨rfl, k + 1, _, _, _, _, _, _, _, _, _, _, _, _, _, _, _, _, _, _, _, _, _, _, _, _, _, _, _, _, _, _, _, _, _, _, _, rfl, by omega, by omega, joinE_lt n _ k (unhide HN), unhide HF⟩, ?_⟩
          simp [intOf]
          omega
        · by_cases hz : s[k].toNat = 0 ∧ 0 < k
          · have hfin : scanL s.data.toList = (0, 0, 7) := by rw [← unhide HS, hdrop, scanFrom, if_neg h9, if_neg h128, if_pos hz]
            have HF := hide hfin
            have hz0 : ((s[k].toNat : Int) == 0) = true := by simp [hz.1]
            have hz1 : 0 < k := hz.2
            have hz2 : s[k].toNat ≤ 1 := by omega
            clear hfin h9 h9c hdrop hz
            by_cases h9' : k = 9
            · have hb9 : ((k : Int) == 9) = true := by simp [h9']
              clear h9'
              go_wp2
              go_step3
              exact Or.inr ⟨rfl, rfl, _, _, _, _, _, _, _, _, _, _, _, _, _, _, _, _, _, _, _, _, _, _, _, _, _, _, _, _, _, _, _, _, _, _, _, _, rfl, unhide HF⟩
            · have hb9 : ((k : Int) == 9) = false := by simp; omega
              go_wp2
              go_step3
              exact Or.inr ⟨rfl, rfl, _, _, _, _, _, _, _, _, _, _, _, _, _, _, _, _, _, _, _, _, _, _, _, _, _, _, _, _, _, _, _, _, _, _, _, _, rfl, unhide HF⟩
          · have hfin : scanL s.data.toList = (n + s[k].toNat % 128 * 2 ^ (7 * k), k + 1, 0) := by rw [← unhide HS, hdrop, scanFrom, if_neg h9, if_neg h128, if_neg hz]
            have HF := hide hfin
            by_cases h9' : k = 9
            · have hb9 : ((k : Int) == 9) = true := by simp [h9']
              have hz0 : ((s[k].toNat : Int) == 0) = false := by simp; omega
              have hz2 : s[k].toNat ≤ 1 := by omega
              clear h9' hfin h9 h9c hdrop hz
              go_wp2
              simp only [jumpTwoS]
              go_ret3
              refine ⟨?_, rfl⟩
              rw [unhide HF, unhide HJ]
              rfl
            · have hb9 : ((k : Int) == 9) = false := by simp; omega
              by_cases hz0 : s[k].toNat = 0
              · have hz1 : ((s[k].toNat : Int) == 0) = true := by simp [hz0]
                have hk1 : ¬ 0 < k := by omega
                clear hfin h9 h9c hdrop hz hz0
                go_wp2
                simp only [jumpTwoS]
                go_ret3
                refine ⟨?_, rfl⟩
                rw [unhide HF, unhide HJ]
                rfl
              · have hz1 : ((s[k].toNat : Int) == 0) = false := by simp; omega
                clear hfin h9 h9c hdrop hz hz0
                go_wp2
                simp only [jumpTwoS]
                go_ret3
                refine ⟨?_, rfl⟩
                rw [unhide HF, unhide HJ]
                rfl
  · rintro a' w' ⟨rfl, u5, u6, u7, u8, u9, u10, u11, u12, u13, u14, u15, u16, u17, u18, u19, u20, u21, u22, u23, u24, u25, u26, u27, u28, u29, u30, u31, u32, u33, u34, u35, u36, u37, u38, u39, u40, rfl, hfin⟩
    have HF := hide hfin
    clear hfin
    go_wp2
    simp only [jumpTwoS]
    go_ret3
    exact ⟨by rw [unhide HF]; rfl, rfl⟩

set_option maxHeartbeats 400000 in
/-- strings.Clone answers the same bytes. -/
theorem cloneV_any (s : ByteArray) (w : World) (hs : s.size ≤ 281474976710656) :
    Calls Tryd.prog 27 #[.string s] w fun e w' => e = .returned (.string s) ∧ Below w.heap.size w w' := by
  go_enter Tryd.func27, Tryd.ntmps27
  go_wp2_with (go_at_call 48; refine (Tryd.stringslite_Clone s _ hs).mono ?_)
  rintro e w1 ⟨rfl, hb⟩
  go_wp2
  go_ret
  exact ⟨rfl, hb⟩

/-- What is behind the number that s begins with; nothing, if it begins with none. -/
def restOf (s : ByteArray) : ByteArray := if (scanL s.data.toList).2.2 = 0 then s.extract (scanL s.data.toList).2.1 s.size else ByteArray.empty

set_option maxHeartbeats 400000 in
/-- vari.Get tells the number that s begins with, and what is behind it, or the error. -/
theorem get_any (s : ByteArray) (w : World) (hs : s.size ≤ 281474976710656) :
    Calls Tryd.prog 14 #[.string s] w fun e w' => e = .returned (.tuple #[.int .u64 (scanL s.data.toList).1, .string (restOf s), .int .i64 (scanL s.data.toList).2.2]) ∧ Below w.heap.size w w' := by
  have hle := scanL_le s.data.toList
  have hsz : s.data.toList.length = s.size := Array.length_toList ..
  obtain ⟨m, k, e0, hsc⟩ : ∃ m k e0, scanL s.data.toList = (m, k, e0) := ⟨_, _, _, rfl⟩
  have hno := scanL_no s.data.toList
  have hrest : restOf s = if e0 = 0 then s.extract k s.size else ByteArray.empty := by simp [restOf, hsc]
  have hscan := scan_any s w (by unfold maxLen; omega)
  rw [hsc] at hno hle hscan ⊢
  simp only at hno hle
  rw [hsz] at hle
  obtain ⟨hk, hk10, hm⟩ := hle
  have HC := hide hscan
  clear hsc hsz hscan
  by_cases he : e0 = 0
  · subst he
    rw [if_pos rfl] at hrest
    have HR := hide hrest
    clear hrest hno
    have hext : (s.extract k s.size).size ≤ 281474976710656 := by rw [ByteArray.size_extract]; omega
    go_enter Tryd.func14, Tryd.ntmps14
    go_wp2_with (first | (go_at_call 39; refine (unhide HC).mono ?_; rintro e w1 ⟨rfl, rfl⟩) | (go_at_call 27; refine (cloneV_any (s.extract k s.size) _ hext).mono ?_; rintro e w2 ⟨rfl, hb⟩))
    go_ret3
    exact ⟨by rw [unhide HR]; rfl, hb⟩
  · rw [if_neg he] at hrest
    have hne : ((e0 : Int) == 0) = false := by simp; omega
    have hm0 : m = 0 := by
      rcases hno with h | h | h
      · exact absurd h he
      · simp at h; exact h.1
      · simp at h; exact h.1
    subst hm0
    have HR := hide hrest
    clear hrest hno he
    go_enter Tryd.func14, Tryd.ntmps14
    go_wp2_with (go_at_call 39; refine (unhide HC).mono ?_; rintro e w1 ⟨rfl, rfl⟩)
    go_ret3
    exact ⟨by rw [unhide HR]; rfl, Below.refl _ _⟩
end Go.Proofs.YtpfmhlldkikbjaaDoor
