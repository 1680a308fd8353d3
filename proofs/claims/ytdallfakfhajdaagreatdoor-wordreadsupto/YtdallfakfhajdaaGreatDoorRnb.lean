/-
  What missiveref06.next does, over this seat's program: the letter that bytes begin with.
-/
import Derived.Test.YtdallfakfhajdaaGreatDoorBnd5
import Derived.Test.YtdallfakfhajdaaGreatDoorRsm
import Derived.Test.YtdallfakfhajdaaGreatDoorRnp
set_option linter.unusedVariables false
namespace Go.Proofs.YtdallfakfhajdaaGreatDoor
open Go.RowKit Go.Proofs.Rns Go.Proofs.Nxr

set_option maxHeartbeats 20000000 in
set_option maxRecDepth 100000 in
theorem refNext_2 (s : ByteArray) (w : World) (h0 : 0 < s.size) (hs : s.size ≤ 40000000) (hc : 192 ≤ s[0].toNat ∧ s[0].toNat < 224) :
    Calls Tryz.prog 118 #[.string s] w fun e w' => e = .returned (.tuple #[.int .i32 ((nextL s.data.toList).1 : Int), .int .i64 ((nextL s.data.toList).2 : Int)]) ∧ Below w.heap.size w w' := by
  have hsl := sizeL s
  have hne : s.data.toList ≠ [] := by intro e; rw [e] at hsl; simp at hsl; omega
  have hb := bAt_byte s 0 h0
  have hb256 := s[0].toNat_lt
  have hm : manyR (bAt s.data.toList 0) = 2 := by
    rw [hb]; unfold manyR
    rw [if_neg (by omega), if_neg (by omega), if_pos (by omega)]
  have hl0 : numR s.data.toList 0 = s[0].toNat - 192 := by
    simp only [numR, leadR]; rw [hb]
    rw [if_neg (by omega), if_neg (by omega), if_pos (by omega)]
  have h0' : (0 : Int) < (s.size : Int) := by omega
  obtain ⟨c, hcc⟩ : ∃ c, s[0].toNat = c := ⟨_, rfl⟩
  have HCC := hide hcc
  rw [hcc] at hc hl0 hb256
  by_cases hlen : s.size < 2
  · have hno := next_no hne (by intro hk; have := hk.1; rw [hm, hsl] at this; omega)
    rw [hno]
    have hlen' : (s.size : Int) < 2 := by omega
    clear hno hm hb hne hsl hl0
    have e1 : (192 : Int) ≤ (s[0].toNat : Int) := by omega
    have e2 : (s[0].toNat : Int) < 224 := by omega
    have e3 : ¬ (224 : Int) ≤ (s[0].toNat : Int) := by omega
    have e4 : ¬ (240 : Int) ≤ (s[0].toNat : Int) := by omega
    have e5 : (s[0].toNat : Int) < 240 := by omega
    have e6 : (s[0].toNat : Int) < 248 := by omega
    go_enter Tryz.func118, Tryz.ntmps118
    go_wp2
    go_ret2
    exact ⟨rfl, Below.refl _ _⟩
  · have hlen' : ¬ (s.size : Int) < 2 := by omega
    have HNE := hide hne
    have HM := hide hm
    have HSL := hide hsl
    have e1 : (192 : Int) ≤ (s[0].toNat : Int) := by omega
    have e2 : (s[0].toNat : Int) < 224 := by omega
    have e3 : ¬ (224 : Int) ≤ (s[0].toNat : Int) := by omega
    have e4 : ¬ (240 : Int) ≤ (s[0].toNat : Int) := by omega
    have e5 : (s[0].toNat : Int) < 240 := by omega
    have e6 : (s[0].toNat : Int) < 248 := by omega
    have HL0 := hide hl0
    clear hm hb hne hsl hl0
    go_enter Tryz.func118, Tryz.ntmps118
    go_wp2
    go_loopw [4, 6] (fun y z wr => ∃ i n : Nat, z = .int .i64 i ∧ y = .int .i32 n ∧ 1 ≤ i ∧ i ≤ 2 ∧ Hid (n = numR s.data.toList (i - 1)) ∧ Bnd i n ∧ wr = w) (fun _ z _ => 4 - (intOf z).toNat)
    case atStart => exact ⟨1, c - 192, rfl, by have := unhide HCC; simp only [Value.int.injEq, true_and]; omega, Nat.le_refl _, by omega, hide (unhide HL0).symm, Or.inl ⟨rfl, by omega⟩, rfl⟩
    case round =>
      obtain ⟨i, n, rfl, rfl, hi1, hi2, HN, hbd, rfl⟩ := hrel
      by_cases hit : i < 2
      · have hit' : (i : Int) < 2 := by omega
        have hil : i < s.size := by omega
        have hil' : (i : Int) < (s.size : Int) := by omega
        have hbi := bAt_byte s i hil
        have hnx : 64 * n + s[i].toNat % 64 = numR s.data.toList (i + 1 - 1) := by
          obtain ⟨j, rfl⟩ : ∃ j, i = j + 1 := ⟨i - 1, by omega⟩
          simp only [Nat.add_sub_cancel, numR]
          rw [hbi, unhide HN]
          rfl
        have HNX := hide hnx
        have hbd2 : Bnd (i + 1) (64 * n + s[i].toNat % 64) := by
          unfold Bnd at hbd ⊢
          omega
        have hn6 : n < 131072 := by unfold Bnd at hbd; omega
        have HBD := hide hbd2
        have hx := s[i].toNat_lt
        clear hnx hbd2 hbd hbi
        go_wp2
        exact ⟨⟨i + 1, 64 * n + s[i].toNat % 64, by go_num, by go_num, by omega, by omega, HNX, unhide HBD, trivial⟩, by simp [intOf]; omega⟩
      · have hiM : i = 2 := by omega
        have hit' : ¬ (i : Int) < 2 := by omega
        have hn6 : n < 8388608 := by unfold Bnd at hbd; omega
        have hnum : numR s.data.toList (2 - 1) = n := by have := unhide HN; rw [hiM] at this; exact this.symm
        have HIS := hide (fun W => is_any (n : Int) W)
        have hM := unhide HM
        have hsM : (2 : Int) ≤ (s.size : Int) := by omega
        cases hil : isL (n : Int) with
        | false =>
          have hno := next_no (unhide HNE) (by intro hk; have := hk.2.1; rw [hM, hnum, hil] at this; cases this)
          rw [hil] at HIS
          have HNO := hide hno
          clear hno hnum hM hil hbd
          go_wp2
          go_quiet ((go_at_call 42; exact Calls.quiet_of_same (unhide HIS _)))
          go_wp2
          go_ret2
          exact ⟨by rw [unhide HNO]; rfl, below_drewN (Below.refl _ _) _⟩
        | true =>
          have HONE := hide (fun W => oneB_any (n : Int) W hil)
          rw [hil] at HIS
          have hte : (s.extract 0 2).data.toList = s.data.toList.take 2 := toList_upto s 2
          obtain ⟨x, hx⟩ : ∃ x, bts (Lib.encodeRune (n : Int)) = x := ⟨_, rfl⟩
          rw [hx] at HONE
          have hyb := beqS x (s.extract 0 2)
          by_cases hxy : x = s.extract 0 2
          · have hok : okR s.data.toList := ⟨by rw [hM, unhide HSL]; omega, by rw [hM, hnum]; exact hil, by rw [hM, hnum, ← hte, ← hxy, ← hx, toList_bts]⟩
            have hno := next_ok hok
            rw [hM, hnum] at hno
            have HNO := hide hno
            rw [decide_eq_true hxy] at hyb
            clear hno hok hnum hM hil hte hx hxy hbd
            go_wp2
            go_region_with (first | (go_at_call 42; refine (unhide HIS _).mono ?_; rintro e w2 ⟨rfl, rfl⟩) | (go_at_call 85; refine (unhide HONE _).mono ?_; rintro e w2 ⟨rfl, b2⟩))
            all_goals
              have HB5 := hide b2
              clear b2
              go_wp2
              go_ret2
              refine ⟨by rw [unhide HNO]; rfl, ?_⟩
              have h := unhide HB5
              exact ⟨h.os, h.tape, h.output, h.size, h.block⟩
          · have hno := next_no (unhide HNE) (by
              intro hk
              have := hk.2.2
              rw [hM, hnum, ← hte] at this
              exact hxy (by rw [← hx]; apply ext_list; rw [toList_bts]; exact this))
            have HNO := hide hno
            rw [decide_eq_false hxy] at hyb
            clear hno hnum hM hil hte hx hxy hbd
            go_wp2
            go_region_with (first | (go_at_call 42; refine (unhide HIS _).mono ?_; rintro e w2 ⟨rfl, rfl⟩) | (go_at_call 85; refine (unhide HONE _).mono ?_; rintro e w2 ⟨rfl, b2⟩))
            all_goals
              have HB5 := hide b2
              clear b2
              go_wp2
              go_ret2
              refine ⟨by rw [unhide HNO]; rfl, ?_⟩
              have h := unhide HB5
              exact ⟨h.os, h.tape, h.output, h.size, h.block⟩
end Go.Proofs.YtdallfakfhajdaaGreatDoor
