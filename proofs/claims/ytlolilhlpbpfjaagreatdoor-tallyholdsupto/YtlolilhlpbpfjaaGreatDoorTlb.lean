/-
  What tally.isWanted tells, over this seat's program.
-/
import Derived.Test.YtlolilhlpbpfjaaGreatDoorTla
set_option linter.unusedVariables false
set_option linter.unusedSimpArgs false
namespace Go.Proofs.YtlolilhlpbpfjaaGreatDoor
open Go.RowKit Go.Proofs.Nst

set_option maxHeartbeats 400000 in
theorem wants_any (w k : Nat) (q : Int) (hq : q = (k : Int)) (hw : w ≤ 255) (hk : k ≤ 255) (B : Nat) (W : World) (hB : W.cell? ⟨B, 0, none⟩ = some (.int .u8 (w : Int))) :
    Calls Tryz.prog 48 #[.int .u8 q, .pointer (some ⟨B, 0, none⟩)] W fun e w' => e = .returned (.bool (bitW w k)) ∧ w' = W := by
  have hb := bit_eq w k hw hk
  subst hq
  go_enter Tryz.func48, Tryz.ntmps48
  go_wp2
  go_ret
  exact ⟨by simp [bne, hb], rfl⟩

set_option maxHeartbeats 4000000 in
set_option maxRecDepth 100000 in
theorem isWanted_any (t : Tly) (a : Option Addr) (n cap : Nat) (w : World) (hf : FitT t) (hn : n = t.all.length) :
    Calls Tryz.prog 32 #[tlV t (.slice a n cap)] w fun e w' => e = .returned (.bool (wanted t)) ∧ Below w.heap.size w w' := by
  obtain ⟨wt, mn, lo, hi, al⟩ := t
  obtain ⟨f1, _, f2, f3⟩ := hf
  simp only at f1 f2 f3 hn
  have HA := hide (show Below w.heap.size w (w.alloc (.cells #[.int .u8 (wt : Int), .int .i64 mn, .int .u32 (lo : Int), .int .u32 (hi : Int), .slice a n cap] 28)) from (Below.refl _ w).alloc (Nat.le_refl _) _)
  have hW : ∀ (k : Nat) (q : Int), q = (k : Int) → k ≤ 255 → ∀ ty, Calls Tryz.prog 48 #[.int .u8 q, .pointer (some ⟨w.heap.size, 0, none⟩)] (w.alloc (.cells #[.int .u8 (wt : Int), .int .i64 mn, .int .u32 (lo : Int), .int .u32 (hi : Int), .slice a n cap] ty)) fun e w' => e = .returned (.bool (bitW wt k)) ∧ w' = w.alloc (.cells #[.int .u8 (wt : Int), .int .i64 mn, .int .u32 (lo : Int), .int .u32 (hi : Int), .slice a n cap] ty) :=
    fun k q hq hk ty => wants_any wt k q hq f1 hk _ _ ((Blk.new w ty _).cell 0)
  have H1 := hide (hW 1 1 rfl (by decide) 28)
  have H2 := hide (hW 2 2 rfl (by decide) 28)
  have H4 := hide (hW 4 4 rfl (by decide) 28)
  have H8 := hide (hW 8 8 rfl (by decide) 28)
  obtain ⟨R, hR⟩ : ∃ R, wanted ⟨wt, mn, lo, hi, al⟩ = R := ⟨_, rfl⟩
  rw [hR]
  simp only [wanted, ← hn] at hR
  have HR := hide hR
  simp only [tlV, tlC]
  clear hW hR hn f1 f2 f3
  go_enter Tryz.func32, Tryz.ntmps32
  go_wp2_with fail
  refine (unhide H1).mono ?_
  rintro e w1 ⟨rfl, rfl⟩
  rcases hB1 : bitW wt 1
  · have B1 := hide hB1
    clear hB1
    by_cases e1 : lo = 0
    · have d1 : ((lo : Int) == 0) = true := by simp [e1]
      have E1 := hide e1
      clear e1
      go_wp2_with fail
      refine (unhide H2).mono ?_
      rintro e w1 ⟨rfl, rfl⟩
      rcases hB2 : bitW wt 2
      · have B2 := hide hB2
        clear hB2
        by_cases e2 : hi = 0
        · have d2 : ((hi : Int) == 0) = true := by simp [e2]
          have E2 := hide e2
          clear e2
          go_wp2_with fail
          refine (unhide H4).mono ?_
          rintro e w1 ⟨rfl, rfl⟩
          rcases hB4 : bitW wt 4
          · have B4 := hide hB4
            clear hB4
            by_cases e4 : n = 0
            · have d4 : ((n : Int) == 0) = true := by simp [e4]
              have E4 := hide e4
              clear e4
              go_wp2_with fail
              refine (unhide H8).mono ?_
              rintro e w1 ⟨rfl, rfl⟩
              rcases hB8 : bitW wt 8
              · have B8 := hide hB8
                clear hB8
                by_cases e8 : mn = 0
                · have d8 : (mn == 0) = true := by simp [e8]
                  have E8 := hide e8
                  clear e8
                  have HF : Hid (R = true) := hide (by rw [← unhide HR]; simp [unhide B1, unhide E1, unhide B2, unhide E2, unhide B4, unhide E4, unhide B8, unhide E8])
                  go_wp2
                  go_ret
                  exact ⟨by rw [unhide HF]; rfl, unhide HA⟩
                · have d8 : (mn == 0) = false := by simp; omega
                  have E8 := hide e8
                  clear e8
                  have HF : Hid (R = false) := hide (by rw [← unhide HR]; simp [unhide B1, unhide E1, unhide B2, unhide E2, unhide B4, unhide E4, unhide B8, unhide E8])
                  go_wp2
                  go_ret
                  exact ⟨by rw [unhide HF]; rfl, unhide HA⟩
              · have B8 := hide hB8
                clear hB8
                have HF : Hid (R = true) := hide (by rw [← unhide HR]; simp [unhide B1, unhide E1, unhide B2, unhide E2, unhide B4, unhide E4, unhide B8])
                go_wp2
                go_ret
                exact ⟨by rw [unhide HF]; rfl, unhide HA⟩
            · have d4 : ((n : Int) == 0) = false := by simp; omega
              have E4 := hide e4
              clear e4
              have HF : Hid (R = false) := hide (by rw [← unhide HR]; simp [unhide B1, unhide E1, unhide B2, unhide E2, unhide B4, unhide E4])
              go_wp2
              go_ret
              exact ⟨by rw [unhide HF]; rfl, unhide HA⟩
          · have B4 := hide hB4
            clear hB4
            go_wp2_with fail
            refine (unhide H8).mono ?_
            rintro e w1 ⟨rfl, rfl⟩
            rcases hB8 : bitW wt 8
            · have B8 := hide hB8
              clear hB8
              by_cases e8 : mn = 0
              · have d8 : (mn == 0) = true := by simp [e8]
                have E8 := hide e8
                clear e8
                have HF : Hid (R = true) := hide (by rw [← unhide HR]; simp [unhide B1, unhide E1, unhide B2, unhide E2, unhide B4, unhide B8, unhide E8])
                go_wp2
                go_ret
                exact ⟨by rw [unhide HF]; rfl, unhide HA⟩
              · have d8 : (mn == 0) = false := by simp; omega
                have E8 := hide e8
                clear e8
                have HF : Hid (R = false) := hide (by rw [← unhide HR]; simp [unhide B1, unhide E1, unhide B2, unhide E2, unhide B4, unhide B8, unhide E8])
                go_wp2
                go_ret
                exact ⟨by rw [unhide HF]; rfl, unhide HA⟩
            · have B8 := hide hB8
              clear hB8
              have HF : Hid (R = true) := hide (by rw [← unhide HR]; simp [unhide B1, unhide E1, unhide B2, unhide E2, unhide B4, unhide B8])
              go_wp2
              go_ret
              exact ⟨by rw [unhide HF]; rfl, unhide HA⟩
        · have d2 : ((hi : Int) == 0) = false := by simp; omega
          have E2 := hide e2
          clear e2
          have HF : Hid (R = false) := hide (by rw [← unhide HR]; simp [unhide B1, unhide E1, unhide B2, unhide E2])
          go_wp2
          go_ret
          exact ⟨by rw [unhide HF]; rfl, unhide HA⟩
      · have B2 := hide hB2
        clear hB2
        go_wp2_with fail
        refine (unhide H4).mono ?_
        rintro e w1 ⟨rfl, rfl⟩
        rcases hB4 : bitW wt 4
        · have B4 := hide hB4
          clear hB4
          by_cases e4 : n = 0
          · have d4 : ((n : Int) == 0) = true := by simp [e4]
            have E4 := hide e4
            clear e4
            go_wp2_with fail
            refine (unhide H8).mono ?_
            rintro e w1 ⟨rfl, rfl⟩
            rcases hB8 : bitW wt 8
            · have B8 := hide hB8
              clear hB8
              by_cases e8 : mn = 0
              · have d8 : (mn == 0) = true := by simp [e8]
                have E8 := hide e8
                clear e8
                have HF : Hid (R = true) := hide (by rw [← unhide HR]; simp [unhide B1, unhide E1, unhide B2, unhide B4, unhide E4, unhide B8, unhide E8])
                go_wp2
                go_ret
                exact ⟨by rw [unhide HF]; rfl, unhide HA⟩
              · have d8 : (mn == 0) = false := by simp; omega
                have E8 := hide e8
                clear e8
                have HF : Hid (R = false) := hide (by rw [← unhide HR]; simp [unhide B1, unhide E1, unhide B2, unhide B4, unhide E4, unhide B8, unhide E8])
                go_wp2
                go_ret
                exact ⟨by rw [unhide HF]; rfl, unhide HA⟩
            · have B8 := hide hB8
              clear hB8
              have HF : Hid (R = true) := hide (by rw [← unhide HR]; simp [unhide B1, unhide E1, unhide B2, unhide B4, unhide E4, unhide B8])
              go_wp2
              go_ret
              exact ⟨by rw [unhide HF]; rfl, unhide HA⟩
          · have d4 : ((n : Int) == 0) = false := by simp; omega
            have E4 := hide e4
            clear e4
            have HF : Hid (R = false) := hide (by rw [← unhide HR]; simp [unhide B1, unhide E1, unhide B2, unhide B4, unhide E4])
            go_wp2
            go_ret
            exact ⟨by rw [unhide HF]; rfl, unhide HA⟩
        · have B4 := hide hB4
          clear hB4
          go_wp2_with fail
          refine (unhide H8).mono ?_
          rintro e w1 ⟨rfl, rfl⟩
          rcases hB8 : bitW wt 8
          · have B8 := hide hB8
            clear hB8
            by_cases e8 : mn = 0
            · have d8 : (mn == 0) = true := by simp [e8]
              have E8 := hide e8
              clear e8
              have HF : Hid (R = true) := hide (by rw [← unhide HR]; simp [unhide B1, unhide E1, unhide B2, unhide B4, unhide B8, unhide E8])
              go_wp2
              go_ret
              exact ⟨by rw [unhide HF]; rfl, unhide HA⟩
            · have d8 : (mn == 0) = false := by simp; omega
              have E8 := hide e8
              clear e8
              have HF : Hid (R = false) := hide (by rw [← unhide HR]; simp [unhide B1, unhide E1, unhide B2, unhide B4, unhide B8, unhide E8])
              go_wp2
              go_ret
              exact ⟨by rw [unhide HF]; rfl, unhide HA⟩
          · have B8 := hide hB8
            clear hB8
            have HF : Hid (R = true) := hide (by rw [← unhide HR]; simp [unhide B1, unhide E1, unhide B2, unhide B4, unhide B8])
            go_wp2
            go_ret
            exact ⟨by rw [unhide HF]; rfl, unhide HA⟩
    · have d1 : ((lo : Int) == 0) = false := by simp; omega
      have E1 := hide e1
      clear e1
      have HF : Hid (R = false) := hide (by rw [← unhide HR]; simp [unhide B1, unhide E1])
      go_wp2
      go_ret
      exact ⟨by rw [unhide HF]; rfl, unhide HA⟩
  · have B1 := hide hB1
    clear hB1
    go_wp2_with fail
    refine (unhide H2).mono ?_
    rintro e w1 ⟨rfl, rfl⟩
    rcases hB2 : bitW wt 2
    · have B2 := hide hB2
      clear hB2
      by_cases e2 : hi = 0
      · have d2 : ((hi : Int) == 0) = true := by simp [e2]
        have E2 := hide e2
        clear e2
        go_wp2_with fail
        refine (unhide H4).mono ?_
        rintro e w1 ⟨rfl, rfl⟩
        rcases hB4 : bitW wt 4
        · have B4 := hide hB4
          clear hB4
          by_cases e4 : n = 0
          · have d4 : ((n : Int) == 0) = true := by simp [e4]
            have E4 := hide e4
            clear e4
            go_wp2_with fail
            refine (unhide H8).mono ?_
            rintro e w1 ⟨rfl, rfl⟩
            rcases hB8 : bitW wt 8
            · have B8 := hide hB8
              clear hB8
              by_cases e8 : mn = 0
              · have d8 : (mn == 0) = true := by simp [e8]
                have E8 := hide e8
                clear e8
                have HF : Hid (R = true) := hide (by rw [← unhide HR]; simp [unhide B1, unhide B2, unhide E2, unhide B4, unhide E4, unhide B8, unhide E8])
                go_wp2
                go_ret
                exact ⟨by rw [unhide HF]; rfl, unhide HA⟩
              · have d8 : (mn == 0) = false := by simp; omega
                have E8 := hide e8
                clear e8
                have HF : Hid (R = false) := hide (by rw [← unhide HR]; simp [unhide B1, unhide B2, unhide E2, unhide B4, unhide E4, unhide B8, unhide E8])
                go_wp2
                go_ret
                exact ⟨by rw [unhide HF]; rfl, unhide HA⟩
            · have B8 := hide hB8
              clear hB8
              have HF : Hid (R = true) := hide (by rw [← unhide HR]; simp [unhide B1, unhide B2, unhide E2, unhide B4, unhide E4, unhide B8])
              go_wp2
              go_ret
              exact ⟨by rw [unhide HF]; rfl, unhide HA⟩
          · have d4 : ((n : Int) == 0) = false := by simp; omega
            have E4 := hide e4
            clear e4
            have HF : Hid (R = false) := hide (by rw [← unhide HR]; simp [unhide B1, unhide B2, unhide E2, unhide B4, unhide E4])
            go_wp2
            go_ret
            exact ⟨by rw [unhide HF]; rfl, unhide HA⟩
        · have B4 := hide hB4
          clear hB4
          go_wp2_with fail
          refine (unhide H8).mono ?_
          rintro e w1 ⟨rfl, rfl⟩
          rcases hB8 : bitW wt 8
          · have B8 := hide hB8
            clear hB8
            by_cases e8 : mn = 0
            · have d8 : (mn == 0) = true := by simp [e8]
              have E8 := hide e8
              clear e8
              have HF : Hid (R = true) := hide (by rw [← unhide HR]; simp [unhide B1, unhide B2, unhide E2, unhide B4, unhide B8, unhide E8])
              go_wp2
              go_ret
              exact ⟨by rw [unhide HF]; rfl, unhide HA⟩
            · have d8 : (mn == 0) = false := by simp; omega
              have E8 := hide e8
              clear e8
              have HF : Hid (R = false) := hide (by rw [← unhide HR]; simp [unhide B1, unhide B2, unhide E2, unhide B4, unhide B8, unhide E8])
              go_wp2
              go_ret
              exact ⟨by rw [unhide HF]; rfl, unhide HA⟩
          · have B8 := hide hB8
            clear hB8
            have HF : Hid (R = true) := hide (by rw [← unhide HR]; simp [unhide B1, unhide B2, unhide E2, unhide B4, unhide B8])
            go_wp2
            go_ret
            exact ⟨by rw [unhide HF]; rfl, unhide HA⟩
      · have d2 : ((hi : Int) == 0) = false := by simp; omega
        have E2 := hide e2
        clear e2
        have HF : Hid (R = false) := hide (by rw [← unhide HR]; simp [unhide B1, unhide B2, unhide E2])
        go_wp2
        go_ret
        exact ⟨by rw [unhide HF]; rfl, unhide HA⟩
    · have B2 := hide hB2
      clear hB2
      go_wp2_with fail
      refine (unhide H4).mono ?_
      rintro e w1 ⟨rfl, rfl⟩
      rcases hB4 : bitW wt 4
      · have B4 := hide hB4
        clear hB4
        by_cases e4 : n = 0
        · have d4 : ((n : Int) == 0) = true := by simp [e4]
          have E4 := hide e4
          clear e4
          go_wp2_with fail
          refine (unhide H8).mono ?_
          rintro e w1 ⟨rfl, rfl⟩
          rcases hB8 : bitW wt 8
          · have B8 := hide hB8
            clear hB8
            by_cases e8 : mn = 0
            · have d8 : (mn == 0) = true := by simp [e8]
              have E8 := hide e8
              clear e8
              have HF : Hid (R = true) := hide (by rw [← unhide HR]; simp [unhide B1, unhide B2, unhide B4, unhide E4, unhide B8, unhide E8])
              go_wp2
              go_ret
              exact ⟨by rw [unhide HF]; rfl, unhide HA⟩
            · have d8 : (mn == 0) = false := by simp; omega
              have E8 := hide e8
              clear e8
              have HF : Hid (R = false) := hide (by rw [← unhide HR]; simp [unhide B1, unhide B2, unhide B4, unhide E4, unhide B8, unhide E8])
              go_wp2
              go_ret
              exact ⟨by rw [unhide HF]; rfl, unhide HA⟩
          · have B8 := hide hB8
            clear hB8
            have HF : Hid (R = true) := hide (by rw [← unhide HR]; simp [unhide B1, unhide B2, unhide B4, unhide E4, unhide B8])
            go_wp2
            go_ret
            exact ⟨by rw [unhide HF]; rfl, unhide HA⟩
        · have d4 : ((n : Int) == 0) = false := by simp; omega
          have E4 := hide e4
          clear e4
          have HF : Hid (R = false) := hide (by rw [← unhide HR]; simp [unhide B1, unhide B2, unhide B4, unhide E4])
          go_wp2
          go_ret
          exact ⟨by rw [unhide HF]; rfl, unhide HA⟩
      · have B4 := hide hB4
        clear hB4
        go_wp2_with fail
        refine (unhide H8).mono ?_
        rintro e w1 ⟨rfl, rfl⟩
        rcases hB8 : bitW wt 8
        · have B8 := hide hB8
          clear hB8
          by_cases e8 : mn = 0
          · have d8 : (mn == 0) = true := by simp [e8]
            have E8 := hide e8
            clear e8
            have HF : Hid (R = true) := hide (by rw [← unhide HR]; simp [unhide B1, unhide B2, unhide B4, unhide B8, unhide E8])
            go_wp2
            go_ret
            exact ⟨by rw [unhide HF]; rfl, unhide HA⟩
          · have d8 : (mn == 0) = false := by simp; omega
            have E8 := hide e8
            clear e8
            have HF : Hid (R = false) := hide (by rw [← unhide HR]; simp [unhide B1, unhide B2, unhide B4, unhide B8, unhide E8])
            go_wp2
            go_ret
            exact ⟨by rw [unhide HF]; rfl, unhide HA⟩
        · have B8 := hide hB8
          clear hB8
          have HF : Hid (R = true) := hide (by rw [← unhide HR]; simp [unhide B1, unhide B2, unhide B4, unhide B8])
          go_wp2
          go_ret
          exact ⟨by rw [unhide HF]; rfl, unhide HA⟩
end Go.Proofs.YtlolilhlpbpfjaaGreatDoor
