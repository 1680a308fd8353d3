/-
  What runes.letterOf does, over this seat's program: a byte's letter, in a charset whose letters have one byte.
-/
import Derived.Test.YtedpimhhbajljaaGreatDoorRtb
set_option linter.unusedVariables false
namespace Go.Proofs.YtedpimhhbajljaaGreatDoor
open Go.RowKit Go.Proofs.Rns

set_option maxHeartbeats 1000000 in
set_option maxRecDepth 100000 in
theorem letterOf_any (c b : Nat) (w : World) (ht : RTab w) (hc : c < 256) (hb : b < 256) :
    Calls Tryz.prog 99 #[.int .u8 c, .int .u8 b] w fun e w' => e = .returned (.int .i32 (ofB c b)) ∧ w' = w := by
  have HT := hide ht
  have h5 := ht.size
  clear ht
  by_cases h128 : b < 128
  · have hf : ofB c b = b := by rw [ofB, if_pos h128]
    rw [hf]
    clear hf
    go_enter Tryz.func99, Tryz.ntmps99
    go_wp2
    go_ret
    exact ⟨rfl, rfl⟩
  · by_cases h1 : c = 1
    · have hf : ofB c b = 65533 := by rw [ofB, if_neg h128, if_pos h1]
      have e1 : ((c : Int) == 1) = true := by simp [h1]
      rw [hf]
      clear hf h1
      go_enter Tryz.func99, Tryz.ntmps99
      go_wp2
      go_ret
      exact ⟨rfl, rfl⟩
    · have e1 : ((c : Int) == 1) = false := by simp; omega
      by_cases h5c : c = 5
      · have e5 : ((c : Int) == 5) = true := by simp [h5c]
        have e4 : ((c : Int) == 4) = false := by simp; omega
        by_cases h160 : b < 160
        · have hf : ofB c b = winT.getD (b - 128) 0 := by rw [ofB, if_neg h128, if_neg h1, if_pos ⟨h5c, h160⟩]
          have hcell := (unhide HT).windows (b - 128) (by omega)
          rw [hf]
          obtain ⟨q, hq⟩ : ∃ q, b - 128 = q := ⟨_, rfl⟩
          rw [hq] at hcell ⊢
          have hq2 : q < 32 := by omega
          have hw : (b : Int) - 128 = (q : Int) := by omega
          have HW := hide hw
          generalize winT.getD q 0 = x at hcell
          clear hf h5c h1
          go_enter Tryz.func99, Tryz.ntmps99
          go_wp2
          go_ret
          exact ⟨rfl, rfl⟩
        · have hf : ofB c b = b := by rw [ofB, if_neg h128, if_neg h1, if_neg (fun x => h160 x.2), if_neg (by omega)]
          rw [hf]
          clear hf h5c h1
          go_enter Tryz.func99, Tryz.ntmps99
          go_wp2
          go_ret
          exact ⟨rfl, rfl⟩
      · have e5 : ((c : Int) == 5) = false := by simp; omega
        by_cases h4 : c = 4
        · have e4 : ((c : Int) == 4) = true := by simp [h4]
          by_cases h160 : 160 ≤ b
          · have h160' : (160 : Int) ≤ (b : Int) := by omega
            obtain ⟨q, hq⟩ : ∃ q, b - 160 = q := ⟨_, rfl⟩
            have hw : (b : Int) - 160 = (q : Int) := by omega
            have hq2 : q < 96 := by omega
            by_cases h31 : q < 31
            · have h31' : (q : Int) < 31 := by omega
              have hcell := (unhide HT).latin9 q h31
              by_cases hz : lat9T.getD q 0 = 0
              · have hf : ofB c b = b := by rw [ofB, if_neg h128, if_neg h1, if_neg (fun x => h5c x.1), if_neg (by rw [hq]; intro x; exact x.2.2.2 hz)]
                rw [hz] at hcell
                rw [hf]
                clear hf h4 h1 hz hq h5c
                go_enter Tryz.func99, Tryz.ntmps99
                go_wp2
                go_ret
                exact ⟨rfl, rfl⟩
              · have hf : ofB c b = lat9T.getD q 0 := by rw [ofB, if_neg h128, if_neg h1, if_neg (fun x => h5c x.1), if_pos ⟨h4, h160, by omega, by rw [hq]; exact hz⟩, hq]
                rw [hf]
                generalize lat9T.getD q 0 = x at hcell hz
                have ez : ((x : Int) != 0) = true := by simp; omega
                clear hf h4 h1 hz hq h5c
                go_enter Tryz.func99, Tryz.ntmps99
                go_wp2
                go_ret
                exact ⟨rfl, rfl⟩
            · have hf : ofB c b = b := by rw [ofB, if_neg h128, if_neg h1, if_neg (fun x => h5c x.1), if_neg (by omega)]
              have h31' : ¬ (q : Int) < 31 := by omega
              rw [hf]
              clear hf h4 h1 hq h5c
              go_enter Tryz.func99, Tryz.ntmps99
              go_wp2
              go_ret
              exact ⟨rfl, rfl⟩
          · have hf : ofB c b = b := by rw [ofB, if_neg h128, if_neg h1, if_neg (fun x => h5c x.1), if_neg (by omega)]
            have h160' : ¬ (160 : Int) ≤ (b : Int) := by omega
            rw [hf]
            clear hf h4 h1 h5c
            go_enter Tryz.func99, Tryz.ntmps99
            go_wp2
            go_ret
            exact ⟨rfl, rfl⟩
        · have e4 : ((c : Int) == 4) = false := by simp; omega
          have hf : ofB c b = b := by rw [ofB, if_neg h128, if_neg h1, if_neg (fun x => h5c x.1), if_neg (by omega)]
          rw [hf]
          clear hf h4 h1 h5c
          go_enter Tryz.func99, Tryz.ntmps99
          go_wp2
          go_ret
          exact ⟨rfl, rfl⟩
end Go.Proofs.YtedpimhhbajljaaGreatDoor
