/-
  The walk of the document's Parse of layer 10, over this seat's program: its answer in the document's own terms.
-/
import Derived.Test.YtoegfnonfmcnbaaDoorRmo
import Derived.Test.YtoegfnonfmcnbaaDoorRdg
import Derived.Test.YtoegfnonfmcnbaaDoorRpm
import Derived.Deep.DrawnRows
set_option linter.unusedVariables false
namespace Go.Proofs.YtoegfnonfmcnbaaDoor
open Go.RowKit Go.Proofs.Dcl
attribute [local go_sem ↓] Go.wp_at_zero Go.wp_at_succ

/-- What stands at the three places. -/
def dP (s : ByteArray) (k : Nat) : Int := digV (numR (s.data.toList.take k) 1 2)
def mP (s : ByteArray) (k : Nat) : Int := (monR ((s.data.toList.drop (k + 1)).take 3) : Int)
def yP (s : ByteArray) (k : Nat) : Int := digV (numR (s.data.toList.drop (k + 5)) 4 4)

set_option maxHeartbeats 1000000 in
theorem refParse10_long (s : ByteArray) (w : World) (h : s.size < 10 ∨ 11 < s.size) :
    Calls Tryd.prog 6 #[.string s] w fun e w' => e = .returned (.tuple #[.int .i64 0, .int .i64 7]) ∧ Below w.heap.size w w' := by
  by_cases h1 : s.size < 10
  · have h1' : (s.size : Int) < 10 := by omega
    go_enter Tryd.func6, Tryd.ntmps6
    go_wp2
    go_ret2
    exact ⟨rfl, Below.refl _ _⟩
  · have h1' : ¬ (s.size : Int) < 10 := by omega
    have h2' : (11 : Int) < (s.size : Int) := by omega
    go_enter Tryd.func6, Tryd.ntmps6
    go_wp2
    go_ret2
    exact ⟨rfl, Below.refl _ _⟩

theorem docP_at (s : ByteArray) (k : Nat) (hk : s.size = k + 9) (h1 : 1 ≤ k) (h2 : k ≤ 2) : docP s.data.toList = if s[k]'(by omega) ≠ 45 ∨ s[k + 4]'(by omega) ≠ 45 ∨ (k = 2 ∧ s[0]'(by omega) = 48) then none else if vldB (yP s k) (mP s k) (dP s k) then some (num (yP s k) (mP s k) (dP s k)) else none := by
  unfold docP
  have hl : s.data.toList.length - 9 = k := by rw [sizeL]; omega
  rw [if_neg (by rw [sizeL]; omega), hl, getD_byte s k (by omega), getD_byte s (k + 4) (by omega), getD_byte s 0 (by omega)]
  rfl
theorem beqD (c : UInt8) (n : Nat) (d : UInt8) (hd : d.toNat = n) : ((c.toNat : Int) == (n : Int)) = decide (c = d) := by
  by_cases h : c = d
  · subst h; subst hd; simp
  · have : c.toNat ≠ n := fun e => h (UInt8.toNat_inj.mp (e.trans hd.symm))
    rw [decide_eq_false h, beq_eq_false_iff_ne]
    omega

set_option maxHeartbeats 2000000 in
set_option maxRecDepth 100000 in
theorem refParse10_in (s : ByteArray) (k : Nat) (w : World) (hk : s.size = k + 9) (h1 : 1 ≤ k) (h2 : k ≤ 2) :
    Calls Tryd.prog 6 #[.string s] w fun e w' => e = .returned (numV (docP s.data.toList) 7) ∧ Below w.heap.size w w' := by
  have hdoc := docP_at s k hk h1 h2
  obtain ⟨y, hy⟩ : ∃ y, y = yP s k := ⟨_, rfl⟩
  obtain ⟨m, hm⟩ : ∃ m, m = mP s k := ⟨_, rfl⟩
  obtain ⟨d, hd⟩ : ∃ d, d = dP s k := ⟨_, rfl⟩
  obtain ⟨x1, hx1⟩ : ∃ x, x = s.extract 0 k := ⟨_, rfl⟩
  obtain ⟨x2, hx2⟩ : ∃ x, x = s.extract (k + 1) (k + 4) := ⟨_, rfl⟩
  obtain ⟨x3, hx3⟩ : ∃ x, x = s.extract (k + 5) (k + 9) := ⟨_, rfl⟩
  have HD1 : Hid (∀ W, Calls Tryd.prog 18 #[.string x1, .int .i64 1, .int .i64 2] W fun e w' => e = .returned (.int .i64 d) ∧ w' = W) := hide (fun W => by
    have := refDigits_any x1 1 2 W (by omega) (by omega)
    rw [hx1, toList_upto] at this
    rw [hd, hx1]
    exact this)
  have HD2 : Hid (∀ W, Calls Tryd.prog 18 #[.string x3, .int .i64 4, .int .i64 4] W fun e w' => e = .returned (.int .i64 y) ∧ w' = W) := hide (fun W => by
    have := refDigits_any (s.extract (k + 5) s.size) 4 4 W (by omega) (by omega)
    rw [toList_from, hk] at this
    rw [hy, hx3]
    exact this)
  have HMO : Hid (∀ W, Calls Tryd.prog 19 #[.string x2] W fun e w' => e = .returned (.int .i64 m) ∧ Below W.heap.size W w') := hide (fun W => by
    have := refMonth_any (s.extract (k + 1) (k + 4)) W (by rw [size_part s (k + 1) (k + 4) (by omega)]; omega)
    rw [toList_part, show k + 4 - (k + 1) = 3 by omega] at this
    rw [hm, hx2]
    exact this)
  have HDY := hide (fun W => refDay_any (yP s k) (mP s k) (dP s k) W)
  rw [← hy, ← hm, ← hd] at HDY hdoc
  have HDOC := hide hdoc
  clear hdoc
  have e1 : ¬ (s.size : Int) < 10 := by omega
  have e2 : ¬ (11 : Int) < (s.size : Int) := by omega
  have v1 : (s.size : Int) - 9 = (k : Int) := by omega
  have s1 := fun W => slice_upto s (k : Int) k rfl (by omega) W
  have s2 : ∀ W : World, (Instr.slice 9 (.string s) (some (.int .i64 ((k : Int) + 1))) (some (.int .i64 ((k : Int) + 4))) none).run Tryd.prog W = .ok (.string (s.extract (k + 1) (k + 4))) W := by
    intro W
    have := slice_km s (k + 1) 3 (by omega) W
    rwa [show ((k + 1 : Nat) : Int) = (k : Int) + 1 by omega, show (k : Int) + 1 + ((3 : Nat) : Int) = (k : Int) + 4 by omega, show k + 1 + 3 = k + 4 by omega] at this
  have s3 := fun W => slice_from s ((k : Int) + 5) (k + 5) (by omega) (by omega) W
  rw [hk, ← hx3] at s3
  rw [← hx1] at s1
  rw [← hx2] at s2
  have u1 : IntKind.i64.wrap ((k : Int) + 1) = (k : Int) + 1 := by rw [IntKind.wrap_i64]; omega
  have u4 : IntKind.i64.wrap ((k : Int) + 4) = (k : Int) + 4 := by rw [IntKind.wrap_i64]; omega
  have u5 : IntKind.i64.wrap ((k : Int) + 5) = (k : Int) + 5 := by rw [IntKind.wrap_i64]; omega
  clear hy hm hd hx1 hx2 hx3
  go_enter Tryd.func6, Tryd.ntmps6
  go_wp2
  go_region_with (first
    | (go_at_call_of 18 (Value.string x1); refine (unhide HD1 _).mono ?_; rintro e w3 ⟨rfl, rfl⟩)
    | (go_at_call_of 18 (Value.string x3); refine (unhide HD2 _).mono ?_; rintro e w4 ⟨rfl, h4⟩; subst h4)
    | (go_at_call 19; refine (unhide HMO _).mono ?_; rintro e w5 ⟨rfl, b5⟩))
  have HB := hide (below_drew0 b5)
  clear b5 HD1 HD2 HMO s1 s2 s3 u1 u5
  go_simp
  have hk4 : k + 4 < s.size := by omega
  have hk0 : k < s.size := by omega
  have hk00 : 0 < s.size := by omega
  have q1 : ((s[k].toNat : Int) != 45) = !decide (s[k] = 45) := by
    have := beqD s[k] 45 45 rfl
    simp only [bne]; rw [← this]; rfl
  have q2 : ((s[k + 4].toNat : Int) != 45) = !decide (s[k + 4] = 45) := by
    have := beqD s[k + 4] 45 45 rfl
    simp only [bne]; rw [← this]; rfl
  have q3 : ((s[0].toNat : Int) == 48) = decide (s[0] = 48) := beqD s[0] 48 48 rfl
  have HQ := hide (And.intro q1 (And.intro q2 q3))
  clear q1 q2 q3
  by_cases a1 : s[k] = 45
  · by_cases a2 : s[k + 4] = 45
    · have q1 : ((s[k].toNat : Int) != 45) = false := by rw [(unhide HQ).1, decide_eq_true a1]; rfl
      have q2 : ((s[k + 4].toNat : Int) != 45) = false := by rw [(unhide HQ).2.1, decide_eq_true a2]; rfl
      by_cases a3 : k = 2 ∧ s[0] = 48
      · have HR : Hid (docP s.data.toList = none) := hide (by rw [unhide HDOC, if_pos (Or.inr (Or.inr a3))])
        have q3 : ((s[0].toNat : Int) == 48) = true := by rw [(unhide HQ).2.2, decide_eq_true a3.2]
        obtain ⟨a3, a4⟩ := a3
        subst a3
        clear HQ HDOC HDY a1 a2 a4
        go_wp2
        go_ret2
        exact ⟨by rw [unhide HR]; rfl, unhide HB⟩
      · have hd : docP s.data.toList = if vldB y m d then some (num y m d) else none := by
          rw [unhide HDOC, if_neg]
          rintro (h | h | h)
          · exact h a1
          · exact h a2
          · exact a3 h
        have HQ3 := hide (unhide HQ).2.2
        cases hv : vldB y m d
        · have HR : Hid (docP s.data.toList = none) := hide (by rw [hd, hv]; rfl)
          have HDY2 := hide (fun W => unhide HDY W)
          rw [dayV_f hv] at HDY2
          by_cases k2 : k = 2
          · have q3 : ((s[0].toNat : Int) == 48) = false := by rw [unhide HQ3, decide_eq_false (fun h => a3 ⟨k2, h⟩)]
            subst k2
            clear HQ HQ3 HDOC HDY a1 a2 a3 hd hv
            go_wp2_with fail
            refine (unhide HDY2 _).mono ?_
            rintro e w6 ⟨rfl, h6⟩
            subst h6
            go_wp2
            go_ret2
            exact ⟨by rw [unhide HR]; rfl, unhide HB⟩
          · have k2' : ((k : Int) == 2) = false := by rw [beq_eq_false_iff_ne]; omega
            clear HQ HQ3 HDOC HDY a1 a2 a3 hd hv
            go_wp2_with fail
            refine (unhide HDY2 _).mono ?_
            rintro e w6 ⟨rfl, h6⟩
            subst h6
            go_wp2
            go_ret2
            exact ⟨by rw [unhide HR]; rfl, unhide HB⟩
        · have HR : Hid (docP s.data.toList = some (num y m d)) := hide (by rw [hd, hv]; rfl)
          have HDY2 := hide (fun W => unhide HDY W)
          rw [dayV_t hv] at HDY2
          by_cases k2 : k = 2
          · have q3 : ((s[0].toNat : Int) == 48) = false := by rw [unhide HQ3, decide_eq_false (fun h => a3 ⟨k2, h⟩)]
            subst k2
            clear HQ HQ3 HDOC HDY a1 a2 a3 hd hv
            go_wp2_with fail
            refine (unhide HDY2 _).mono ?_
            rintro e w6 ⟨rfl, h6⟩
            subst h6
            go_wp2
            go_ret2
            exact ⟨by rw [unhide HR]; rfl, unhide HB⟩
          · have k2' : ((k : Int) == 2) = false := by rw [beq_eq_false_iff_ne]; omega
            clear HQ HQ3 HDOC HDY a1 a2 a3 hd hv
            go_wp2_with fail
            refine (unhide HDY2 _).mono ?_
            rintro e w6 ⟨rfl, h6⟩
            subst h6
            go_wp2
            go_ret2
            exact ⟨by rw [unhide HR]; rfl, unhide HB⟩
    · have HR : Hid (docP s.data.toList = none) := hide (by rw [unhide HDOC, if_pos (Or.inr (Or.inl a2))])
      have q1 : ((s[k].toNat : Int) != 45) = false := by rw [(unhide HQ).1, decide_eq_true a1]; rfl
      have q2 : ((s[k + 4].toNat : Int) != 45) = true := by rw [(unhide HQ).2.1, decide_eq_false a2]; rfl
      clear HQ HDOC HDY a1 a2
      go_wp2
      go_ret2
      exact ⟨by rw [unhide HR]; rfl, unhide HB⟩
  · have HR : Hid (docP s.data.toList = none) := hide (by rw [unhide HDOC, if_pos (Or.inl a1)])
    have q1 : ((s[k].toNat : Int) != 45) = true := by rw [(unhide HQ).1, decide_eq_false a1]; rfl
    clear HQ HDOC HDY a1
    go_wp2
    go_ret2
    exact ⟨by rw [unhide HR]; rfl, unhide HB⟩

/-- The document's Parse. -/
theorem refParse10_any (s : ByteArray) (w : World) :
    Calls Tryd.prog 6 #[.string s] w fun e w' => e = .returned (numV (docP s.data.toList) 7) ∧ Below w.heap.size w w' := by
  by_cases h : s.size < 10 ∨ 11 < s.size
  · have hd : docP s.data.toList = none := by unfold docP; rw [if_pos (by rw [sizeL]; exact h)]
    rw [hd]
    exact refParse10_long s w h
  · exact refParse10_in s (s.size - 9) w (by omega) (by omega) (by omega)
end Go.Proofs.YtoegfnonfmcnbaaDoor
