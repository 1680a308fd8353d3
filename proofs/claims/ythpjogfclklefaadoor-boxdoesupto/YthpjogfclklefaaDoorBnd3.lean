/-
  What the document's Right of a change does, over this seat's program: what the program's own tells.
-/
import Derived.Test.YthpjogfclklefaaDoorRxc
import Derived.Test.YthpjogfclklefaaDoorRxk
import Derived.Test.YthpjogfclklefaaDoorBrt
import Derived.Test.YthpjogfclklefaaDoorBpm
import Derived.Test.YthpjogfclklefaaDoorBnd2
set_option linter.unusedVariables false
set_option linter.unusedSimpArgs false
namespace Go.Proofs.YthpjogfclklefaaDoor
open Go.RowKit

theorem below7 {B s : Nat} {w W : World} (h : Below B w W) (hs : B ≤ s) : ∀ u0 u1 u2 u3 u4 u5 u6, Below B w (((((((W.setCell ⟨s, 0, none⟩ u0).setCell ⟨s, 1, none⟩ u1).setCell ⟨s, 2, none⟩ u2).setCell ⟨s, 3, none⟩ u3).setCell ⟨s, 4, none⟩ u4).setCell ⟨s, 5, none⟩ u5).setCell ⟨s, 6, none⟩ u6) := by
  intro u0 u1 u2 u3 u4 u5 u6
  exact (below6 h hs u0 u1 u2 u3 u4 u5).setCell (p := ⟨s, 6, none⟩) hs _
set_option maxHeartbeats 8000000 in
set_option maxRecDepth 100000 in
theorem refBRight_any (c : Chg) (v : Value) (w : World) (h : Row32 w v c.us) (hf : FitC c) :
    Calls Tryd.prog 16 #[chV c v] w fun e w' => e = .returned (.int .i64 (rightC c : Int)) ∧ Below w.heap.size w w' := by
  obtain ⟨kd, us, fl, dy, sc, zn, raw⟩ := c
  simp only [FitC] at hf
  simp only at h
  obtain ⟨hf1, hf2, _, _, _, hf3⟩ := hf
  have HR := hide h
  obtain ⟨a, cap, rfl, hl, _, _⟩ := h
  obtain ⟨n, hnn⟩ : ∃ n, us.length = n := ⟨_, rfl⟩
  rw [hnn] at HR hl ⊢
  have HN := hide hnn
  clear hnn
  obtain ⟨W2, hW2⟩ : ∃ W2, W2 = (w.alloc (.cells #[.int .u8 (kd : Int), .slice a n cap, .int .u8 (fl : Int), .int .i64 dy, .int .i64 sc, .int .i64 zn, .string raw] 33)).alloc (.cells #[.int .u8 (kd : Int), .slice none 0 0, .int .u8 (fl : Int), .int .i64 dy, .int .i64 sc, .int .i64 zn, .string raw] 33) := ⟨_, rfl⟩
  have b2 := (Below.refl (w.alloc (.cells #[.int .u8 (kd : Int), .slice a n cap, .int .u8 (fl : Int), .int .i64 dy, .int .i64 sc, .int .i64 zn, .string raw] 33)).heap.size (w.alloc (.cells #[.int .u8 (kd : Int), .slice a n cap, .int .u8 (fl : Int), .int .i64 dy, .int .i64 sc, .int .i64 zn, .string raw] 33))).alloc (Nat.le_refl _) (Obj.cells #[.int .u8 (kd : Int), .slice none 0 0, .int .u8 (fl : Int), .int .i64 dy, .int .i64 sc, .int .i64 zn, .string raw] 33)
  have HA := hide (show Below w.heap.size w W2 from by rw [hW2]; exact ((Below.refl _ w).alloc (Nat.le_refl _) _).alloc (by simp) _)
  have KC := hide (show Blk W2 w.heap.size 33 #[.int .u8 (kd : Int), .slice a n cap, .int .u8 (fl : Int), .int .i64 dy, .int .i64 sc, .int .i64 zn, .string raw] from by rw [hW2]; exact (Blk.new w _ _).below b2)
  have KX := hide (show Blk W2 (w.heap.size + 1) 33 #[.int .u8 (kd : Int), .slice none 0 0, .int .u8 (fl : Int), .int .i64 dy, .int .i64 sc, .int .i64 zn, .string raw] from by
    rw [hW2]
    have := Blk.new (w.alloc (.cells #[.int .u8 (kd : Int), .slice a n cap, .int .u8 (fl : Int), .int .i64 dy, .int .i64 sc, .int .i64 zn, .string raw] 33)) 33 #[.int .u8 (kd : Int), .slice none 0 0, .int .u8 (fl : Int), .int .i64 dy, .int .i64 sc, .int .i64 zn, .string raw]
    simp only [World.size_alloc] at this
    exact this)
  have HRA := hide ((unhide HR).below (unhide HA))
  subst hW2
  clear b2
  obtain ⟨C, hC⟩ : ∃ C, rightC ⟨kd, us, fl, dy, sc, zn, raw⟩ = C := ⟨_, rfl⟩
  rw [hC]
  have HC := hide hC
  clear hC
  simp only [chV, chC]
  have HFI := hide (fun W => refFine_any fl dy sc zn raw W hf3)
  have HCK := hide (fun W (hW : Row32 W (.slice a n cap) us) => refChk_any (.slice a n cap) us W hW)
  have hneq := fun W => neqT dy sc zn 0 0 0 W
  have hneq0 := fun W => neqT 0 0 0 0 0 0 W
  have hs0 : sameT 0 0 0 0 0 0 = true := by simp [sameT]
  rw [hs0] at hneq0
  clear hs0
  have hem : raw.toList.isEmpty = decide (raw.size = 0) := empty_size raw
  obtain ⟨F, hF⟩ : ∃ F, (decide (fl ≤ 31) && (rightB dy sc zn && decide (raw.size ≤ 65536))) = F := ⟨_, rfl⟩
  obtain ⟨S, hS⟩ : ∃ S, sameT dy sc zn 0 0 0 = S := ⟨_, rfl⟩
  obtain ⟨K, hK⟩ : ∃ K, chk us = K := ⟨_, rfl⟩
  have hk0 : n = 0 → K = 0 := fun h => by rw [← hK, List.eq_nil_of_length_eq_zero ((unhide HN).trans h)]; rfl
  rw [hF] at HFI
  rw [hS] at hneq
  rw [hK] at HCK
  have HC2 : Hid ((if (if kd = 1 then decide (n = 0) && F
    else decide (2 ≤ kd ∧ kd ≤ 6) && (decide (kd = 6 → n = 0) && (decide (kd = 6 ∨ kd = 5 → fl = 0) && (decide (K = 0) && (decide (fl ≤ 31) && (S && decide (raw.size = 0))))))) = true then 0 else 2) = C) := hide (by
    rw [← unhide HC]; unfold rightC okC; simp only; rw [unhide HN, hF, hS, hK])
  clear hF hS hK HC HN
  have k1 : ∀ j : Nat, kd = j → ((kd : Int) == (j : Int)) = true := fun j h => by simp; omega
  have k2 : ∀ j : Nat, kd ≠ j → ((kd : Int) == (j : Int)) = false := fun j h => by simp; omega
  have K1 := hide k1
  have K2 := hide k2
  clear k1 k2
  by_cases q1 : kd = 1
  · have e0 := q1
    have e1 : ((kd : Int) == 1) = true := by simpa using unhide K1 1 (by omega)
    have e2 : ((kd : Int) == 2) = false := by simpa using unhide K2 2 (by omega)
    have e3 : ((kd : Int) == 3) = false := by simpa using unhide K2 3 (by omega)
    have e4 : ((kd : Int) == 4) = false := by simpa using unhide K2 4 (by omega)
    have e5 : ((kd : Int) == 5) = false := by simpa using unhide K2 5 (by omega)
    have e6 : ((kd : Int) == 6) = false := by simpa using unhide K2 6 (by omega)
    cases F with
    | false =>
      obtain rfl : 2 = C := by
        have h := unhide HC2
        first
        | (simp_all; done)
        | (rw [if_neg (by intro hh; simp at hh; omega)] at h; exact h)
        | (simp_all; omega)
        | (simp_all; rw [if_neg (by first | omega | (rintro ⟨h1, _⟩; omega) | (rintro ⟨⟨h1, h2⟩, _⟩; omega))] at h; exact h)
      clear HC2
      (try clear hfl)
      (try clear hZ)
      (try clear hK)
      (try clear hL)
      (try clear hn)
      (try clear e0)
      (try clear q6)
      (try clear q5)
      (try clear q4)
      (try clear q3)
      (try clear q2)
      (try clear q1)
      go_enter Tryd.func16, Tryd.ntmps16
      go_wp2_with fail
      refine (unhide HFI _).mono ?_
      rintro e w5 ⟨rfl, b5⟩
      have HB := hide (belows' (unhide HA) b5)
      have m := (unhide KX).below b5
      have mc := (unhide KC).below b5
      have x1 := mc.cell 1
      simp only [List.getElem?_toArray, List.getElem?_cons_succ, List.getElem?_cons_zero] at x1
      have HB7 := hide (below7 (s := w.heap.size + 1) (unhide HB) (by omega))
      have c0 := m.cell 0
      have c1 := m.cell 1
      have c2 := m.cell 2
      have c3 := m.cell 3
      have c4 := m.cell 4
      have c5 := m.cell 5
      have c6 := m.cell 6
      have f0 := m.frozen 0
      have f1 := m.frozen 1
      have f2 := m.frozen 2
      have f3 := m.frozen 3
      have f4 := m.frozen 4
      have f5 := m.frozen 5
      have f6 := m.frozen 6
      simp only [List.getElem?_toArray, List.getElem?_cons_succ, List.getElem?_cons_zero] at c0 c1 c2 c3 c4 c5 c6
      clear m b5
      clear mc HRA HA KX KC HCK HFI K1 K2 hk0 HR
      go_wp2
      (try simp only [Exit.inBlock, Exit.then])
      go_ret
      exact ⟨rfl, unhide HB7 _ _ _ _ _ _ _⟩
    | true =>
      by_cases hn : n = 0
      · have dn : ((n : Int) == 0) = true := by simp; omega
        obtain rfl : 0 = C := by
          have h := unhide HC2
          first
          | (simp_all; done)
          | (rw [if_neg (by intro hh; simp at hh; omega)] at h; exact h)
          | (simp_all; omega)
          | (simp_all; rw [if_neg (by first | omega | (rintro ⟨h1, _⟩; omega) | (rintro ⟨⟨h1, h2⟩, _⟩; omega))] at h; exact h)
        clear HC2
        (try clear hfl)
        (try clear hZ)
        (try clear hK)
        (try clear hL)
        (try clear hn)
        (try clear e0)
        (try clear q6)
        (try clear q5)
        (try clear q4)
        (try clear q3)
        (try clear q2)
        (try clear q1)
        go_enter Tryd.func16, Tryd.ntmps16
        go_wp2_with fail
        refine (unhide HFI _).mono ?_
        rintro e w5 ⟨rfl, b5⟩
        have HB := hide (belows' (unhide HA) b5)
        have m := (unhide KX).below b5
        have mc := (unhide KC).below b5
        have x1 := mc.cell 1
        simp only [List.getElem?_toArray, List.getElem?_cons_succ, List.getElem?_cons_zero] at x1
        have HB7 := hide (below7 (s := w.heap.size + 1) (unhide HB) (by omega))
        have c0 := m.cell 0
        have c1 := m.cell 1
        have c2 := m.cell 2
        have c3 := m.cell 3
        have c4 := m.cell 4
        have c5 := m.cell 5
        have c6 := m.cell 6
        have f0 := m.frozen 0
        have f1 := m.frozen 1
        have f2 := m.frozen 2
        have f3 := m.frozen 3
        have f4 := m.frozen 4
        have f5 := m.frozen 5
        have f6 := m.frozen 6
        simp only [List.getElem?_toArray, List.getElem?_cons_succ, List.getElem?_cons_zero] at c0 c1 c2 c3 c4 c5 c6
        clear m b5
        clear mc HRA HA KX KC HCK HFI K1 K2 hk0 HR
        go_wp2
        (try simp only [Exit.inBlock, Exit.then])
        go_ret
        exact ⟨rfl, unhide HB7 _ _ _ _ _ _ _⟩
      · have dn : ((n : Int) == 0) = false := by simp; omega
        obtain rfl : 2 = C := by
          have h := unhide HC2
          first
          | (simp_all; done)
          | (rw [if_neg (by intro hh; simp at hh; omega)] at h; exact h)
          | (simp_all; omega)
          | (simp_all; rw [if_neg (by first | omega | (rintro ⟨h1, _⟩; omega) | (rintro ⟨⟨h1, h2⟩, _⟩; omega))] at h; exact h)
        clear HC2
        (try clear hfl)
        (try clear hZ)
        (try clear hK)
        (try clear hL)
        (try clear hn)
        (try clear e0)
        (try clear q6)
        (try clear q5)
        (try clear q4)
        (try clear q3)
        (try clear q2)
        (try clear q1)
        go_enter Tryd.func16, Tryd.ntmps16
        go_wp2_with fail
        refine (unhide HFI _).mono ?_
        rintro e w5 ⟨rfl, b5⟩
        have HB := hide (belows' (unhide HA) b5)
        have m := (unhide KX).below b5
        have mc := (unhide KC).below b5
        have x1 := mc.cell 1
        simp only [List.getElem?_toArray, List.getElem?_cons_succ, List.getElem?_cons_zero] at x1
        have HB7 := hide (below7 (s := w.heap.size + 1) (unhide HB) (by omega))
        have c0 := m.cell 0
        have c1 := m.cell 1
        have c2 := m.cell 2
        have c3 := m.cell 3
        have c4 := m.cell 4
        have c5 := m.cell 5
        have c6 := m.cell 6
        have f0 := m.frozen 0
        have f1 := m.frozen 1
        have f2 := m.frozen 2
        have f3 := m.frozen 3
        have f4 := m.frozen 4
        have f5 := m.frozen 5
        have f6 := m.frozen 6
        simp only [List.getElem?_toArray, List.getElem?_cons_succ, List.getElem?_cons_zero] at c0 c1 c2 c3 c4 c5 c6
        clear m b5
        clear mc HRA HA KX KC HCK HFI K1 K2 hk0 HR
        go_wp2
        (try simp only [Exit.inBlock, Exit.then])
        go_ret
        exact ⟨rfl, unhide HB7 _ _ _ _ _ _ _⟩
  by_cases q2 : kd = 2
  · have e0 := q2
    have e1 : ((kd : Int) == 1) = false := by simpa using unhide K2 1 (by omega)
    have e2 : ((kd : Int) == 2) = true := by simpa using unhide K1 2 (by omega)
    have e3 : ((kd : Int) == 3) = false := by simpa using unhide K2 3 (by omega)
    have e4 : ((kd : Int) == 4) = false := by simpa using unhide K2 4 (by omega)
    have e5 : ((kd : Int) == 5) = false := by simpa using unhide K2 5 (by omega)
    have e6 : ((kd : Int) == 6) = false := by simpa using unhide K2 6 (by omega)
    by_cases hK : K = 0
    · have dK : ((K : Int) == 0) = true := by simp; omega
      by_cases hL : fl ≤ 31
      · have dL : decide ((fl : Int) ≤ 31) = true := decide_eq_true (by omega)
        cases S with
        | false =>
          obtain rfl : 2 = C := by
            have h := unhide HC2
            first
            | (simp_all; done)
            | (rw [if_neg (by intro hh; simp at hh; omega)] at h; exact h)
            | (simp_all; omega)
            | (simp_all; rw [if_neg (by first | omega | (rintro ⟨h1, _⟩; omega) | (rintro ⟨⟨h1, h2⟩, _⟩; omega))] at h; exact h)
          clear HC2
          (try clear hfl)
          (try clear hZ)
          (try clear hK)
          (try clear hL)
          (try clear hn)
          (try clear e0)
          (try clear q6)
          (try clear q5)
          (try clear q4)
          (try clear q3)
          (try clear q2)
          (try clear q1)
          go_enter Tryd.func16, Tryd.ntmps16
          go_wp2_with fail
          refine (unhide HCK _ (unhide HRA)).mono ?_
          rintro e w5 ⟨rfl, b5⟩
          have HB := hide (belows' (unhide HA) b5)
          have m := (unhide KX).below b5
          have mc := (unhide KC).below b5
          have x2 := mc.cell 2
          simp only [List.getElem?_toArray, List.getElem?_cons_succ, List.getElem?_cons_zero] at x2
          clear mc KC
          have c0 := m.cell 0
          have c1 := m.cell 1
          have c2 := m.cell 2
          have c3 := m.cell 3
          have c4 := m.cell 4
          have c5 := m.cell 5
          have c6 := m.cell 6
          have f0 := m.frozen 0
          have f1 := m.frozen 1
          have f2 := m.frozen 2
          have f3 := m.frozen 3
          have f4 := m.frozen 4
          have f5 := m.frozen 5
          have f6 := m.frozen 6
          simp only [List.getElem?_toArray, List.getElem?_cons_succ, List.getElem?_cons_zero] at c0 c1 c2 c3 c4 c5 c6
          clear m b5
          clear HRA HA KX HCK HFI K1 K2 hk0 HR
          go_wp2
          (try simp only [Exit.inBlock, Exit.then])
          go_ret
          exact ⟨rfl, (unhide HB).setCell (p := ⟨w.heap.size + 1, 2, none⟩) (by simp) _⟩
        | true =>
          by_cases hZ : raw.size = 0
          · rw [decide_eq_true hZ] at hem
            obtain rfl : 0 = C := by
              have h := unhide HC2
              first
              | (simp_all; done)
              | (rw [if_neg (by intro hh; simp at hh; omega)] at h; exact h)
              | (simp_all; omega)
              | (simp_all; rw [if_neg (by first | omega | (rintro ⟨h1, _⟩; omega) | (rintro ⟨⟨h1, h2⟩, _⟩; omega))] at h; exact h)
            clear HC2
            (try clear hfl)
            (try clear hZ)
            (try clear hK)
            (try clear hL)
            (try clear hn)
            (try clear e0)
            (try clear q6)
            (try clear q5)
            (try clear q4)
            (try clear q3)
            (try clear q2)
            (try clear q1)
            go_enter Tryd.func16, Tryd.ntmps16
            go_wp2_with fail
            refine (unhide HCK _ (unhide HRA)).mono ?_
            rintro e w5 ⟨rfl, b5⟩
            have HB := hide (belows' (unhide HA) b5)
            have m := (unhide KX).below b5
            have mc := (unhide KC).below b5
            have x2 := mc.cell 2
            simp only [List.getElem?_toArray, List.getElem?_cons_succ, List.getElem?_cons_zero] at x2
            clear mc KC
            have c0 := m.cell 0
            have c1 := m.cell 1
            have c2 := m.cell 2
            have c3 := m.cell 3
            have c4 := m.cell 4
            have c5 := m.cell 5
            have c6 := m.cell 6
            have f0 := m.frozen 0
            have f1 := m.frozen 1
            have f2 := m.frozen 2
            have f3 := m.frozen 3
            have f4 := m.frozen 4
            have f5 := m.frozen 5
            have f6 := m.frozen 6
            simp only [List.getElem?_toArray, List.getElem?_cons_succ, List.getElem?_cons_zero] at c0 c1 c2 c3 c4 c5 c6
            clear m b5
            clear HRA HA KX HCK HFI K1 K2 hk0 HR
            go_wp2
            (try simp only [Exit.inBlock, Exit.then])
            go_ret
            exact ⟨rfl, (unhide HB).setCell (p := ⟨w.heap.size + 1, 2, none⟩) (by simp) _⟩
          · rw [decide_eq_false hZ] at hem
            obtain rfl : 2 = C := by
              have h := unhide HC2
              first
              | (simp_all; done)
              | (rw [if_neg (by intro hh; simp at hh; omega)] at h; exact h)
              | (simp_all; omega)
              | (simp_all; rw [if_neg (by first | omega | (rintro ⟨h1, _⟩; omega) | (rintro ⟨⟨h1, h2⟩, _⟩; omega))] at h; exact h)
            clear HC2
            (try clear hfl)
            (try clear hZ)
            (try clear hK)
            (try clear hL)
            (try clear hn)
            (try clear e0)
            (try clear q6)
            (try clear q5)
            (try clear q4)
            (try clear q3)
            (try clear q2)
            (try clear q1)
            go_enter Tryd.func16, Tryd.ntmps16
            go_wp2_with fail
            refine (unhide HCK _ (unhide HRA)).mono ?_
            rintro e w5 ⟨rfl, b5⟩
            have HB := hide (belows' (unhide HA) b5)
            have m := (unhide KX).below b5
            have mc := (unhide KC).below b5
            have x2 := mc.cell 2
            simp only [List.getElem?_toArray, List.getElem?_cons_succ, List.getElem?_cons_zero] at x2
            clear mc KC
            have c0 := m.cell 0
            have c1 := m.cell 1
            have c2 := m.cell 2
            have c3 := m.cell 3
            have c4 := m.cell 4
            have c5 := m.cell 5
            have c6 := m.cell 6
            have f0 := m.frozen 0
            have f1 := m.frozen 1
            have f2 := m.frozen 2
            have f3 := m.frozen 3
            have f4 := m.frozen 4
            have f5 := m.frozen 5
            have f6 := m.frozen 6
            simp only [List.getElem?_toArray, List.getElem?_cons_succ, List.getElem?_cons_zero] at c0 c1 c2 c3 c4 c5 c6
            clear m b5
            clear HRA HA KX HCK HFI K1 K2 hk0 HR
            go_wp2
            (try simp only [Exit.inBlock, Exit.then])
            go_ret
            exact ⟨rfl, (unhide HB).setCell (p := ⟨w.heap.size + 1, 2, none⟩) (by simp) _⟩
      · have dL : decide ((fl : Int) ≤ 31) = false := decide_eq_false (by omega)
        obtain rfl : 2 = C := by
          have h := unhide HC2
          first
          | (simp_all; done)
          | (rw [if_neg (by intro hh; simp at hh; omega)] at h; exact h)
          | (simp_all; omega)
          | (simp_all; rw [if_neg (by first | omega | (rintro ⟨h1, _⟩; omega) | (rintro ⟨⟨h1, h2⟩, _⟩; omega))] at h; exact h)
        clear HC2
        (try clear hfl)
        (try clear hZ)
        (try clear hK)
        (try clear hL)
        (try clear hn)
        (try clear e0)
        (try clear q6)
        (try clear q5)
        (try clear q4)
        (try clear q3)
        (try clear q2)
        (try clear q1)
        go_enter Tryd.func16, Tryd.ntmps16
        go_wp2_with fail
        refine (unhide HCK _ (unhide HRA)).mono ?_
        rintro e w5 ⟨rfl, b5⟩
        have HB := hide (belows' (unhide HA) b5)
        have m := (unhide KX).below b5
        have mc := (unhide KC).below b5
        have x2 := mc.cell 2
        simp only [List.getElem?_toArray, List.getElem?_cons_succ, List.getElem?_cons_zero] at x2
        clear mc KC
        have c0 := m.cell 0
        have c1 := m.cell 1
        have c2 := m.cell 2
        have c3 := m.cell 3
        have c4 := m.cell 4
        have c5 := m.cell 5
        have c6 := m.cell 6
        have f0 := m.frozen 0
        have f1 := m.frozen 1
        have f2 := m.frozen 2
        have f3 := m.frozen 3
        have f4 := m.frozen 4
        have f5 := m.frozen 5
        have f6 := m.frozen 6
        simp only [List.getElem?_toArray, List.getElem?_cons_succ, List.getElem?_cons_zero] at c0 c1 c2 c3 c4 c5 c6
        clear m b5
        clear HRA HA KX HCK HFI K1 K2 hk0 HR
        go_wp2
        (try simp only [Exit.inBlock, Exit.then])
        go_ret
        exact ⟨rfl, (unhide HB).setCell (p := ⟨w.heap.size + 1, 2, none⟩) (by simp) _⟩
    · have dK : ((K : Int) == 0) = false := by simp; omega
      obtain rfl : 2 = C := by
        have h := unhide HC2
        first
        | (simp_all; done)
        | (rw [if_neg (by intro hh; simp at hh; omega)] at h; exact h)
        | (simp_all; omega)
        | (simp_all; rw [if_neg (by first | omega | (rintro ⟨h1, _⟩; omega) | (rintro ⟨⟨h1, h2⟩, _⟩; omega))] at h; exact h)
      clear HC2
      (try clear hfl)
      (try clear hZ)
      (try clear hK)
      (try clear hL)
      (try clear hn)
      (try clear e0)
      (try clear q6)
      (try clear q5)
      (try clear q4)
      (try clear q3)
      (try clear q2)
      (try clear q1)
      go_enter Tryd.func16, Tryd.ntmps16
      go_wp2_with fail
      refine (unhide HCK _ (unhide HRA)).mono ?_
      rintro e w5 ⟨rfl, b5⟩
      have HB := hide (belows' (unhide HA) b5)
      have m := (unhide KX).below b5
      have mc := (unhide KC).below b5
      have x2 := mc.cell 2
      simp only [List.getElem?_toArray, List.getElem?_cons_succ, List.getElem?_cons_zero] at x2
      clear mc KC
      have c0 := m.cell 0
      have c1 := m.cell 1
      have c2 := m.cell 2
      have c3 := m.cell 3
      have c4 := m.cell 4
      have c5 := m.cell 5
      have c6 := m.cell 6
      have f0 := m.frozen 0
      have f1 := m.frozen 1
      have f2 := m.frozen 2
      have f3 := m.frozen 3
      have f4 := m.frozen 4
      have f5 := m.frozen 5
      have f6 := m.frozen 6
      simp only [List.getElem?_toArray, List.getElem?_cons_succ, List.getElem?_cons_zero] at c0 c1 c2 c3 c4 c5 c6
      clear m b5
      clear HRA HA KX HCK HFI K1 K2 hk0 HR
      go_wp2
      (try simp only [Exit.inBlock, Exit.then])
      go_ret
      exact ⟨rfl, (unhide HB).setCell (p := ⟨w.heap.size + 1, 2, none⟩) (by simp) _⟩
  by_cases q3 : kd = 3
  · have e0 := q3
    have e1 : ((kd : Int) == 1) = false := by simpa using unhide K2 1 (by omega)
    have e2 : ((kd : Int) == 2) = false := by simpa using unhide K2 2 (by omega)
    have e3 : ((kd : Int) == 3) = true := by simpa using unhide K1 3 (by omega)
    have e4 : ((kd : Int) == 4) = false := by simpa using unhide K2 4 (by omega)
    have e5 : ((kd : Int) == 5) = false := by simpa using unhide K2 5 (by omega)
    have e6 : ((kd : Int) == 6) = false := by simpa using unhide K2 6 (by omega)
    by_cases hK : K = 0
    · have dK : ((K : Int) == 0) = true := by simp; omega
      by_cases hL : fl ≤ 31
      · have dL : decide ((fl : Int) ≤ 31) = true := decide_eq_true (by omega)
        cases S with
        | false =>
          obtain rfl : 2 = C := by
            have h := unhide HC2
            first
            | (simp_all; done)
            | (rw [if_neg (by intro hh; simp at hh; omega)] at h; exact h)
            | (simp_all; omega)
            | (simp_all; rw [if_neg (by first | omega | (rintro ⟨h1, _⟩; omega) | (rintro ⟨⟨h1, h2⟩, _⟩; omega))] at h; exact h)
          clear HC2
          (try clear hfl)
          (try clear hZ)
          (try clear hK)
          (try clear hL)
          (try clear hn)
          (try clear e0)
          (try clear q6)
          (try clear q5)
          (try clear q4)
          (try clear q3)
          (try clear q2)
          (try clear q1)
          go_enter Tryd.func16, Tryd.ntmps16
          go_wp2_with fail
          refine (unhide HCK _ (unhide HRA)).mono ?_
          rintro e w5 ⟨rfl, b5⟩
          have HB := hide (belows' (unhide HA) b5)
          have m := (unhide KX).below b5
          have mc := (unhide KC).below b5
          have x2 := mc.cell 2
          simp only [List.getElem?_toArray, List.getElem?_cons_succ, List.getElem?_cons_zero] at x2
          clear mc KC
          have c0 := m.cell 0
          have c1 := m.cell 1
          have c2 := m.cell 2
          have c3 := m.cell 3
          have c4 := m.cell 4
          have c5 := m.cell 5
          have c6 := m.cell 6
          have f0 := m.frozen 0
          have f1 := m.frozen 1
          have f2 := m.frozen 2
          have f3 := m.frozen 3
          have f4 := m.frozen 4
          have f5 := m.frozen 5
          have f6 := m.frozen 6
          simp only [List.getElem?_toArray, List.getElem?_cons_succ, List.getElem?_cons_zero] at c0 c1 c2 c3 c4 c5 c6
          clear m b5
          clear HRA HA KX HCK HFI K1 K2 hk0 HR
          go_wp2
          (try simp only [Exit.inBlock, Exit.then])
          go_ret
          exact ⟨rfl, (unhide HB).setCell (p := ⟨w.heap.size + 1, 2, none⟩) (by simp) _⟩
        | true =>
          by_cases hZ : raw.size = 0
          · rw [decide_eq_true hZ] at hem
            obtain rfl : 0 = C := by
              have h := unhide HC2
              first
              | (simp_all; done)
              | (rw [if_neg (by intro hh; simp at hh; omega)] at h; exact h)
              | (simp_all; omega)
              | (simp_all; rw [if_neg (by first | omega | (rintro ⟨h1, _⟩; omega) | (rintro ⟨⟨h1, h2⟩, _⟩; omega))] at h; exact h)
            clear HC2
            (try clear hfl)
            (try clear hZ)
            (try clear hK)
            (try clear hL)
            (try clear hn)
            (try clear e0)
            (try clear q6)
            (try clear q5)
            (try clear q4)
            (try clear q3)
            (try clear q2)
            (try clear q1)
            go_enter Tryd.func16, Tryd.ntmps16
            go_wp2_with fail
            refine (unhide HCK _ (unhide HRA)).mono ?_
            rintro e w5 ⟨rfl, b5⟩
            have HB := hide (belows' (unhide HA) b5)
            have m := (unhide KX).below b5
            have mc := (unhide KC).below b5
            have x2 := mc.cell 2
            simp only [List.getElem?_toArray, List.getElem?_cons_succ, List.getElem?_cons_zero] at x2
            clear mc KC
            have c0 := m.cell 0
            have c1 := m.cell 1
            have c2 := m.cell 2
            have c3 := m.cell 3
            have c4 := m.cell 4
            have c5 := m.cell 5
            have c6 := m.cell 6
            have f0 := m.frozen 0
            have f1 := m.frozen 1
            have f2 := m.frozen 2
            have f3 := m.frozen 3
            have f4 := m.frozen 4
            have f5 := m.frozen 5
            have f6 := m.frozen 6
            simp only [List.getElem?_toArray, List.getElem?_cons_succ, List.getElem?_cons_zero] at c0 c1 c2 c3 c4 c5 c6
            clear m b5
            clear HRA HA KX HCK HFI K1 K2 hk0 HR
            go_wp2
            (try simp only [Exit.inBlock, Exit.then])
            go_ret
            exact ⟨rfl, (unhide HB).setCell (p := ⟨w.heap.size + 1, 2, none⟩) (by simp) _⟩
          · rw [decide_eq_false hZ] at hem
            obtain rfl : 2 = C := by
              have h := unhide HC2
              first
              | (simp_all; done)
              | (rw [if_neg (by intro hh; simp at hh; omega)] at h; exact h)
              | (simp_all; omega)
              | (simp_all; rw [if_neg (by first | omega | (rintro ⟨h1, _⟩; omega) | (rintro ⟨⟨h1, h2⟩, _⟩; omega))] at h; exact h)
            clear HC2
            (try clear hfl)
            (try clear hZ)
            (try clear hK)
            (try clear hL)
            (try clear hn)
            (try clear e0)
            (try clear q6)
            (try clear q5)
            (try clear q4)
            (try clear q3)
            (try clear q2)
            (try clear q1)
            go_enter Tryd.func16, Tryd.ntmps16
            go_wp2_with fail
            refine (unhide HCK _ (unhide HRA)).mono ?_
            rintro e w5 ⟨rfl, b5⟩
            have HB := hide (belows' (unhide HA) b5)
            have m := (unhide KX).below b5
            have mc := (unhide KC).below b5
            have x2 := mc.cell 2
            simp only [List.getElem?_toArray, List.getElem?_cons_succ, List.getElem?_cons_zero] at x2
            clear mc KC
            have c0 := m.cell 0
            have c1 := m.cell 1
            have c2 := m.cell 2
            have c3 := m.cell 3
            have c4 := m.cell 4
            have c5 := m.cell 5
            have c6 := m.cell 6
            have f0 := m.frozen 0
            have f1 := m.frozen 1
            have f2 := m.frozen 2
            have f3 := m.frozen 3
            have f4 := m.frozen 4
            have f5 := m.frozen 5
            have f6 := m.frozen 6
            simp only [List.getElem?_toArray, List.getElem?_cons_succ, List.getElem?_cons_zero] at c0 c1 c2 c3 c4 c5 c6
            clear m b5
            clear HRA HA KX HCK HFI K1 K2 hk0 HR
            go_wp2
            (try simp only [Exit.inBlock, Exit.then])
            go_ret
            exact ⟨rfl, (unhide HB).setCell (p := ⟨w.heap.size + 1, 2, none⟩) (by simp) _⟩
      · have dL : decide ((fl : Int) ≤ 31) = false := decide_eq_false (by omega)
        obtain rfl : 2 = C := by
          have h := unhide HC2
          first
          | (simp_all; done)
          | (rw [if_neg (by intro hh; simp at hh; omega)] at h; exact h)
          | (simp_all; omega)
          | (simp_all; rw [if_neg (by first | omega | (rintro ⟨h1, _⟩; omega) | (rintro ⟨⟨h1, h2⟩, _⟩; omega))] at h; exact h)
        clear HC2
        (try clear hfl)
        (try clear hZ)
        (try clear hK)
        (try clear hL)
        (try clear hn)
        (try clear e0)
        (try clear q6)
        (try clear q5)
        (try clear q4)
        (try clear q3)
        (try clear q2)
        (try clear q1)
        go_enter Tryd.func16, Tryd.ntmps16
        go_wp2_with fail
        refine (unhide HCK _ (unhide HRA)).mono ?_
        rintro e w5 ⟨rfl, b5⟩
        have HB := hide (belows' (unhide HA) b5)
        have m := (unhide KX).below b5
        have mc := (unhide KC).below b5
        have x2 := mc.cell 2
        simp only [List.getElem?_toArray, List.getElem?_cons_succ, List.getElem?_cons_zero] at x2
        clear mc KC
        have c0 := m.cell 0
        have c1 := m.cell 1
        have c2 := m.cell 2
        have c3 := m.cell 3
        have c4 := m.cell 4
        have c5 := m.cell 5
        have c6 := m.cell 6
        have f0 := m.frozen 0
        have f1 := m.frozen 1
        have f2 := m.frozen 2
        have f3 := m.frozen 3
        have f4 := m.frozen 4
        have f5 := m.frozen 5
        have f6 := m.frozen 6
        simp only [List.getElem?_toArray, List.getElem?_cons_succ, List.getElem?_cons_zero] at c0 c1 c2 c3 c4 c5 c6
        clear m b5
        clear HRA HA KX HCK HFI K1 K2 hk0 HR
        go_wp2
        (try simp only [Exit.inBlock, Exit.then])
        go_ret
        exact ⟨rfl, (unhide HB).setCell (p := ⟨w.heap.size + 1, 2, none⟩) (by simp) _⟩
    · have dK : ((K : Int) == 0) = false := by simp; omega
      obtain rfl : 2 = C := by
        have h := unhide HC2
        first
        | (simp_all; done)
        | (rw [if_neg (by intro hh; simp at hh; omega)] at h; exact h)
        | (simp_all; omega)
        | (simp_all; rw [if_neg (by first | omega | (rintro ⟨h1, _⟩; omega) | (rintro ⟨⟨h1, h2⟩, _⟩; omega))] at h; exact h)
      clear HC2
      (try clear hfl)
      (try clear hZ)
      (try clear hK)
      (try clear hL)
      (try clear hn)
      (try clear e0)
      (try clear q6)
      (try clear q5)
      (try clear q4)
      (try clear q3)
      (try clear q2)
      (try clear q1)
      go_enter Tryd.func16, Tryd.ntmps16
      go_wp2_with fail
      refine (unhide HCK _ (unhide HRA)).mono ?_
      rintro e w5 ⟨rfl, b5⟩
      have HB := hide (belows' (unhide HA) b5)
      have m := (unhide KX).below b5
      have mc := (unhide KC).below b5
      have x2 := mc.cell 2
      simp only [List.getElem?_toArray, List.getElem?_cons_succ, List.getElem?_cons_zero] at x2
      clear mc KC
      have c0 := m.cell 0
      have c1 := m.cell 1
      have c2 := m.cell 2
      have c3 := m.cell 3
      have c4 := m.cell 4
      have c5 := m.cell 5
      have c6 := m.cell 6
      have f0 := m.frozen 0
      have f1 := m.frozen 1
      have f2 := m.frozen 2
      have f3 := m.frozen 3
      have f4 := m.frozen 4
      have f5 := m.frozen 5
      have f6 := m.frozen 6
      simp only [List.getElem?_toArray, List.getElem?_cons_succ, List.getElem?_cons_zero] at c0 c1 c2 c3 c4 c5 c6
      clear m b5
      clear HRA HA KX HCK HFI K1 K2 hk0 HR
      go_wp2
      (try simp only [Exit.inBlock, Exit.then])
      go_ret
      exact ⟨rfl, (unhide HB).setCell (p := ⟨w.heap.size + 1, 2, none⟩) (by simp) _⟩
  by_cases q4 : kd = 4
  · have e0 := q4
    have e1 : ((kd : Int) == 1) = false := by simpa using unhide K2 1 (by omega)
    have e2 : ((kd : Int) == 2) = false := by simpa using unhide K2 2 (by omega)
    have e3 : ((kd : Int) == 3) = false := by simpa using unhide K2 3 (by omega)
    have e4 : ((kd : Int) == 4) = true := by simpa using unhide K1 4 (by omega)
    have e5 : ((kd : Int) == 5) = false := by simpa using unhide K2 5 (by omega)
    have e6 : ((kd : Int) == 6) = false := by simpa using unhide K2 6 (by omega)
    by_cases hK : K = 0
    · have dK : ((K : Int) == 0) = true := by simp; omega
      by_cases hL : fl ≤ 31
      · have dL : decide ((fl : Int) ≤ 31) = true := decide_eq_true (by omega)
        cases S with
        | false =>
          obtain rfl : 2 = C := by
            have h := unhide HC2
            first
            | (simp_all; done)
            | (rw [if_neg (by intro hh; simp at hh; omega)] at h; exact h)
            | (simp_all; omega)
            | (simp_all; rw [if_neg (by first | omega | (rintro ⟨h1, _⟩; omega) | (rintro ⟨⟨h1, h2⟩, _⟩; omega))] at h; exact h)
          clear HC2
          (try clear hfl)
          (try clear hZ)
          (try clear hK)
          (try clear hL)
          (try clear hn)
          (try clear e0)
          (try clear q6)
          (try clear q5)
          (try clear q4)
          (try clear q3)
          (try clear q2)
          (try clear q1)
          go_enter Tryd.func16, Tryd.ntmps16
          go_wp2_with fail
          refine (unhide HCK _ (unhide HRA)).mono ?_
          rintro e w5 ⟨rfl, b5⟩
          have HB := hide (belows' (unhide HA) b5)
          have m := (unhide KX).below b5
          have mc := (unhide KC).below b5
          have x2 := mc.cell 2
          simp only [List.getElem?_toArray, List.getElem?_cons_succ, List.getElem?_cons_zero] at x2
          clear mc KC
          have c0 := m.cell 0
          have c1 := m.cell 1
          have c2 := m.cell 2
          have c3 := m.cell 3
          have c4 := m.cell 4
          have c5 := m.cell 5
          have c6 := m.cell 6
          have f0 := m.frozen 0
          have f1 := m.frozen 1
          have f2 := m.frozen 2
          have f3 := m.frozen 3
          have f4 := m.frozen 4
          have f5 := m.frozen 5
          have f6 := m.frozen 6
          simp only [List.getElem?_toArray, List.getElem?_cons_succ, List.getElem?_cons_zero] at c0 c1 c2 c3 c4 c5 c6
          clear m b5
          clear HRA HA KX HCK HFI K1 K2 hk0 HR
          go_wp2
          (try simp only [Exit.inBlock, Exit.then])
          go_ret
          exact ⟨rfl, (unhide HB).setCell (p := ⟨w.heap.size + 1, 2, none⟩) (by simp) _⟩
        | true =>
          by_cases hZ : raw.size = 0
          · rw [decide_eq_true hZ] at hem
            obtain rfl : 0 = C := by
              have h := unhide HC2
              first
              | (simp_all; done)
              | (rw [if_neg (by intro hh; simp at hh; omega)] at h; exact h)
              | (simp_all; omega)
              | (simp_all; rw [if_neg (by first | omega | (rintro ⟨h1, _⟩; omega) | (rintro ⟨⟨h1, h2⟩, _⟩; omega))] at h; exact h)
            clear HC2
            (try clear hfl)
            (try clear hZ)
            (try clear hK)
            (try clear hL)
            (try clear hn)
            (try clear e0)
            (try clear q6)
            (try clear q5)
            (try clear q4)
            (try clear q3)
            (try clear q2)
            (try clear q1)
            go_enter Tryd.func16, Tryd.ntmps16
            go_wp2_with fail
            refine (unhide HCK _ (unhide HRA)).mono ?_
            rintro e w5 ⟨rfl, b5⟩
            have HB := hide (belows' (unhide HA) b5)
            have m := (unhide KX).below b5
            have mc := (unhide KC).below b5
            have x2 := mc.cell 2
            simp only [List.getElem?_toArray, List.getElem?_cons_succ, List.getElem?_cons_zero] at x2
            clear mc KC
            have c0 := m.cell 0
            have c1 := m.cell 1
            have c2 := m.cell 2
            have c3 := m.cell 3
            have c4 := m.cell 4
            have c5 := m.cell 5
            have c6 := m.cell 6
            have f0 := m.frozen 0
            have f1 := m.frozen 1
            have f2 := m.frozen 2
            have f3 := m.frozen 3
            have f4 := m.frozen 4
            have f5 := m.frozen 5
            have f6 := m.frozen 6
            simp only [List.getElem?_toArray, List.getElem?_cons_succ, List.getElem?_cons_zero] at c0 c1 c2 c3 c4 c5 c6
            clear m b5
            clear HRA HA KX HCK HFI K1 K2 hk0 HR
            go_wp2
            (try simp only [Exit.inBlock, Exit.then])
            go_ret
            exact ⟨rfl, (unhide HB).setCell (p := ⟨w.heap.size + 1, 2, none⟩) (by simp) _⟩
          · rw [decide_eq_false hZ] at hem
            obtain rfl : 2 = C := by
              have h := unhide HC2
              first
              | (simp_all; done)
              | (rw [if_neg (by intro hh; simp at hh; omega)] at h; exact h)
              | (simp_all; omega)
              | (simp_all; rw [if_neg (by first | omega | (rintro ⟨h1, _⟩; omega) | (rintro ⟨⟨h1, h2⟩, _⟩; omega))] at h; exact h)
            clear HC2
            (try clear hfl)
            (try clear hZ)
            (try clear hK)
            (try clear hL)
            (try clear hn)
            (try clear e0)
            (try clear q6)
            (try clear q5)
            (try clear q4)
            (try clear q3)
            (try clear q2)
            (try clear q1)
            go_enter Tryd.func16, Tryd.ntmps16
            go_wp2_with fail
            refine (unhide HCK _ (unhide HRA)).mono ?_
            rintro e w5 ⟨rfl, b5⟩
            have HB := hide (belows' (unhide HA) b5)
            have m := (unhide KX).below b5
            have mc := (unhide KC).below b5
            have x2 := mc.cell 2
            simp only [List.getElem?_toArray, List.getElem?_cons_succ, List.getElem?_cons_zero] at x2
            clear mc KC
            have c0 := m.cell 0
            have c1 := m.cell 1
            have c2 := m.cell 2
            have c3 := m.cell 3
            have c4 := m.cell 4
            have c5 := m.cell 5
            have c6 := m.cell 6
            have f0 := m.frozen 0
            have f1 := m.frozen 1
            have f2 := m.frozen 2
            have f3 := m.frozen 3
            have f4 := m.frozen 4
            have f5 := m.frozen 5
            have f6 := m.frozen 6
            simp only [List.getElem?_toArray, List.getElem?_cons_succ, List.getElem?_cons_zero] at c0 c1 c2 c3 c4 c5 c6
            clear m b5
            clear HRA HA KX HCK HFI K1 K2 hk0 HR
            go_wp2
            (try simp only [Exit.inBlock, Exit.then])
            go_ret
            exact ⟨rfl, (unhide HB).setCell (p := ⟨w.heap.size + 1, 2, none⟩) (by simp) _⟩
      · have dL : decide ((fl : Int) ≤ 31) = false := decide_eq_false (by omega)
        obtain rfl : 2 = C := by
          have h := unhide HC2
          first
          | (simp_all; done)
          | (rw [if_neg (by intro hh; simp at hh; omega)] at h; exact h)
          | (simp_all; omega)
          | (simp_all; rw [if_neg (by first | omega | (rintro ⟨h1, _⟩; omega) | (rintro ⟨⟨h1, h2⟩, _⟩; omega))] at h; exact h)
        clear HC2
        (try clear hfl)
        (try clear hZ)
        (try clear hK)
        (try clear hL)
        (try clear hn)
        (try clear e0)
        (try clear q6)
        (try clear q5)
        (try clear q4)
        (try clear q3)
        (try clear q2)
        (try clear q1)
        go_enter Tryd.func16, Tryd.ntmps16
        go_wp2_with fail
        refine (unhide HCK _ (unhide HRA)).mono ?_
        rintro e w5 ⟨rfl, b5⟩
        have HB := hide (belows' (unhide HA) b5)
        have m := (unhide KX).below b5
        have mc := (unhide KC).below b5
        have x2 := mc.cell 2
        simp only [List.getElem?_toArray, List.getElem?_cons_succ, List.getElem?_cons_zero] at x2
        clear mc KC
        have c0 := m.cell 0
        have c1 := m.cell 1
        have c2 := m.cell 2
        have c3 := m.cell 3
        have c4 := m.cell 4
        have c5 := m.cell 5
        have c6 := m.cell 6
        have f0 := m.frozen 0
        have f1 := m.frozen 1
        have f2 := m.frozen 2
        have f3 := m.frozen 3
        have f4 := m.frozen 4
        have f5 := m.frozen 5
        have f6 := m.frozen 6
        simp only [List.getElem?_toArray, List.getElem?_cons_succ, List.getElem?_cons_zero] at c0 c1 c2 c3 c4 c5 c6
        clear m b5
        clear HRA HA KX HCK HFI K1 K2 hk0 HR
        go_wp2
        (try simp only [Exit.inBlock, Exit.then])
        go_ret
        exact ⟨rfl, (unhide HB).setCell (p := ⟨w.heap.size + 1, 2, none⟩) (by simp) _⟩
    · have dK : ((K : Int) == 0) = false := by simp; omega
      obtain rfl : 2 = C := by
        have h := unhide HC2
        first
        | (simp_all; done)
        | (rw [if_neg (by intro hh; simp at hh; omega)] at h; exact h)
        | (simp_all; omega)
        | (simp_all; rw [if_neg (by first | omega | (rintro ⟨h1, _⟩; omega) | (rintro ⟨⟨h1, h2⟩, _⟩; omega))] at h; exact h)
      clear HC2
      (try clear hfl)
      (try clear hZ)
      (try clear hK)
      (try clear hL)
      (try clear hn)
      (try clear e0)
      (try clear q6)
      (try clear q5)
      (try clear q4)
      (try clear q3)
      (try clear q2)
      (try clear q1)
      go_enter Tryd.func16, Tryd.ntmps16
      go_wp2_with fail
      refine (unhide HCK _ (unhide HRA)).mono ?_
      rintro e w5 ⟨rfl, b5⟩
      have HB := hide (belows' (unhide HA) b5)
      have m := (unhide KX).below b5
      have mc := (unhide KC).below b5
      have x2 := mc.cell 2
      simp only [List.getElem?_toArray, List.getElem?_cons_succ, List.getElem?_cons_zero] at x2
      clear mc KC
      have c0 := m.cell 0
      have c1 := m.cell 1
      have c2 := m.cell 2
      have c3 := m.cell 3
      have c4 := m.cell 4
      have c5 := m.cell 5
      have c6 := m.cell 6
      have f0 := m.frozen 0
      have f1 := m.frozen 1
      have f2 := m.frozen 2
      have f3 := m.frozen 3
      have f4 := m.frozen 4
      have f5 := m.frozen 5
      have f6 := m.frozen 6
      simp only [List.getElem?_toArray, List.getElem?_cons_succ, List.getElem?_cons_zero] at c0 c1 c2 c3 c4 c5 c6
      clear m b5
      clear HRA HA KX HCK HFI K1 K2 hk0 HR
      go_wp2
      (try simp only [Exit.inBlock, Exit.then])
      go_ret
      exact ⟨rfl, (unhide HB).setCell (p := ⟨w.heap.size + 1, 2, none⟩) (by simp) _⟩
  by_cases q5 : kd = 5
  · have e0 := q5
    have e1 : ((kd : Int) == 1) = false := by simpa using unhide K2 1 (by omega)
    have e2 : ((kd : Int) == 2) = false := by simpa using unhide K2 2 (by omega)
    have e3 : ((kd : Int) == 3) = false := by simpa using unhide K2 3 (by omega)
    have e4 : ((kd : Int) == 4) = false := by simpa using unhide K2 4 (by omega)
    have e5 : ((kd : Int) == 5) = true := by simpa using unhide K1 5 (by omega)
    have e6 : ((kd : Int) == 6) = false := by simpa using unhide K2 6 (by omega)
    by_cases hK : K = 0
    · have dK : ((K : Int) == 0) = true := by simp; omega
      by_cases hfl : fl = 0
      · have dF : ((fl : Int) != 0) = false := by simp; omega
        cases S with
        | false =>
          obtain rfl : 2 = C := by
            have h := unhide HC2
            first
            | (simp_all; done)
            | (rw [if_neg (by intro hh; simp at hh; omega)] at h; exact h)
            | (simp_all; omega)
            | (simp_all; rw [if_neg (by first | omega | (rintro ⟨h1, _⟩; omega) | (rintro ⟨⟨h1, h2⟩, _⟩; omega))] at h; exact h)
          clear HC2
          (try clear hfl)
          (try clear hZ)
          (try clear hK)
          (try clear hL)
          (try clear hn)
          (try clear e0)
          (try clear q6)
          (try clear q5)
          (try clear q4)
          (try clear q3)
          (try clear q2)
          (try clear q1)
          go_enter Tryd.func16, Tryd.ntmps16
          go_wp2_with fail
          refine (unhide HCK _ (unhide HRA)).mono ?_
          rintro e w5 ⟨rfl, b5⟩
          have HB := hide (belows' (unhide HA) b5)
          have m := (unhide KX).below b5
          have mc := (unhide KC).below b5
          have x2 := mc.cell 2
          simp only [List.getElem?_toArray, List.getElem?_cons_succ, List.getElem?_cons_zero] at x2
          clear mc KC
          have c0 := m.cell 0
          have c1 := m.cell 1
          have c2 := m.cell 2
          have c3 := m.cell 3
          have c4 := m.cell 4
          have c5 := m.cell 5
          have c6 := m.cell 6
          have f0 := m.frozen 0
          have f1 := m.frozen 1
          have f2 := m.frozen 2
          have f3 := m.frozen 3
          have f4 := m.frozen 4
          have f5 := m.frozen 5
          have f6 := m.frozen 6
          simp only [List.getElem?_toArray, List.getElem?_cons_succ, List.getElem?_cons_zero] at c0 c1 c2 c3 c4 c5 c6
          clear m b5
          clear HRA HA KX HCK HFI K1 K2 hk0 HR
          go_wp2
          (try simp only [Exit.inBlock, Exit.then])
          go_ret
          exact ⟨rfl, unhide HB⟩
        | true =>
          by_cases hZ : raw.size = 0
          · rw [decide_eq_true hZ] at hem
            obtain rfl : 0 = C := by
              have h := unhide HC2
              first
              | (simp_all; done)
              | (rw [if_neg (by intro hh; simp at hh; omega)] at h; exact h)
              | (simp_all; omega)
              | (simp_all; rw [if_neg (by first | omega | (rintro ⟨h1, _⟩; omega) | (rintro ⟨⟨h1, h2⟩, _⟩; omega))] at h; exact h)
            clear HC2
            (try clear hfl)
            (try clear hZ)
            (try clear hK)
            (try clear hL)
            (try clear hn)
            (try clear e0)
            (try clear q6)
            (try clear q5)
            (try clear q4)
            (try clear q3)
            (try clear q2)
            (try clear q1)
            go_enter Tryd.func16, Tryd.ntmps16
            go_wp2_with fail
            refine (unhide HCK _ (unhide HRA)).mono ?_
            rintro e w5 ⟨rfl, b5⟩
            have HB := hide (belows' (unhide HA) b5)
            have m := (unhide KX).below b5
            have mc := (unhide KC).below b5
            have x2 := mc.cell 2
            simp only [List.getElem?_toArray, List.getElem?_cons_succ, List.getElem?_cons_zero] at x2
            clear mc KC
            have c0 := m.cell 0
            have c1 := m.cell 1
            have c2 := m.cell 2
            have c3 := m.cell 3
            have c4 := m.cell 4
            have c5 := m.cell 5
            have c6 := m.cell 6
            have f0 := m.frozen 0
            have f1 := m.frozen 1
            have f2 := m.frozen 2
            have f3 := m.frozen 3
            have f4 := m.frozen 4
            have f5 := m.frozen 5
            have f6 := m.frozen 6
            simp only [List.getElem?_toArray, List.getElem?_cons_succ, List.getElem?_cons_zero] at c0 c1 c2 c3 c4 c5 c6
            clear m b5
            clear HRA HA KX HCK HFI K1 K2 hk0 HR
            go_wp2
            (try simp only [Exit.inBlock, Exit.then])
            go_ret
            exact ⟨rfl, unhide HB⟩
          · rw [decide_eq_false hZ] at hem
            obtain rfl : 2 = C := by
              have h := unhide HC2
              first
              | (simp_all; done)
              | (rw [if_neg (by intro hh; simp at hh; omega)] at h; exact h)
              | (simp_all; omega)
              | (simp_all; rw [if_neg (by first | omega | (rintro ⟨h1, _⟩; omega) | (rintro ⟨⟨h1, h2⟩, _⟩; omega))] at h; exact h)
            clear HC2
            (try clear hfl)
            (try clear hZ)
            (try clear hK)
            (try clear hL)
            (try clear hn)
            (try clear e0)
            (try clear q6)
            (try clear q5)
            (try clear q4)
            (try clear q3)
            (try clear q2)
            (try clear q1)
            go_enter Tryd.func16, Tryd.ntmps16
            go_wp2_with fail
            refine (unhide HCK _ (unhide HRA)).mono ?_
            rintro e w5 ⟨rfl, b5⟩
            have HB := hide (belows' (unhide HA) b5)
            have m := (unhide KX).below b5
            have mc := (unhide KC).below b5
            have x2 := mc.cell 2
            simp only [List.getElem?_toArray, List.getElem?_cons_succ, List.getElem?_cons_zero] at x2
            clear mc KC
            have c0 := m.cell 0
            have c1 := m.cell 1
            have c2 := m.cell 2
            have c3 := m.cell 3
            have c4 := m.cell 4
            have c5 := m.cell 5
            have c6 := m.cell 6
            have f0 := m.frozen 0
            have f1 := m.frozen 1
            have f2 := m.frozen 2
            have f3 := m.frozen 3
            have f4 := m.frozen 4
            have f5 := m.frozen 5
            have f6 := m.frozen 6
            simp only [List.getElem?_toArray, List.getElem?_cons_succ, List.getElem?_cons_zero] at c0 c1 c2 c3 c4 c5 c6
            clear m b5
            clear HRA HA KX HCK HFI K1 K2 hk0 HR
            go_wp2
            (try simp only [Exit.inBlock, Exit.then])
            go_ret
            exact ⟨rfl, unhide HB⟩
      · have dF : ((fl : Int) != 0) = true := by simp; omega
        obtain rfl : 2 = C := by
          have h := unhide HC2
          first
          | (simp_all; done)
          | (rw [if_neg (by intro hh; simp at hh; omega)] at h; exact h)
          | (simp_all; omega)
          | (simp_all; rw [if_neg (by first | omega | (rintro ⟨h1, _⟩; omega) | (rintro ⟨⟨h1, h2⟩, _⟩; omega))] at h; exact h)
        clear HC2
        (try clear hfl)
        (try clear hZ)
        (try clear hK)
        (try clear hL)
        (try clear hn)
        (try clear e0)
        (try clear q6)
        (try clear q5)
        (try clear q4)
        (try clear q3)
        (try clear q2)
        (try clear q1)
        go_enter Tryd.func16, Tryd.ntmps16
        go_wp2_with fail
        refine (unhide HCK _ (unhide HRA)).mono ?_
        rintro e w5 ⟨rfl, b5⟩
        have HB := hide (belows' (unhide HA) b5)
        have m := (unhide KX).below b5
        have mc := (unhide KC).below b5
        have x2 := mc.cell 2
        simp only [List.getElem?_toArray, List.getElem?_cons_succ, List.getElem?_cons_zero] at x2
        clear mc KC
        have c0 := m.cell 0
        have c1 := m.cell 1
        have c2 := m.cell 2
        have c3 := m.cell 3
        have c4 := m.cell 4
        have c5 := m.cell 5
        have c6 := m.cell 6
        have f0 := m.frozen 0
        have f1 := m.frozen 1
        have f2 := m.frozen 2
        have f3 := m.frozen 3
        have f4 := m.frozen 4
        have f5 := m.frozen 5
        have f6 := m.frozen 6
        simp only [List.getElem?_toArray, List.getElem?_cons_succ, List.getElem?_cons_zero] at c0 c1 c2 c3 c4 c5 c6
        clear m b5
        clear HRA HA KX HCK HFI K1 K2 hk0 HR
        go_wp2
        (try simp only [Exit.inBlock, Exit.then])
        go_ret
        exact ⟨rfl, unhide HB⟩
    · have dK : ((K : Int) == 0) = false := by simp; omega
      obtain rfl : 2 = C := by
        have h := unhide HC2
        first
        | (simp_all; done)
        | (rw [if_neg (by intro hh; simp at hh; omega)] at h; exact h)
        | (simp_all; omega)
        | (simp_all; rw [if_neg (by first | omega | (rintro ⟨h1, _⟩; omega) | (rintro ⟨⟨h1, h2⟩, _⟩; omega))] at h; exact h)
      clear HC2
      (try clear hfl)
      (try clear hZ)
      (try clear hK)
      (try clear hL)
      (try clear hn)
      (try clear e0)
      (try clear q6)
      (try clear q5)
      (try clear q4)
      (try clear q3)
      (try clear q2)
      (try clear q1)
      go_enter Tryd.func16, Tryd.ntmps16
      go_wp2_with fail
      refine (unhide HCK _ (unhide HRA)).mono ?_
      rintro e w5 ⟨rfl, b5⟩
      have HB := hide (belows' (unhide HA) b5)
      have m := (unhide KX).below b5
      have mc := (unhide KC).below b5
      have x2 := mc.cell 2
      simp only [List.getElem?_toArray, List.getElem?_cons_succ, List.getElem?_cons_zero] at x2
      clear mc KC
      have c0 := m.cell 0
      have c1 := m.cell 1
      have c2 := m.cell 2
      have c3 := m.cell 3
      have c4 := m.cell 4
      have c5 := m.cell 5
      have c6 := m.cell 6
      have f0 := m.frozen 0
      have f1 := m.frozen 1
      have f2 := m.frozen 2
      have f3 := m.frozen 3
      have f4 := m.frozen 4
      have f5 := m.frozen 5
      have f6 := m.frozen 6
      simp only [List.getElem?_toArray, List.getElem?_cons_succ, List.getElem?_cons_zero] at c0 c1 c2 c3 c4 c5 c6
      clear m b5
      clear HRA HA KX HCK HFI K1 K2 hk0 HR
      go_wp2
      (try simp only [Exit.inBlock, Exit.then])
      go_ret
      exact ⟨rfl, unhide HB⟩
  by_cases q6 : kd = 6
  · have e0 := q6
    have e1 : ((kd : Int) == 1) = false := by simpa using unhide K2 1 (by omega)
    have e2 : ((kd : Int) == 2) = false := by simpa using unhide K2 2 (by omega)
    have e3 : ((kd : Int) == 3) = false := by simpa using unhide K2 3 (by omega)
    have e4 : ((kd : Int) == 4) = false := by simpa using unhide K2 4 (by omega)
    have e5 : ((kd : Int) == 5) = false := by simpa using unhide K2 5 (by omega)
    have e6 : ((kd : Int) == 6) = true := by simpa using unhide K1 6 (by omega)
    by_cases hn : n = 0
    · have dn : ((n : Int) == 0) = true := by simp; omega
      have hK := hk0 hn
      by_cases hfl : fl = 0
      · have dF : ((fl : Int) != 0) = false := by simp; omega
        cases S with
        | false =>
          obtain rfl : 2 = C := by
            have h := unhide HC2
            first
            | (simp_all; done)
            | (rw [if_neg (by intro hh; simp at hh; omega)] at h; exact h)
            | (simp_all; omega)
            | (simp_all; rw [if_neg (by first | omega | (rintro ⟨h1, _⟩; omega) | (rintro ⟨⟨h1, h2⟩, _⟩; omega))] at h; exact h)
          clear HC2
          (try clear hfl)
          (try clear hZ)
          (try clear hK)
          (try clear hL)
          (try clear hn)
          (try clear e0)
          (try clear q6)
          (try clear q5)
          (try clear q4)
          (try clear q3)
          (try clear q2)
          (try clear q1)
          go_enter Tryd.func16, Tryd.ntmps16
          go_wp2
          (try simp only [Exit.inBlock, Exit.then])
          go_ret
          exact ⟨rfl, unhide HA⟩
        | true =>
          by_cases hZ : raw.size = 0
          · rw [decide_eq_true hZ] at hem
            obtain rfl : 0 = C := by
              have h := unhide HC2
              first
              | (simp_all; done)
              | (rw [if_neg (by intro hh; simp at hh; omega)] at h; exact h)
              | (simp_all; omega)
              | (simp_all; rw [if_neg (by first | omega | (rintro ⟨h1, _⟩; omega) | (rintro ⟨⟨h1, h2⟩, _⟩; omega))] at h; exact h)
            clear HC2
            (try clear hfl)
            (try clear hZ)
            (try clear hK)
            (try clear hL)
            (try clear hn)
            (try clear e0)
            (try clear q6)
            (try clear q5)
            (try clear q4)
            (try clear q3)
            (try clear q2)
            (try clear q1)
            go_enter Tryd.func16, Tryd.ntmps16
            go_wp2
            (try simp only [Exit.inBlock, Exit.then])
            go_ret
            exact ⟨rfl, unhide HA⟩
          · rw [decide_eq_false hZ] at hem
            obtain rfl : 2 = C := by
              have h := unhide HC2
              first
              | (simp_all; done)
              | (rw [if_neg (by intro hh; simp at hh; omega)] at h; exact h)
              | (simp_all; omega)
              | (simp_all; rw [if_neg (by first | omega | (rintro ⟨h1, _⟩; omega) | (rintro ⟨⟨h1, h2⟩, _⟩; omega))] at h; exact h)
            clear HC2
            (try clear hfl)
            (try clear hZ)
            (try clear hK)
            (try clear hL)
            (try clear hn)
            (try clear e0)
            (try clear q6)
            (try clear q5)
            (try clear q4)
            (try clear q3)
            (try clear q2)
            (try clear q1)
            go_enter Tryd.func16, Tryd.ntmps16
            go_wp2
            (try simp only [Exit.inBlock, Exit.then])
            go_ret
            exact ⟨rfl, unhide HA⟩
      · have dF : ((fl : Int) != 0) = true := by simp; omega
        obtain rfl : 2 = C := by
          have h := unhide HC2
          first
          | (simp_all; done)
          | (rw [if_neg (by intro hh; simp at hh; omega)] at h; exact h)
          | (simp_all; omega)
          | (simp_all; rw [if_neg (by first | omega | (rintro ⟨h1, _⟩; omega) | (rintro ⟨⟨h1, h2⟩, _⟩; omega))] at h; exact h)
        clear HC2
        (try clear hfl)
        (try clear hZ)
        (try clear hK)
        (try clear hL)
        (try clear hn)
        (try clear e0)
        (try clear q6)
        (try clear q5)
        (try clear q4)
        (try clear q3)
        (try clear q2)
        (try clear q1)
        go_enter Tryd.func16, Tryd.ntmps16
        go_wp2
        (try simp only [Exit.inBlock, Exit.then])
        go_ret
        exact ⟨rfl, unhide HA⟩
    · have dn : ((n : Int) == 0) = false := by simp; omega
      obtain rfl : 2 = C := by
        have h := unhide HC2
        first
        | (simp_all; done)
        | (rw [if_neg (by intro hh; simp at hh; omega)] at h; exact h)
        | (simp_all; omega)
        | (simp_all; rw [if_neg (by first | omega | (rintro ⟨h1, _⟩; omega) | (rintro ⟨⟨h1, h2⟩, _⟩; omega))] at h; exact h)
      clear HC2
      (try clear hfl)
      (try clear hZ)
      (try clear hK)
      (try clear hL)
      (try clear hn)
      (try clear e0)
      (try clear q6)
      (try clear q5)
      (try clear q4)
      (try clear q3)
      (try clear q2)
      (try clear q1)
      go_enter Tryd.func16, Tryd.ntmps16
      go_wp2
      (try simp only [Exit.inBlock, Exit.then])
      go_ret
      exact ⟨rfl, unhide HA⟩
  have e1 : ((kd : Int) == 1) = false := by simpa using unhide K2 1 (by omega)
  have e2 : ((kd : Int) == 2) = false := by simpa using unhide K2 2 (by omega)
  have e3 : ((kd : Int) == 3) = false := by simpa using unhide K2 3 (by omega)
  have e4 : ((kd : Int) == 4) = false := by simpa using unhide K2 4 (by omega)
  have e5 : ((kd : Int) == 5) = false := by simpa using unhide K2 5 (by omega)
  have e6 : ((kd : Int) == 6) = false := by simpa using unhide K2 6 (by omega)
  obtain rfl : 2 = C := by
    have h := unhide HC2
    first
    | (simp_all; done)
    | (rw [if_neg (by intro hh; simp at hh; omega)] at h; exact h)
    | (simp_all; omega)
    | (simp_all; rw [if_neg (by first | omega | (rintro ⟨h1, _⟩; omega) | (rintro ⟨⟨h1, h2⟩, _⟩; omega))] at h; exact h)
  clear HC2
  (try clear hfl)
  (try clear hZ)
  (try clear hK)
  (try clear hL)
  (try clear hn)
  (try clear e0)
  (try clear q6)
  (try clear q5)
  (try clear q4)
  (try clear q3)
  (try clear q2)
  (try clear q1)
  go_enter Tryd.func16, Tryd.ntmps16
  go_wp2
  (try simp only [Exit.inBlock, Exit.then])
  go_ret
  exact ⟨rfl, unhide HA⟩
end Go.Proofs.YthpjogfclklefaaDoor

/-
  What box.Do does, over this seat's program.
-/
set_option linter.unusedVariables false
set_option linter.unusedSimpArgs false
namespace Go.Proofs.YthpjogfclklefaaDoor
open Go.RowKit

def zeroB : Bx := ⟨0, 0, 0, 0, []⟩
def doB (b : Bx) (c : Chg) : Bx := if okB b = true then if okC c = true then workB b c else b else zeroB
def doT (b : Bx) (c : Chg) : List Nat := if okB b = true then if okC c = true then workT b c else [] else []
def doE (b : Bx) (c : Chg) : Nat := if okB b = true then if okC c = true then workE b c else 2 else 2

set_option maxHeartbeats 8000000 in
set_option maxRecDepth 100000 in
theorem bdo_any (b : Bx) (c : Chg) (v vc : Value) (w : World) (ht : LTab w) (h : RowM w v b.ms) (hu : Row32 w vc c.us) (hf : FitB b) (hfc : FitC c) :
    Calls Tryd.prog 6 #[bxV b v, chV c vc] w fun e w' => (∃ v' u', e = .returned (.tuple #[bxV (doB b c) v', u', .int .i64 (doE b c : Int)]) ∧ OutM w' v' (doB b c).ms ∧ OutT w' u' (doT b c)) ∧ Below w.heap.size w w' := by
  have HCK := hide (fun X (hX : LTab X) (hR : RowM X v b.ms) => bcheck_any b v X hX hR hf)
  have HRG := hide (fun X (hX : LTab X) (hR : Row32 X vc c.us) => bright_any c vc X hX hR hfc)
  have HFM := hide h.choose_spec.choose_spec.2.2.1
  have hb1 := (((Below.refl _ w).alloc (Nat.le_refl _) (Obj.cells (bxC b v) 26)).alloc (by simp) (Obj.cells (chC c vc) 33)).alloc (by simp; omega) (Obj.cells #[.int .u32 0, .int .u64 0, .int .u32 0, .int .u32 0, .slice none 0 0] 26)
  have hb2 : Below w.heap.size w (w.alloc (Obj.cells (bxC b v) 26)) := (Below.refl _ w).alloc (Nat.le_refl _) _
  have k0 := ((Blk.new w 26 (bxC b v)).below ((Below.refl _ _).alloc (Nat.le_refl _) (Obj.cells (chC c vc) 33))).below ((Below.refl _ _).alloc (Nat.le_refl _) (Obj.cells #[.int .u32 0, .int .u64 0, .int .u32 0, .int .u32 0, .slice none 0 0] 26))
  have k1 := (Blk.new (w.alloc (Obj.cells (bxC b v) 26)) 33 (chC c vc)).below ((Below.refl _ _).alloc (Nat.le_refl _) (Obj.cells #[.int .u32 0, .int .u64 0, .int .u32 0, .int .u32 0, .slice none 0 0] 26))
  have k2 := Blk.new ((w.alloc (Obj.cells (bxC b v) 26)).alloc (Obj.cells (chC c vc) 33)) 26 #[.int .u32 0, .int .u64 0, .int .u32 0, .int .u32 0, .slice none 0 0]
  simp only [World.size_alloc] at k1 k2
  have K0 := hide k0
  have K1 := hide k1
  have K2 := hide k2
  have HA := hide hb1
  have HTA := hide (ht.below hb1)
  have HRA := hide (h.below hb1)
  have HUA := hide (hu.below hb1)
  have HUW := hide (fun X (hX : Below w.heap.size w X) => hu.below hX)
  have HTW := hide (fun X (hX : Below w.heap.size w X) => ht.below hX)
  clear k0 k1 k2 hb1 hb2 ht
  cases hob : okB b with
  | false =>
    have e1 : doB b c = zeroB := by unfold doB; rw [hob]; rfl
    have e2 : doT b c = [] := by unfold doT; rw [hob]; rfl
    have e3 : doE b c = 2 := by unfold doE; rw [hob]; rfl
    have e4 : chkB b = 2 := by unfold chkB; rw [hob]; rfl
    rw [e1, e2, e3]
    rw [e4] at HCK
    obtain ⟨a, cap, rfl, hl, _, _⟩ := h
    obtain ⟨au, cu, rfl, hl2, _, _⟩ := hu
    clear e1 e2 e3 e4 hob hf hfc HRG HFM
    obtain ⟨va, nx, mr, la, ms⟩ := b
    obtain ⟨kd, us, fl, dy, sc, zn, raw⟩ := c
    simp only [bxV, bxC, chV, chC, zeroB] at *
    generalize ms.length = n at *
    generalize us.length = un at *
    go_enter Tryd.func6, Tryd.ntmps6
    go_wp2_with fail
    refine (unhide HCK _ (unhide HTA) (unhide HRA)).mono ?_
    rintro e w1 ⟨rfl, b1⟩
    have kq := (unhide K2).below b1
    have hs1 := b1.size
    simp only [World.size_alloc] at hs1
    have r0 := kq.cell 0
    have r1 := kq.cell 1
    have r2 := kq.cell 2
    have r3 := kq.cell 3
    have r4 := kq.cell 4
    have f0 := kq.frozen 0
    have f1 := kq.frozen 1
    have f2 := kq.frozen 2
    have f3 := kq.frozen 3
    have f4 := kq.frozen 4
    simp only [List.getElem?_toArray, List.getElem?_cons_succ, List.getElem?_cons_zero] at r0 r1 r2 r3 r4
    have HB5 := hide (below5 (s := w.heap.size + 1 + 1) (belows' (unhide HA) b1) (by omega))
    clear kq b1 K0 K1 K2 HA HTA HRA HUA HUW HTW HCK
    go_wp2
    (try simp only [Exit.inBlock, Exit.then])
    refine bodyPost_ret (v := .tuple #[.agg #[.int .u32 0, .int .u64 0, .int .u32 0, .int .u32 0, .slice none 0 0], .slice none 0 0, .int .i64 2]) ?_ rfl ⟨⟨.slice none 0 0, .slice none 0 0, rfl, OutM.nil _, OutT.nil _⟩, unhide HB5 _ _ _ _ _⟩
    rw [results_cell_tmp2 rfl]
    go_simp
  | true =>
    have e4 : chkB b = 0 := by unfold chkB; rw [hob]; rfl
    rw [e4] at HCK
    have hlen := okB_len hob
    have hrise := okB_rise hob
    have hhd := okB_head hob
    have HCP := hide (fun X (hR : RowM X v b.ms) => copyMails_any v b.ms X (by omega) hR)
    have HDO : Hid (okC c = true → ∀ (P C0 B : Nat) (vm : Value) (W : World), Blk W P 57 (wkC b vm (.slice none 0 0)) → W.ownsRow C0 47 6 vm b.ms.length (flatG msC b.ms) → w.heap.size ≤ B → B ≤ P → B ≤ C0 → C0 ≤ W.heap.size → Below w.heap.size w W →
        Calls Tryd.prog 26 #[.pointer (some ⟨P, 0, none⟩), chV c vc] W fun e W' => e = .returned (.int .i64 (workE b c : Int)) ∧ ∃ vm' vt', Blk W' P 57 (wkC (workB b c) vm' vt') ∧ OutM W' vm' (workB b c).ms ∧ OutT W' vt' (workT b c) ∧ Below B W W') := hide (fun hoc P C0 B vm W h1 h2 hB h3 h4 h5 h6 => do_any P C0 B b c vm vc W h1 h2 (unhide HFM) hlen hrise ⟨hhd.2.1, hhd.2.2.1⟩ hfc (fun X hX => unhide HUW X (h6.trans (hX.mono hB))) (okC_rise hoc).1 (okC_rise hoc).2 h3 h4 h5)
    have HOC : Hid ((okC c = true → rightC c = 0 ∧ doB b c = workB b c ∧ doT b c = workT b c ∧ doE b c = workE b c) ∧ (okC c = false → rightC c = 2 ∧ doB b c = b ∧ doT b c = [] ∧ doE b c = 2)) := hide (by
      unfold rightC doB doT doE
      rw [hob]
      exact ⟨fun h => by rw [h]; exact ⟨rfl, rfl, rfl, rfl⟩, fun h => by rw [h]; exact ⟨rfl, rfl, rfl, rfl⟩⟩)
    generalize rightC c = RC at HRG HOC
    generalize doB b c = DB at HOC ⊢
    generalize doT b c = DT at HOC ⊢
    generalize doE b c = DE at HOC ⊢
    generalize okC c = OC at HOC HDO
    generalize workB b c = WB at HOC HDO
    obtain ⟨va2, nx2, mr2, la2, ms2⟩ := WB
    generalize workT b c = WT at HOC HDO
    generalize workE b c = WE at HOC HDO
    have HLE := hide hlen
    obtain ⟨a, cap, rfl, hl, _, _⟩ := h
    obtain ⟨au, cu, rfl, hl2, _, _⟩ := hu
    clear e4 hob hf hfc hlen hrise hhd
    obtain ⟨va, nx, mr, la, ms⟩ := b
    obtain ⟨kd, us, fl, dy, sc, zn, raw⟩ := c
    simp only [bxV, bxC, chV, chC, wkC] at *
    obtain ⟨n, hnn⟩ : ∃ n, ms.length = n := ⟨_, rfl⟩
    obtain ⟨un, hun⟩ : ∃ un, us.length = un := ⟨_, rfl⟩
    rw [hnn] at HCK HRA K0 K1 K2 HA HTA HUA HCP HDO hl ⊢
    rw [hun] at HRG HUA HRA K0 K1 K2 HA HTA HUW HDO hl2 ⊢
    have HNN := hide hnn
    clear hnn hun
    go_enter Tryd.func6, Tryd.ntmps6
    go_wp2_with fail
    refine (unhide HCK _ (unhide HTA) (unhide HRA)).mono ?_
    rintro e w1 ⟨rfl, b1⟩
    have B1 := hide (belows' (unhide HA) b1)
    have k0 := (unhide K0).below b1
    have k1 := (unhide K1).below b1
    have k2 := (unhide K2).below b1
    have HR1 := hide ((unhide HRA).below b1)
    have hs1 := b1.size
    simp only [World.size_alloc] at hs1
    have c4 := k0.cell 4
    simp only [List.getElem?_toArray, List.getElem?_cons_succ, List.getElem?_cons_zero] at c4
    have J0 := hide k0
    have J1 := hide k1
    have J2 := hide k2
    clear k0 k1 k2 b1 K0 K1 K2 HA HTA HRA HUA HCK
    go_wp2_with fail
    refine (unhide HCP _ (unhide HR1)).mono ?_
    rintro e w2 ⟨vm, rfl, own2, b2⟩
    obtain ⟨am, cm, rfl, _⟩ := own_sliceG own2
    have B2 := hide (belows' (unhide B1) b2)
    have hs2 := b2.size
    have k0 := (unhide J0).below b2
    have k1 := (unhide J1).below b2
    have k2 := (unhide J2).below b2
    have c0 := k0.cell 0
    have c1 := k0.cell 1
    have c2 := k0.cell 2
    have c3 := k0.cell 3
    have c4 := k0.cell 4
    have f4 := k0.frozen 4
    simp only [List.getElem?_toArray, List.getElem?_cons_succ, List.getElem?_cons_zero] at c0 c1 c2 c3 c4
    have OWN2 := hide own2
    have J0 := hide k0
    have J1 := hide k1
    have J2 := hide k2
    clear k0 k1 k2 b2 own2 B1 HR1 HCP
    go_upto_region 5 with (fail)
    have x0 := (unhide J0).set 4 (.slice am n cm)
    have x1 := (unhide J1).other (a := ⟨w.heap.size, 4, none⟩) (by first | (simp; done) | (simp; omega)) (.slice am n cm)
    have x2 := (unhide J2).other (a := ⟨w.heap.size, 4, none⟩) (by first | (simp; done) | (simp; omega)) (.slice am n cm)
    have xo := own_setT (i := 4) (u := .slice am n cm) (unhide OWN2) (unhide J0) (by decide)
    have xb := (unhide B2).setCell (p := ⟨w.heap.size, 4, none⟩) (Nat.le_refl _) (.slice am n cm)
    have hsz : (w2.setCell ⟨w.heap.size, 4, none⟩ (.slice am n cm)).heap.size = w2.heap.size := by simp
    simp only [List.setIfInBounds_toArray, List.set_cons_succ, List.set_cons_zero] at x0
    generalize w2.setCell ⟨w.heap.size, 4, none⟩ (.slice am n cm) = W3 at x0 x1 x2 xo xb hsz ⊢
    clear c0 c1 c2 c3 c4 f4 J0 J1 J2 OWN2 B2
    have c0 := x0.cell 0
    have c1 := x0.cell 1
    have c2 := x0.cell 2
    have c3 := x0.cell 3
    have c4 := x0.cell 4
    simp only [List.getElem?_toArray, List.getElem?_cons_succ, List.getElem?_cons_zero] at c0 c1 c2 c3 c4
    have hA3 : Below W3.heap.size W3 (W3.alloc (.cells #[.int .u32 (va : Int), .int .u64 (nx : Int), .int .u32 (mr : Int), .int .u32 (la : Int), .slice am n cm, .slice none 0 0] 57)) := (Below.refl _ W3).alloc (Nat.le_refl _) _
    have y1 := hide (x1.below hA3)
    have y2 := hide (x2.below hA3)
    have yo := hide (own_below xo hA3)
    have yb := hide (belows' xb hA3)
    have yk := hide (Blk.new W3 57 #[.int .u32 (va : Int), .int .u64 (nx : Int), .int .u32 (mr : Int), .int .u32 (la : Int), .slice am n cm, .slice none 0 0])
    have hs4 : (W3.alloc (.cells #[.int .u32 (va : Int), .int .u64 (nx : Int), .int .u32 (mr : Int), .int .u32 (la : Int), .slice am n cm, .slice none 0 0] 57)).heap.size = W3.heap.size + 1 := by simp
    go_upto_region 6 with (fail)
    clear c0 c1 c2 c3 c4 x0 x1 x2 xo xb hA3
    generalize W3.alloc (.cells #[.int .u32 (va : Int), .int .u64 (nx : Int), .int .u32 (mr : Int), .int .u32 (la : Int), .slice am n cm, .slice none 0 0] 57) = W4 at y1 y2 yo yb yk hs4 ⊢
    rw [hsz] at hs4
    rw [hsz] at yk
    clear hsz
    generalize w2.heap.size = P at yk hs2 hs4 ⊢
    have hPw : w.heap.size ≤ P ∧ w.heap.size ≤ w1.heap.size ∧ w1.heap.size ≤ W4.heap.size ∧ w.heap.size + 1 + 1 ≠ P ∧ w1.heap.size ≤ P := by omega
    have hS2 : w.heap.size + 1 + 1 < w1.heap.size := by omega
    have d0 := (unhide y1).cell 0
    have d1 := (unhide y1).cell 1
    have d2 := (unhide y1).cell 2
    have d3 := (unhide y1).cell 3
    have d4 := (unhide y1).cell 4
    have d5 := (unhide y1).cell 5
    have d6 := (unhide y1).cell 6
    simp only [List.getElem?_toArray, List.getElem?_cons_succ, List.getElem?_cons_zero] at d0 d1 d2 d3 d4 d5 d6
    clear hs4 hs1 hs2
    go_wp2_with fail
    refine (unhide HRG _ (unhide HTW _ (unhide yb)) (unhide HUW _ (unhide yb))).mono ?_
    rintro e w5 ⟨rfl, b5⟩
    have z1 := hide ((unhide y1).below b5)
    have z2 := hide ((unhide y2).below b5)
    have zo := hide (own_below (unhide yo) b5)
    have zb := hide (belows' (unhide yb) b5)
    have zk := hide ((unhide yk).below b5)
    have hs5 := b5.size
    clear b5 y1 y2 yo yb yk HRG d0 d1 d2 d3 d4 d5 d6 HUW HTW
    cases OC with
    | false =>
      obtain ⟨q1, q2, q3, q4⟩ := (unhide HOC).2 rfl
      subst q1 q2 q3 q4
      have OMF : Hid (OutM w5 (.slice am n cm) ms) := hide ⟨own_zero (by have h := unhide zo; rw [← unhide HNN] at h ⊢; exact h), unhide HFM, by have := unhide HLE; omega⟩
      have OTF := hide (OutT.nil w5)
      clear HOC HDO zo z1
      go_upto_region 9 with (fail)
      have HS : Hid (∀ X, Blk X P 57 #[.int .u32 (va : Int), .int .u64 (nx : Int), .int .u32 (mr : Int), .int .u32 (la : Int), .slice am n cm, .slice none 0 0] → (X.cell? ⟨P, 0, none⟩ = some (.int .u32 (va : Int)) ∧ X.cell? ⟨P, 1, none⟩ = some (.int .u64 (nx : Int)) ∧ X.cell? ⟨P, 2, none⟩ = some (.int .u32 (mr : Int)) ∧ X.cell? ⟨P, 3, none⟩ = some (.int .u32 (la : Int)) ∧ X.cell? ⟨P, 4, none⟩ = some (.slice am n cm) ∧ X.cell? ⟨P, 5, none⟩ = some (.slice none 0 0))) := hide (fun X hX => ⟨hX.cell 0, hX.cell 1, hX.cell 2, hX.cell 3, hX.cell 4, hX.cell 5⟩)
      have HS0 := unhide HS _ (blk_drewB (unhide zk))
      have hne : P ≠ w.heap.size + 1 + 1 := fun e => hPw.2.2.2.1 e.symm
      have HS5 := hide (fun u0 u1 u2 u3 u4 => unhide HS _ (blk_drewB (blk5 (unhide zk) hne u0 u1 u2 u3 u4)))
      have HR5 := hide (fun u0 u1 u2 u3 u4 => (outM5 (unhide OMF) (unhide z2) (by decide) u0 u1 u2 u3 u4).drewB)
      have HT5 := hide (fun u0 u1 u2 u3 u4 => (outT5 (unhide OTF) (unhide z2) (by decide) u0 u1 u2 u3 u4).drewB)
      have HB5 := hide (fun u0 u1 u2 u3 u4 => below_drewB (below5 (s := w.heap.size + 1 + 1) (unhide zb) (by omega) u0 u1 u2 u3 u4))
      have r0 := (unhide z2).cell 0
      have r1 := (unhide z2).cell 1
      have r2 := (unhide z2).cell 2
      have r3 := (unhide z2).cell 3
      have r4 := (unhide z2).cell 4
      have f0 := (unhide z2).frozen 0
      have f1 := (unhide z2).frozen 1
      have f2 := (unhide z2).frozen 2
      have f3 := (unhide z2).frozen 3
      have f4 := (unhide z2).frozen 4
      simp only [List.getElem?_toArray, List.getElem?_cons_succ, List.getElem?_cons_zero] at r0 r1 r2 r3 r4
      clear HS OMF OTF zk z2 zb hne
      refine wp_region_held_drew (S := (fun w' => (w'.cell? ⟨P, 0, none⟩ = some (.int .u32 (va : Int)) ∧ w'.cell? ⟨P, 1, none⟩ = some (.int .u64 (nx : Int)) ∧ w'.cell? ⟨P, 2, none⟩ = some (.int .u32 (mr : Int)) ∧ w'.cell? ⟨P, 3, none⟩ = some (.int .u32 (la : Int)) ∧ w'.cell? ⟨P, 4, none⟩ = some (.slice am n cm) ∧ w'.cell? ⟨P, 5, none⟩ = some (.slice none 0 0)))) (by kernel_rfl) ?_ (fun hHeld => ?_)
      · exact HS0
      refine wpAnyH_take (i := 0) (v := .pointer (some ⟨P, 0, none⟩)) rfl (by kernel_rfl) (by kernel_rfl) (by kernel_rfl) (fun _ _ _ h => h) (Or.inl ⟨by kernel_rfl, fun wS hSw => ?_⟩) (by assumption) ?_
      · (try dsimp only at hSw); go_simp
      (try simp only [Act.put, List.setIfInBounds_toArray, List.set_cons_zero, List.set_cons_succ])
      refine wpAnyH_take (i := 1) (v := .agg #[.int .u32 (va : Int), .int .u64 (nx : Int), .int .u32 (mr : Int), .int .u32 (la : Int), .slice am n cm]) rfl (by kernel_rfl) (by kernel_rfl) (by kernel_rfl) (fun _ _ _ h => h) (Or.inl ⟨by kernel_rfl, fun wS hSw => ?_⟩) (by assumption) ?_
      · (try dsimp only at hSw); go_simp
      (try simp only [Act.put, List.setIfInBounds_toArray, List.set_cons_zero, List.set_cons_succ])
      refine wpAnyH_take (i := 2) (v := .pointer (some ⟨P, 5, none⟩)) rfl (by kernel_rfl) (by kernel_rfl) (by kernel_rfl) (fun _ _ _ h => h) (Or.inl ⟨by kernel_rfl, fun wS hSw => ?_⟩) (by assumption) ?_
      · (try dsimp only at hSw); go_simp
      (try simp only [Act.put, List.setIfInBounds_toArray, List.set_cons_zero, List.set_cons_succ])
      refine wpAnyH_take (i := 3) (v := .slice none 0 0) rfl (by kernel_rfl) (by kernel_rfl) (by kernel_rfl) (fun _ _ _ h => h) (Or.inl ⟨by kernel_rfl, fun wS hSw => ?_⟩) (by assumption) ?_
      · (try dsimp only at hSw); go_simp
      (try simp only [Act.put, List.setIfInBounds_toArray, List.set_cons_zero, List.set_cons_succ])
      refine wpAnyH_take (i := 4) (v := .int .i64 (2 : Int)) rfl (by kernel_rfl) (by kernel_rfl) (by kernel_rfl) (fun _ _ _ h => h) (Or.inl ⟨by kernel_rfl, fun wS hSw => ?_⟩) (by assumption) ?_
      · (try dsimp only at hSw); go_simp
      (try simp only [Act.put, List.setIfInBounds_toArray, List.set_cons_zero, List.set_cons_succ])
      refine wpAnyH_ready (rs := [5]) (by kernel_rfl) (by simp) ?_
      refine AllReadyH.cons rfl (fun K hK => ?_) AllReadyH.nil
      go_simp
      refine hK.out _ _ ?_ (fun hHeld => ?_)
      · exact unhide HS5 _ _ _ _ _
      clear hK K
      (try simp only [Act.put, List.setIfInBounds_toArray, List.set_cons_zero, List.set_cons_succ])
      refine wpAnyH_take (i := 6) (v := .slice none 0 0) rfl (by kernel_rfl) (by kernel_rfl) (by kernel_rfl) (fun _ _ _ h => h) (Or.inl ⟨by kernel_rfl, fun wS hSw => ?_⟩) (by assumption) ?_
      · (try dsimp only at hSw); go_simp
      (try simp only [Act.put, List.setIfInBounds_toArray, List.set_cons_zero, List.set_cons_succ])
      refine wpAnyH_take (i := 7) (v := .int .i64 (2 : Int)) rfl (by kernel_rfl) (by kernel_rfl) (by kernel_rfl) (fun _ _ _ h => h) (Or.inl ⟨by kernel_rfl, fun wS hSw => ?_⟩) (by assumption) ?_
      · (try dsimp only at hSw); go_simp
      (try simp only [Act.put, List.setIfInBounds_toArray, List.set_cons_zero, List.set_cons_succ])
      refine wpAnyH_done (by kernel_rfl) ?_ _
      clear hHeld HS5
      go_wp2
      (try simp only [Exit.inBlock, Exit.then])
      refine bodyPost_ret (v := .tuple #[.agg #[.int .u32 (va : Int), .int .u64 (nx : Int), .int .u32 (mr : Int), .int .u32 (la : Int), .slice am n cm], .slice none 0 0, .int .i64 (2 : Int)]) ?_ rfl ⟨⟨_, _, rfl, unhide HR5 _ _ _ _ _, unhide HT5 _ _ _ _ _⟩, unhide HB5 _ _ _ _ _⟩
      rw [results_cell_tmp2 rfl]
      go_simp
    | true =>
      obtain ⟨q1, q2, q3, q4⟩ := (unhide HOC).1 rfl
      replace q2 := q2.symm
      replace q3 := q3.symm
      replace q4 := q4.symm
      subst q1 q2 q3 q4
      have HD := hide (unhide HDO rfl P w1.heap.size w1.heap.size (.slice am n cm) w5 (unhide zk) (unhide zo) hPw.2.1 hPw.2.2.2.2 (Nat.le_refl _) (by omega) (unhide zb))
      have d0 := (unhide z1).cell 0
      have d1 := (unhide z1).cell 1
      have d2 := (unhide z1).cell 2
      have d3 := (unhide z1).cell 3
      have d4 := (unhide z1).cell 4
      have d5 := (unhide z1).cell 5
      have d6 := (unhide z1).cell 6
      simp only [List.getElem?_toArray, List.getElem?_cons_succ, List.getElem?_cons_zero] at d0 d1 d2 d3 d4 d5 d6
      clear HOC HDO z1 zo
      go_wp2_with fail
      refine (unhide HD).mono ?_
      rintro e w6 ⟨rfl, vm2, vt2, g1, g2, g3, g4⟩
      have zk := hide g1
      obtain ⟨am2, cm2, rfl, _⟩ := own_sliceG g2.1
      obtain ⟨at2, ct2, rfl, _⟩ := own_sliceG g3.1
      have OMF := hide g2
      have OTF := hide g3
      have zb := hide ((unhide zb).trans (g4.mono hPw.2.1))
      have z2 := hide (blk_belowC (unhide z2) g4 hS2)
      have hs6 := g4.size
      clear g1 g2 g3 g4 HD d0 d1 d2 d3 d4 d5 d6
      go_upto_region 9 with (fail)
      have HS : Hid (∀ X, Blk X P 57 #[.int .u32 (va2 : Int), .int .u64 (nx2 : Int), .int .u32 (mr2 : Int), .int .u32 (la2 : Int), .slice am2 ms2.length cm2, .slice at2 WT.length ct2] → (X.cell? ⟨P, 0, none⟩ = some (.int .u32 (va2 : Int)) ∧ X.cell? ⟨P, 1, none⟩ = some (.int .u64 (nx2 : Int)) ∧ X.cell? ⟨P, 2, none⟩ = some (.int .u32 (mr2 : Int)) ∧ X.cell? ⟨P, 3, none⟩ = some (.int .u32 (la2 : Int)) ∧ X.cell? ⟨P, 4, none⟩ = some (.slice am2 ms2.length cm2) ∧ X.cell? ⟨P, 5, none⟩ = some (.slice at2 WT.length ct2))) := hide (fun X hX => ⟨hX.cell 0, hX.cell 1, hX.cell 2, hX.cell 3, hX.cell 4, hX.cell 5⟩)
      have HS0 := unhide HS _ (blk_drewB (unhide zk))
      have hne : P ≠ w.heap.size + 1 + 1 := fun e => hPw.2.2.2.1 e.symm
      have HS5 := hide (fun u0 u1 u2 u3 u4 => unhide HS _ (blk_drewB (blk5 (unhide zk) hne u0 u1 u2 u3 u4)))
      have HR5 := hide (fun u0 u1 u2 u3 u4 => (outM5 (unhide OMF) (unhide z2) (by decide) u0 u1 u2 u3 u4).drewB)
      have HT5 := hide (fun u0 u1 u2 u3 u4 => (outT5 (unhide OTF) (unhide z2) (by decide) u0 u1 u2 u3 u4).drewB)
      have HB5 := hide (fun u0 u1 u2 u3 u4 => below_drewB (below5 (s := w.heap.size + 1 + 1) (unhide zb) (by omega) u0 u1 u2 u3 u4))
      have r0 := (unhide z2).cell 0
      have r1 := (unhide z2).cell 1
      have r2 := (unhide z2).cell 2
      have r3 := (unhide z2).cell 3
      have r4 := (unhide z2).cell 4
      have f0 := (unhide z2).frozen 0
      have f1 := (unhide z2).frozen 1
      have f2 := (unhide z2).frozen 2
      have f3 := (unhide z2).frozen 3
      have f4 := (unhide z2).frozen 4
      simp only [List.getElem?_toArray, List.getElem?_cons_succ, List.getElem?_cons_zero] at r0 r1 r2 r3 r4
      clear HS OMF OTF zk z2 zb hne
      refine wp_region_held_drew (S := (fun w' => (w'.cell? ⟨P, 0, none⟩ = some (.int .u32 (va2 : Int)) ∧ w'.cell? ⟨P, 1, none⟩ = some (.int .u64 (nx2 : Int)) ∧ w'.cell? ⟨P, 2, none⟩ = some (.int .u32 (mr2 : Int)) ∧ w'.cell? ⟨P, 3, none⟩ = some (.int .u32 (la2 : Int)) ∧ w'.cell? ⟨P, 4, none⟩ = some (.slice am2 ms2.length cm2) ∧ w'.cell? ⟨P, 5, none⟩ = some (.slice at2 WT.length ct2)))) (by kernel_rfl) ?_ (fun hHeld => ?_)
      · exact HS0
      refine wpAnyH_take (i := 0) (v := .pointer (some ⟨P, 0, none⟩)) rfl (by kernel_rfl) (by kernel_rfl) (by kernel_rfl) (fun _ _ _ h => h) (Or.inl ⟨by kernel_rfl, fun wS hSw => ?_⟩) (by assumption) ?_
      · (try dsimp only at hSw); go_simp
      (try simp only [Act.put, List.setIfInBounds_toArray, List.set_cons_zero, List.set_cons_succ])
      refine wpAnyH_take (i := 1) (v := .agg #[.int .u32 (va2 : Int), .int .u64 (nx2 : Int), .int .u32 (mr2 : Int), .int .u32 (la2 : Int), .slice am2 ms2.length cm2]) rfl (by kernel_rfl) (by kernel_rfl) (by kernel_rfl) (fun _ _ _ h => h) (Or.inl ⟨by kernel_rfl, fun wS hSw => ?_⟩) (by assumption) ?_
      · (try dsimp only at hSw); go_simp
      (try simp only [Act.put, List.setIfInBounds_toArray, List.set_cons_zero, List.set_cons_succ])
      refine wpAnyH_take (i := 2) (v := .pointer (some ⟨P, 5, none⟩)) rfl (by kernel_rfl) (by kernel_rfl) (by kernel_rfl) (fun _ _ _ h => h) (Or.inl ⟨by kernel_rfl, fun wS hSw => ?_⟩) (by assumption) ?_
      · (try dsimp only at hSw); go_simp
      (try simp only [Act.put, List.setIfInBounds_toArray, List.set_cons_zero, List.set_cons_succ])
      refine wpAnyH_take (i := 3) (v := .slice at2 WT.length ct2) rfl (by kernel_rfl) (by kernel_rfl) (by kernel_rfl) (fun _ _ _ h => h) (Or.inl ⟨by kernel_rfl, fun wS hSw => ?_⟩) (by assumption) ?_
      · (try dsimp only at hSw); go_simp
      (try simp only [Act.put, List.setIfInBounds_toArray, List.set_cons_zero, List.set_cons_succ])
      refine wpAnyH_take (i := 4) (v := .int .i64 (WE : Int)) rfl (by kernel_rfl) (by kernel_rfl) (by kernel_rfl) (fun _ _ _ h => h) (Or.inl ⟨by kernel_rfl, fun wS hSw => ?_⟩) (by assumption) ?_
      · (try dsimp only at hSw); go_simp
      (try simp only [Act.put, List.setIfInBounds_toArray, List.set_cons_zero, List.set_cons_succ])
      refine wpAnyH_ready (rs := [5]) (by kernel_rfl) (by simp) ?_
      refine AllReadyH.cons rfl (fun K hK => ?_) AllReadyH.nil
      go_simp
      refine hK.out _ _ ?_ (fun hHeld => ?_)
      · exact unhide HS5 _ _ _ _ _
      clear hK K
      (try simp only [Act.put, List.setIfInBounds_toArray, List.set_cons_zero, List.set_cons_succ])
      refine wpAnyH_take (i := 6) (v := .slice at2 WT.length ct2) rfl (by kernel_rfl) (by kernel_rfl) (by kernel_rfl) (fun _ _ _ h => h) (Or.inl ⟨by kernel_rfl, fun wS hSw => ?_⟩) (by assumption) ?_
      · (try dsimp only at hSw); go_simp
      (try simp only [Act.put, List.setIfInBounds_toArray, List.set_cons_zero, List.set_cons_succ])
      refine wpAnyH_take (i := 7) (v := .int .i64 (WE : Int)) rfl (by kernel_rfl) (by kernel_rfl) (by kernel_rfl) (fun _ _ _ h => h) (Or.inl ⟨by kernel_rfl, fun wS hSw => ?_⟩) (by assumption) ?_
      · (try dsimp only at hSw); go_simp
      (try simp only [Act.put, List.setIfInBounds_toArray, List.set_cons_zero, List.set_cons_succ])
      refine wpAnyH_done (by kernel_rfl) ?_ _
      clear hHeld HS5
      go_wp2
      (try simp only [Exit.inBlock, Exit.then])
      refine bodyPost_ret (v := .tuple #[.agg #[.int .u32 (va2 : Int), .int .u64 (nx2 : Int), .int .u32 (mr2 : Int), .int .u32 (la2 : Int), .slice am2 ms2.length cm2], .slice at2 WT.length ct2, .int .i64 (WE : Int)]) ?_ rfl ⟨⟨_, _, rfl, unhide HR5 _ _ _ _ _, unhide HT5 _ _ _ _ _⟩, unhide HB5 _ _ _ _ _⟩
      rw [results_cell_tmp2 rfl]
      go_simp
end Go.Proofs.YthpjogfclklefaaDoor
