/-
  Changes of a box as they lie in memory; what box.Right does, over this seat's program.
-/
import Derived.Test.YthpjogfclklefaaDoorBck
set_option linter.unusedVariables false
set_option linter.unusedSimpArgs false
namespace Go.Proofs.YthpjogfclklefaaDoor
open Go.RowKit

/-- A change. -/
structure Chg where
  kd : Nat
  us : List Nat
  fl : Nat
  dy : Int
  sc : Int
  zn : Int
  raw : ByteArray
def chC (c : Chg) (v : Value) : Array Value := #[.int .u8 (c.kd : Int), v, .int .u8 (c.fl : Int), .int .i64 c.dy, .int .i64 c.sc, .int .i64 c.zn, .string c.raw]
def chV (c : Chg) (v : Value) : Value := .agg (chC c v)
def FitC (c : Chg) : Prop := c.kd ≤ 255 ∧ c.fl ≤ 255 ∧ I64 c.dy ∧ I64 c.sc ∧ I64 c.zn ∧ c.raw.size ≤ 16777216
/-- What box.Right tells. -/
def okC (c : Chg) : Bool :=
  if c.kd = 1 then decide (c.us.length = 0) && (decide (c.fl ≤ 31) && (rightB c.dy c.sc c.zn && decide (c.raw.size ≤ 65536)))
  else decide (2 ≤ c.kd ∧ c.kd ≤ 6) && (decide (c.kd = 6 → c.us.length = 0) && (decide (c.kd = 6 ∨ c.kd = 5 → c.fl = 0) && (decide (chk c.us = 0) && (decide (c.fl ≤ 31) && (sameT c.dy c.sc c.zn 0 0 0 && decide (c.raw.size = 0))))))
def rightC (c : Chg) : Nat := if okC c = true then 0 else 2

set_option maxHeartbeats 8000000 in
set_option maxRecDepth 100000 in
theorem bright_any (c : Chg) (v : Value) (w : World) (ht : LTab w) (h : Row32 w v c.us) (hf : FitC c) :
    Calls Tryd.prog 15 #[chV c v] w fun e w' => e = .returned (.int .i64 (rightC c : Int)) ∧ Below w.heap.size w w' := by
  obtain ⟨kd, us, fl, dy, sc, zn, raw⟩ := c
  simp only [FitC] at hf
  simp only at h
  obtain ⟨hf1, hf2, _, _, _, hf3⟩ := hf
  have HR := hide h
  obtain ⟨a, cap, rfl, hl, _, _⟩ := h
  obtain ⟨n, hnn⟩ : ∃ n, us.length = n := ⟨_, rfl⟩
  rw [hnn] at HR hl ⊢
  have HN := hide hnn
  clear hnn
  have HA := hide (show Below w.heap.size w (w.alloc (.cells #[.int .u8 (kd : Int), .slice a n cap, .int .u8 (fl : Int), .int .i64 dy, .int .i64 sc, .int .i64 zn, .string raw] 33)) from (Below.refl _ w).alloc (Nat.le_refl _) _)
  have HT := hide ht
  clear ht
  obtain ⟨C, hC⟩ : ∃ C, rightC ⟨kd, us, fl, dy, sc, zn, raw⟩ = C := ⟨_, rfl⟩
  rw [hC]
  have HC := hide hC
  clear hC
  simp only [chV, chC]
  have HRA := hide ((unhide HR).below (unhide HA))
  have HTA := hide ((unhide HT).below (unhide HA))
  have HAF := hide (fun W => areFlags_any fl W hf2)
  have HIT := hide (fun W (hW : LTab W) => isTime_any dy sc zn W hW)
  have HCK := hide (fun W (hW : Row32 W (.slice a n cap) us) => check_any (.slice a n cap) us W hW)
  have heq := fun W => eqT dy sc zn 0 0 0 W
  have hem : raw.toList.isEmpty = decide (raw.size = 0) := empty_size raw
  obtain ⟨R, hR⟩ : ∃ R, rightB dy sc zn = R := ⟨_, rfl⟩
  obtain ⟨S, hS⟩ : ∃ S, sameT dy sc zn 0 0 0 = S := ⟨_, rfl⟩
  obtain ⟨K, hK⟩ : ∃ K, chk us = K := ⟨_, rfl⟩
  rw [hR] at HIT
  rw [hS] at heq
  rw [hK] at HCK
  have HC2 : Hid ((if (if kd = 1 then decide (n = 0) && (decide (fl ≤ 31) && (R && decide (raw.size ≤ 65536)))
    else decide (2 ≤ kd ∧ kd ≤ 6) && (decide (kd = 6 → n = 0) && (decide (kd = 6 ∨ kd = 5 → fl = 0) && (decide (K = 0) && (decide (fl ≤ 31) && (S && decide (raw.size = 0))))))) = true then 0 else 2) = C) := hide (by
    rw [← unhide HC]; unfold rightC okC; simp only; rw [unhide HN, hR, hS, hK])
  clear hR hS hK HC HN HR HT
  have k1 : ∀ j : Nat, kd = j → ((kd : Int) == (j : Int)) = true := fun j h => by simp; omega
  have k2 : ∀ j : Nat, kd ≠ j → ((kd : Int) == (j : Int)) = false := fun j h => by simp; omega
  have K1 := hide k1
  have K2 := hide k2
  clear k1 k2
  by_cases q1 : kd = 1
  · have e1 : ((kd : Int) == 1) = true := by simpa using unhide K1 1 (by omega)
    have e6 : ((kd : Int) == 6) = false := by simpa using unhide K2 6 (by omega)
    have e5 : ((kd : Int) == 5) = false := by simpa using unhide K2 5 (by omega)
    have e2 : ((kd : Int) == 2) = false := by simpa using unhide K2 2 (by omega)
    have e3 : ((kd : Int) == 3) = false := by simpa using unhide K2 3 (by omega)
    have e4 : ((kd : Int) == 4) = false := by simpa using unhide K2 4 (by omega)
    by_cases hn : n = 0
    · have dn : ((n : Int) == 0) = true := by simp; omega
      by_cases hF : fl ≤ 31
      · rw [decide_eq_true hF] at HAF
        cases R with
        | false =>
          obtain rfl : 2 = C := by
            have h := unhide HC2
            first
            | (simp_all; done)
            | (rw [if_neg (by intro hh; simp at hh; omega)] at h; exact h)
            | (simp_all; omega)
            | (simp_all; rw [if_neg (by first | omega | (rintro ⟨h1, _⟩; omega) | (rintro ⟨⟨h1, h2⟩, _⟩; omega))] at h; exact h)
          clear HC2
          clear hn q1
          go_enter Tryd.func15, Tryd.ntmps15
          go_wp2_with fail
          refine (unhide HAF _).mono ?_
          rintro e w5 ⟨rfl, h5⟩
          subst h5
          go_wp2_with fail
          refine (unhide HIT _ (unhide HTA)).mono ?_
          rintro e w6 ⟨rfl, b6⟩
          have HB := hide (belows' (unhide HA) b6)
          clear b6 HIT HTA HA
          go_wp2
          go_ret
          exact ⟨rfl, unhide HB⟩
        | true =>
          have IZ := hide (fun W (hb : Below (w.alloc (.cells #[.int .u8 (kd : Int), .slice a n cap, .int .u8 (fl : Int), .int .i64 dy, .int .i64 sc, .int .i64 zn, .string raw] 33)).heap.size (w.alloc (.cells #[.int .u8 (kd : Int), .slice a n cap, .int .u8 (fl : Int), .int .i64 dy, .int .i64 sc, .int .i64 zn, .string raw] 33)) W) => (hb.cell (p := ⟨w.heap.size, 6, none⟩) (by simp)).trans (show _ = some (.string raw) by rw [World.cell?_alloc_at _ _ _ _ (by simp)]; rfl))
          by_cases hZ : raw.size ≤ 65536
          · have dz : decide ((raw.size : Int) ≤ 65536) = true := decide_eq_true (by omega)
            obtain rfl : 0 = C := by
              have h := unhide HC2
              first
              | (simp_all; done)
              | (rw [if_neg (by intro hh; simp at hh; omega)] at h; exact h)
              | (simp_all; omega)
              | (simp_all; rw [if_neg (by first | omega | (rintro ⟨h1, _⟩; omega) | (rintro ⟨⟨h1, h2⟩, _⟩; omega))] at h; exact h)
            clear HC2
            clear hn hZ q1
            go_enter Tryd.func15, Tryd.ntmps15
            go_wp2_with fail
            refine (unhide HAF _).mono ?_
            rintro e w5 ⟨rfl, h5⟩
            subst h5
            go_wp2_with fail
            refine (unhide HIT _ (unhide HTA)).mono ?_
            rintro e w6 ⟨rfl, b6⟩
            have HB := hide (belows' (unhide HA) b6)
            have z6 := unhide IZ _ b6
            clear IZ b6 HIT HTA HA
            go_wp2
            go_ret
            exact ⟨rfl, unhide HB⟩
          · have dz : decide ((raw.size : Int) ≤ 65536) = false := decide_eq_false (by omega)
            obtain rfl : 2 = C := by
              have h := unhide HC2
              first
              | (simp_all; done)
              | (rw [if_neg (by intro hh; simp at hh; omega)] at h; exact h)
              | (simp_all; omega)
              | (simp_all; rw [if_neg (by first | omega | (rintro ⟨h1, _⟩; omega) | (rintro ⟨⟨h1, h2⟩, _⟩; omega))] at h; exact h)
            clear HC2
            clear hn hZ q1
            go_enter Tryd.func15, Tryd.ntmps15
            go_wp2_with fail
            refine (unhide HAF _).mono ?_
            rintro e w5 ⟨rfl, h5⟩
            subst h5
            go_wp2_with fail
            refine (unhide HIT _ (unhide HTA)).mono ?_
            rintro e w6 ⟨rfl, b6⟩
            have HB := hide (belows' (unhide HA) b6)
            have z6 := unhide IZ _ b6
            clear IZ b6 HIT HTA HA
            go_wp2
            go_ret
            exact ⟨rfl, unhide HB⟩
      · rw [decide_eq_false hF] at HAF
        obtain rfl : 2 = C := by
          have h := unhide HC2
          first
          | (simp_all; done)
          | (rw [if_neg (by intro hh; simp at hh; omega)] at h; exact h)
          | (simp_all; omega)
          | (simp_all; rw [if_neg (by first | omega | (rintro ⟨h1, _⟩; omega) | (rintro ⟨⟨h1, h2⟩, _⟩; omega))] at h; exact h)
        clear HC2
        clear hn q1
        go_enter Tryd.func15, Tryd.ntmps15
        go_wp2_with fail
        refine (unhide HAF _).mono ?_
        rintro e w5 ⟨rfl, h5⟩
        subst h5
        go_wp2
        go_ret
        exact ⟨rfl, unhide HA⟩
    · have dn : ((n : Int) == 0) = false := by simp; omega
      obtain rfl : 2 = C := by
        have h := unhide HC2
        first
        | (simp_all; done)
        | (rw [if_neg (by intro hh; simp at hh; omega)] at h; exact h)
        | (simp_all; omega)
        | (simp_all; rw [if_neg (by first | omega | (rintro ⟨h1, _⟩; omega) | (rintro ⟨⟨h1, h2⟩, _⟩; omega))] at h; exact h)
      clear HC2
      clear hn q1
      go_enter Tryd.func15, Tryd.ntmps15
      go_wp2
      go_ret
      exact ⟨rfl, unhide HA⟩
  · skip
    by_cases q6 : kd = 6
    · have e1 : ((kd : Int) == 1) = false := by simpa using unhide K2 1 (by omega)
      have e6 : ((kd : Int) == 6) = true := by simpa using unhide K1 6 (by omega)
      have e5 : ((kd : Int) == 5) = false := by simpa using unhide K2 5 (by omega)
      have e2 : ((kd : Int) == 2) = false := by simpa using unhide K2 2 (by omega)
      have e3 : ((kd : Int) == 3) = false := by simpa using unhide K2 3 (by omega)
      have e4 : ((kd : Int) == 4) = false := by simpa using unhide K2 4 (by omega)
      by_cases hn : n = 0
      · have dn : decide ((n : Int) > 0) = false := decide_eq_false (by omega)
        have dn2 : decide (0 < n) = false := decide_eq_false (by omega)
        by_cases hL : fl = 0
        · have dl : ((fl : Int) != 0) = false := by simp; omega
          by_cases hK0 : K = 0
          · subst hK0
            by_cases hF : fl ≤ 31
            · rw [decide_eq_true hF] at HAF
              cases S with
              | false =>
                obtain rfl : 2 = C := by
                  have h := unhide HC2
                  first
                  | (simp_all; done)
                  | (rw [if_neg (by intro hh; simp at hh; omega)] at h; exact h)
                  | (simp_all; omega)
                  | (simp_all; rw [if_neg (by first | omega | (rintro ⟨h1, _⟩; omega) | (rintro ⟨⟨h1, h2⟩, _⟩; omega))] at h; exact h)
                clear HC2
                clear q6 hn hL
                go_enter Tryd.func15, Tryd.ntmps15
                go_wp2_with fail
                refine (unhide HCK _ (unhide HRA)).mono ?_
                rintro e w4 ⟨rfl, q4, h4⟩
                have HB := hide (below_drewN (unhide HA) q4)
                rw [← h4] at HB
                have z2 : w4.cell? ⟨w.heap.size, 2, none⟩ = some (.int .u8 (fl : Int)) := by rw [h4, World.cell?_drewN, World.cell?_alloc_at _ _ _ _ (by simp)]; rfl
                have z3 : w4.cell? ⟨w.heap.size, 3, none⟩ = some (.int .i64 dy) := by rw [h4, World.cell?_drewN, World.cell?_alloc_at _ _ _ _ (by simp)]; rfl
                have z4 : w4.cell? ⟨w.heap.size, 4, none⟩ = some (.int .i64 sc) := by rw [h4, World.cell?_drewN, World.cell?_alloc_at _ _ _ _ (by simp)]; rfl
                have z5 : w4.cell? ⟨w.heap.size, 5, none⟩ = some (.int .i64 zn) := by rw [h4, World.cell?_drewN, World.cell?_alloc_at _ _ _ _ (by simp)]; rfl
                have z6 : w4.cell? ⟨w.heap.size, 6, none⟩ = some (.string raw) := by rw [h4, World.cell?_drewN, World.cell?_alloc_at _ _ _ _ (by simp)]; rfl
                clear h4 HCK HRA HA
                go_wp2_with fail
                refine (unhide HAF _).mono ?_
                rintro e w5 ⟨rfl, h5⟩
                subst h5
                go_wp2
                go_ret
                exact ⟨rfl, unhide HB⟩
              | true =>
                by_cases hZ : raw.size = 0
                · rw [decide_eq_true hZ] at hem
                  obtain rfl : 0 = C := by
                    have h := unhide HC2
                    first
                    | (simp_all; done)
                    | (rw [if_neg (by intro hh; simp at hh; omega)] at h; exact h)
                    | (simp_all; omega)
                    | (simp_all; rw [if_neg (by first | omega | (rintro ⟨h1, _⟩; omega) | (rintro ⟨⟨h1, h2⟩, _⟩; omega))] at h; exact h)
                  clear HC2
                  clear hZ q6 hn hL
                  go_enter Tryd.func15, Tryd.ntmps15
                  go_wp2_with fail
                  refine (unhide HCK _ (unhide HRA)).mono ?_
                  rintro e w4 ⟨rfl, q4, h4⟩
                  have HB := hide (below_drewN (unhide HA) q4)
                  rw [← h4] at HB
                  have z2 : w4.cell? ⟨w.heap.size, 2, none⟩ = some (.int .u8 (fl : Int)) := by rw [h4, World.cell?_drewN, World.cell?_alloc_at _ _ _ _ (by simp)]; rfl
                  have z3 : w4.cell? ⟨w.heap.size, 3, none⟩ = some (.int .i64 dy) := by rw [h4, World.cell?_drewN, World.cell?_alloc_at _ _ _ _ (by simp)]; rfl
                  have z4 : w4.cell? ⟨w.heap.size, 4, none⟩ = some (.int .i64 sc) := by rw [h4, World.cell?_drewN, World.cell?_alloc_at _ _ _ _ (by simp)]; rfl
                  have z5 : w4.cell? ⟨w.heap.size, 5, none⟩ = some (.int .i64 zn) := by rw [h4, World.cell?_drewN, World.cell?_alloc_at _ _ _ _ (by simp)]; rfl
                  have z6 : w4.cell? ⟨w.heap.size, 6, none⟩ = some (.string raw) := by rw [h4, World.cell?_drewN, World.cell?_alloc_at _ _ _ _ (by simp)]; rfl
                  clear h4 HCK HRA HA
                  go_wp2_with fail
                  refine (unhide HAF _).mono ?_
                  rintro e w5 ⟨rfl, h5⟩
                  subst h5
                  go_wp2
                  go_ret
                  exact ⟨rfl, unhide HB⟩
                · rw [decide_eq_false hZ] at hem
                  obtain rfl : 2 = C := by
                    have h := unhide HC2
                    first
                    | (simp_all; done)
                    | (rw [if_neg (by intro hh; simp at hh; omega)] at h; exact h)
                    | (simp_all; omega)
                    | (simp_all; rw [if_neg (by first | omega | (rintro ⟨h1, _⟩; omega) | (rintro ⟨⟨h1, h2⟩, _⟩; omega))] at h; exact h)
                  clear HC2
                  clear hZ q6 hn hL
                  go_enter Tryd.func15, Tryd.ntmps15
                  go_wp2_with fail
                  refine (unhide HCK _ (unhide HRA)).mono ?_
                  rintro e w4 ⟨rfl, q4, h4⟩
                  have HB := hide (below_drewN (unhide HA) q4)
                  rw [← h4] at HB
                  have z2 : w4.cell? ⟨w.heap.size, 2, none⟩ = some (.int .u8 (fl : Int)) := by rw [h4, World.cell?_drewN, World.cell?_alloc_at _ _ _ _ (by simp)]; rfl
                  have z3 : w4.cell? ⟨w.heap.size, 3, none⟩ = some (.int .i64 dy) := by rw [h4, World.cell?_drewN, World.cell?_alloc_at _ _ _ _ (by simp)]; rfl
                  have z4 : w4.cell? ⟨w.heap.size, 4, none⟩ = some (.int .i64 sc) := by rw [h4, World.cell?_drewN, World.cell?_alloc_at _ _ _ _ (by simp)]; rfl
                  have z5 : w4.cell? ⟨w.heap.size, 5, none⟩ = some (.int .i64 zn) := by rw [h4, World.cell?_drewN, World.cell?_alloc_at _ _ _ _ (by simp)]; rfl
                  have z6 : w4.cell? ⟨w.heap.size, 6, none⟩ = some (.string raw) := by rw [h4, World.cell?_drewN, World.cell?_alloc_at _ _ _ _ (by simp)]; rfl
                  clear h4 HCK HRA HA
                  go_wp2_with fail
                  refine (unhide HAF _).mono ?_
                  rintro e w5 ⟨rfl, h5⟩
                  subst h5
                  go_wp2
                  go_ret
                  exact ⟨rfl, unhide HB⟩
            · rw [decide_eq_false hF] at HAF
              obtain rfl : 2 = C := by
                have h := unhide HC2
                first
                | (simp_all; done)
                | (rw [if_neg (by intro hh; simp at hh; omega)] at h; exact h)
                | (simp_all; omega)
                | (simp_all; rw [if_neg (by first | omega | (rintro ⟨h1, _⟩; omega) | (rintro ⟨⟨h1, h2⟩, _⟩; omega))] at h; exact h)
              clear HC2
              clear q6 hn hL
              go_enter Tryd.func15, Tryd.ntmps15
              go_wp2_with fail
              refine (unhide HCK _ (unhide HRA)).mono ?_
              rintro e w4 ⟨rfl, q4, h4⟩
              have HB := hide (below_drewN (unhide HA) q4)
              rw [← h4] at HB
              have z2 : w4.cell? ⟨w.heap.size, 2, none⟩ = some (.int .u8 (fl : Int)) := by rw [h4, World.cell?_drewN, World.cell?_alloc_at _ _ _ _ (by simp)]; rfl
              have z3 : w4.cell? ⟨w.heap.size, 3, none⟩ = some (.int .i64 dy) := by rw [h4, World.cell?_drewN, World.cell?_alloc_at _ _ _ _ (by simp)]; rfl
              have z4 : w4.cell? ⟨w.heap.size, 4, none⟩ = some (.int .i64 sc) := by rw [h4, World.cell?_drewN, World.cell?_alloc_at _ _ _ _ (by simp)]; rfl
              have z5 : w4.cell? ⟨w.heap.size, 5, none⟩ = some (.int .i64 zn) := by rw [h4, World.cell?_drewN, World.cell?_alloc_at _ _ _ _ (by simp)]; rfl
              have z6 : w4.cell? ⟨w.heap.size, 6, none⟩ = some (.string raw) := by rw [h4, World.cell?_drewN, World.cell?_alloc_at _ _ _ _ (by simp)]; rfl
              clear h4 HCK HRA HA
              go_wp2_with fail
              refine (unhide HAF _).mono ?_
              rintro e w5 ⟨rfl, h5⟩
              subst h5
              go_wp2
              go_ret
              exact ⟨rfl, unhide HB⟩
          · have hKb : ((K : Int) == 0) = false := by simp; omega
            obtain rfl : 2 = C := by
              have h := unhide HC2
              first
              | (simp_all; done)
              | (rw [if_neg (by intro hh; simp at hh; omega)] at h; exact h)
              | (simp_all; omega)
              | (simp_all; rw [if_neg (by first | omega | (rintro ⟨h1, _⟩; omega) | (rintro ⟨⟨h1, h2⟩, _⟩; omega))] at h; exact h)
            clear HC2
            clear q6 hn hL
            go_enter Tryd.func15, Tryd.ntmps15
            go_wp2_with fail
            refine (unhide HCK _ (unhide HRA)).mono ?_
            rintro e w4 ⟨rfl, q4, h4⟩
            have HB := hide (below_drewN (unhide HA) q4)
            rw [← h4] at HB
            have z2 : w4.cell? ⟨w.heap.size, 2, none⟩ = some (.int .u8 (fl : Int)) := by rw [h4, World.cell?_drewN, World.cell?_alloc_at _ _ _ _ (by simp)]; rfl
            have z3 : w4.cell? ⟨w.heap.size, 3, none⟩ = some (.int .i64 dy) := by rw [h4, World.cell?_drewN, World.cell?_alloc_at _ _ _ _ (by simp)]; rfl
            have z4 : w4.cell? ⟨w.heap.size, 4, none⟩ = some (.int .i64 sc) := by rw [h4, World.cell?_drewN, World.cell?_alloc_at _ _ _ _ (by simp)]; rfl
            have z5 : w4.cell? ⟨w.heap.size, 5, none⟩ = some (.int .i64 zn) := by rw [h4, World.cell?_drewN, World.cell?_alloc_at _ _ _ _ (by simp)]; rfl
            have z6 : w4.cell? ⟨w.heap.size, 6, none⟩ = some (.string raw) := by rw [h4, World.cell?_drewN, World.cell?_alloc_at _ _ _ _ (by simp)]; rfl
            clear h4 HCK HRA HA
            go_wp2
            go_ret
            exact ⟨rfl, unhide HB⟩
        · have dl : ((fl : Int) != 0) = true := by simp; omega
          obtain rfl : 2 = C := by
            have h := unhide HC2
            first
            | (simp_all; done)
            | (rw [if_neg (by intro hh; simp at hh; omega)] at h; exact h)
            | (simp_all; omega)
            | (simp_all; rw [if_neg (by first | omega | (rintro ⟨h1, _⟩; omega) | (rintro ⟨⟨h1, h2⟩, _⟩; omega))] at h; exact h)
          clear HC2
          clear q6 hn
          go_enter Tryd.func15, Tryd.ntmps15
          go_wp2
          go_ret
          exact ⟨rfl, unhide HA⟩
      · have dn : decide ((n : Int) > 0) = true := decide_eq_true (by omega)
        have dn2 : decide (0 < n) = true := decide_eq_true (by omega)
        obtain rfl : 2 = C := by
          have h := unhide HC2
          first
          | (simp_all; done)
          | (rw [if_neg (by intro hh; simp at hh; omega)] at h; exact h)
          | (simp_all; omega)
          | (simp_all; rw [if_neg (by first | omega | (rintro ⟨h1, _⟩; omega) | (rintro ⟨⟨h1, h2⟩, _⟩; omega))] at h; exact h)
        clear HC2
        clear q6
        go_enter Tryd.func15, Tryd.ntmps15
        go_wp2
        go_ret
        exact ⟨rfl, unhide HA⟩
    · skip
      by_cases q5 : kd = 5
      · have e1 : ((kd : Int) == 1) = false := by simpa using unhide K2 1 (by omega)
        have e6 : ((kd : Int) == 6) = false := by simpa using unhide K2 6 (by omega)
        have e5 : ((kd : Int) == 5) = true := by simpa using unhide K1 5 (by omega)
        have e2 : ((kd : Int) == 2) = false := by simpa using unhide K2 2 (by omega)
        have e3 : ((kd : Int) == 3) = false := by simpa using unhide K2 3 (by omega)
        have e4 : ((kd : Int) == 4) = false := by simpa using unhide K2 4 (by omega)
        by_cases hL : fl = 0
        · have dl : ((fl : Int) != 0) = false := by simp; omega
          by_cases hK0 : K = 0
          · subst hK0
            by_cases hF : fl ≤ 31
            · rw [decide_eq_true hF] at HAF
              cases S with
              | false =>
                obtain rfl : 2 = C := by
                  have h := unhide HC2
                  first
                  | (simp_all; done)
                  | (rw [if_neg (by intro hh; simp at hh; omega)] at h; exact h)
                  | (simp_all; omega)
                  | (simp_all; rw [if_neg (by first | omega | (rintro ⟨h1, _⟩; omega) | (rintro ⟨⟨h1, h2⟩, _⟩; omega))] at h; exact h)
                clear HC2
                clear q5 hL
                go_enter Tryd.func15, Tryd.ntmps15
                go_wp2_with fail
                refine (unhide HCK _ (unhide HRA)).mono ?_
                rintro e w4 ⟨rfl, q4, h4⟩
                have HB := hide (below_drewN (unhide HA) q4)
                rw [← h4] at HB
                have z2 : w4.cell? ⟨w.heap.size, 2, none⟩ = some (.int .u8 (fl : Int)) := by rw [h4, World.cell?_drewN, World.cell?_alloc_at _ _ _ _ (by simp)]; rfl
                have z3 : w4.cell? ⟨w.heap.size, 3, none⟩ = some (.int .i64 dy) := by rw [h4, World.cell?_drewN, World.cell?_alloc_at _ _ _ _ (by simp)]; rfl
                have z4 : w4.cell? ⟨w.heap.size, 4, none⟩ = some (.int .i64 sc) := by rw [h4, World.cell?_drewN, World.cell?_alloc_at _ _ _ _ (by simp)]; rfl
                have z5 : w4.cell? ⟨w.heap.size, 5, none⟩ = some (.int .i64 zn) := by rw [h4, World.cell?_drewN, World.cell?_alloc_at _ _ _ _ (by simp)]; rfl
                have z6 : w4.cell? ⟨w.heap.size, 6, none⟩ = some (.string raw) := by rw [h4, World.cell?_drewN, World.cell?_alloc_at _ _ _ _ (by simp)]; rfl
                clear h4 HCK HRA HA
                go_wp2_with fail
                refine (unhide HAF _).mono ?_
                rintro e w5 ⟨rfl, h5⟩
                subst h5
                go_wp2
                go_ret
                exact ⟨rfl, unhide HB⟩
              | true =>
                by_cases hZ : raw.size = 0
                · rw [decide_eq_true hZ] at hem
                  obtain rfl : 0 = C := by
                    have h := unhide HC2
                    first
                    | (simp_all; done)
                    | (rw [if_neg (by intro hh; simp at hh; omega)] at h; exact h)
                    | (simp_all; omega)
                    | (simp_all; rw [if_neg (by first | omega | (rintro ⟨h1, _⟩; omega) | (rintro ⟨⟨h1, h2⟩, _⟩; omega))] at h; exact h)
                  clear HC2
                  clear hZ q5 hL
                  go_enter Tryd.func15, Tryd.ntmps15
                  go_wp2_with fail
                  refine (unhide HCK _ (unhide HRA)).mono ?_
                  rintro e w4 ⟨rfl, q4, h4⟩
                  have HB := hide (below_drewN (unhide HA) q4)
                  rw [← h4] at HB
                  have z2 : w4.cell? ⟨w.heap.size, 2, none⟩ = some (.int .u8 (fl : Int)) := by rw [h4, World.cell?_drewN, World.cell?_alloc_at _ _ _ _ (by simp)]; rfl
                  have z3 : w4.cell? ⟨w.heap.size, 3, none⟩ = some (.int .i64 dy) := by rw [h4, World.cell?_drewN, World.cell?_alloc_at _ _ _ _ (by simp)]; rfl
                  have z4 : w4.cell? ⟨w.heap.size, 4, none⟩ = some (.int .i64 sc) := by rw [h4, World.cell?_drewN, World.cell?_alloc_at _ _ _ _ (by simp)]; rfl
                  have z5 : w4.cell? ⟨w.heap.size, 5, none⟩ = some (.int .i64 zn) := by rw [h4, World.cell?_drewN, World.cell?_alloc_at _ _ _ _ (by simp)]; rfl
                  have z6 : w4.cell? ⟨w.heap.size, 6, none⟩ = some (.string raw) := by rw [h4, World.cell?_drewN, World.cell?_alloc_at _ _ _ _ (by simp)]; rfl
                  clear h4 HCK HRA HA
                  go_wp2_with fail
                  refine (unhide HAF _).mono ?_
                  rintro e w5 ⟨rfl, h5⟩
                  subst h5
                  go_wp2
                  go_ret
                  exact ⟨rfl, unhide HB⟩
                · rw [decide_eq_false hZ] at hem
                  obtain rfl : 2 = C := by
                    have h := unhide HC2
                    first
                    | (simp_all; done)
                    | (rw [if_neg (by intro hh; simp at hh; omega)] at h; exact h)
                    | (simp_all; omega)
                    | (simp_all; rw [if_neg (by first | omega | (rintro ⟨h1, _⟩; omega) | (rintro ⟨⟨h1, h2⟩, _⟩; omega))] at h; exact h)
                  clear HC2
                  clear hZ q5 hL
                  go_enter Tryd.func15, Tryd.ntmps15
                  go_wp2_with fail
                  refine (unhide HCK _ (unhide HRA)).mono ?_
                  rintro e w4 ⟨rfl, q4, h4⟩
                  have HB := hide (below_drewN (unhide HA) q4)
                  rw [← h4] at HB
                  have z2 : w4.cell? ⟨w.heap.size, 2, none⟩ = some (.int .u8 (fl : Int)) := by rw [h4, World.cell?_drewN, World.cell?_alloc_at _ _ _ _ (by simp)]; rfl
                  have z3 : w4.cell? ⟨w.heap.size, 3, none⟩ = some (.int .i64 dy) := by rw [h4, World.cell?_drewN, World.cell?_alloc_at _ _ _ _ (by simp)]; rfl
                  have z4 : w4.cell? ⟨w.heap.size, 4, none⟩ = some (.int .i64 sc) := by rw [h4, World.cell?_drewN, World.cell?_alloc_at _ _ _ _ (by simp)]; rfl
                  have z5 : w4.cell? ⟨w.heap.size, 5, none⟩ = some (.int .i64 zn) := by rw [h4, World.cell?_drewN, World.cell?_alloc_at _ _ _ _ (by simp)]; rfl
                  have z6 : w4.cell? ⟨w.heap.size, 6, none⟩ = some (.string raw) := by rw [h4, World.cell?_drewN, World.cell?_alloc_at _ _ _ _ (by simp)]; rfl
                  clear h4 HCK HRA HA
                  go_wp2_with fail
                  refine (unhide HAF _).mono ?_
                  rintro e w5 ⟨rfl, h5⟩
                  subst h5
                  go_wp2
                  go_ret
                  exact ⟨rfl, unhide HB⟩
            · rw [decide_eq_false hF] at HAF
              obtain rfl : 2 = C := by
                have h := unhide HC2
                first
                | (simp_all; done)
                | (rw [if_neg (by intro hh; simp at hh; omega)] at h; exact h)
                | (simp_all; omega)
                | (simp_all; rw [if_neg (by first | omega | (rintro ⟨h1, _⟩; omega) | (rintro ⟨⟨h1, h2⟩, _⟩; omega))] at h; exact h)
              clear HC2
              clear q5 hL
              go_enter Tryd.func15, Tryd.ntmps15
              go_wp2_with fail
              refine (unhide HCK _ (unhide HRA)).mono ?_
              rintro e w4 ⟨rfl, q4, h4⟩
              have HB := hide (below_drewN (unhide HA) q4)
              rw [← h4] at HB
              have z2 : w4.cell? ⟨w.heap.size, 2, none⟩ = some (.int .u8 (fl : Int)) := by rw [h4, World.cell?_drewN, World.cell?_alloc_at _ _ _ _ (by simp)]; rfl
              have z3 : w4.cell? ⟨w.heap.size, 3, none⟩ = some (.int .i64 dy) := by rw [h4, World.cell?_drewN, World.cell?_alloc_at _ _ _ _ (by simp)]; rfl
              have z4 : w4.cell? ⟨w.heap.size, 4, none⟩ = some (.int .i64 sc) := by rw [h4, World.cell?_drewN, World.cell?_alloc_at _ _ _ _ (by simp)]; rfl
              have z5 : w4.cell? ⟨w.heap.size, 5, none⟩ = some (.int .i64 zn) := by rw [h4, World.cell?_drewN, World.cell?_alloc_at _ _ _ _ (by simp)]; rfl
              have z6 : w4.cell? ⟨w.heap.size, 6, none⟩ = some (.string raw) := by rw [h4, World.cell?_drewN, World.cell?_alloc_at _ _ _ _ (by simp)]; rfl
              clear h4 HCK HRA HA
              go_wp2_with fail
              refine (unhide HAF _).mono ?_
              rintro e w5 ⟨rfl, h5⟩
              subst h5
              go_wp2
              go_ret
              exact ⟨rfl, unhide HB⟩
          · have hKb : ((K : Int) == 0) = false := by simp; omega
            obtain rfl : 2 = C := by
              have h := unhide HC2
              first
              | (simp_all; done)
              | (rw [if_neg (by intro hh; simp at hh; omega)] at h; exact h)
              | (simp_all; omega)
              | (simp_all; rw [if_neg (by first | omega | (rintro ⟨h1, _⟩; omega) | (rintro ⟨⟨h1, h2⟩, _⟩; omega))] at h; exact h)
            clear HC2
            clear q5 hL
            go_enter Tryd.func15, Tryd.ntmps15
            go_wp2_with fail
            refine (unhide HCK _ (unhide HRA)).mono ?_
            rintro e w4 ⟨rfl, q4, h4⟩
            have HB := hide (below_drewN (unhide HA) q4)
            rw [← h4] at HB
            have z2 : w4.cell? ⟨w.heap.size, 2, none⟩ = some (.int .u8 (fl : Int)) := by rw [h4, World.cell?_drewN, World.cell?_alloc_at _ _ _ _ (by simp)]; rfl
            have z3 : w4.cell? ⟨w.heap.size, 3, none⟩ = some (.int .i64 dy) := by rw [h4, World.cell?_drewN, World.cell?_alloc_at _ _ _ _ (by simp)]; rfl
            have z4 : w4.cell? ⟨w.heap.size, 4, none⟩ = some (.int .i64 sc) := by rw [h4, World.cell?_drewN, World.cell?_alloc_at _ _ _ _ (by simp)]; rfl
            have z5 : w4.cell? ⟨w.heap.size, 5, none⟩ = some (.int .i64 zn) := by rw [h4, World.cell?_drewN, World.cell?_alloc_at _ _ _ _ (by simp)]; rfl
            have z6 : w4.cell? ⟨w.heap.size, 6, none⟩ = some (.string raw) := by rw [h4, World.cell?_drewN, World.cell?_alloc_at _ _ _ _ (by simp)]; rfl
            clear h4 HCK HRA HA
            go_wp2
            go_ret
            exact ⟨rfl, unhide HB⟩
        · have dl : ((fl : Int) != 0) = true := by simp; omega
          obtain rfl : 2 = C := by
            have h := unhide HC2
            first
            | (simp_all; done)
            | (rw [if_neg (by intro hh; simp at hh; omega)] at h; exact h)
            | (simp_all; omega)
            | (simp_all; rw [if_neg (by first | omega | (rintro ⟨h1, _⟩; omega) | (rintro ⟨⟨h1, h2⟩, _⟩; omega))] at h; exact h)
          clear HC2
          clear q5
          go_enter Tryd.func15, Tryd.ntmps15
          go_wp2
          go_ret
          exact ⟨rfl, unhide HA⟩
      · skip
        by_cases q2 : kd = 2
        · have e1 : ((kd : Int) == 1) = false := by simpa using unhide K2 1 (by omega)
          have e6 : ((kd : Int) == 6) = false := by simpa using unhide K2 6 (by omega)
          have e5 : ((kd : Int) == 5) = false := by simpa using unhide K2 5 (by omega)
          have e2 : ((kd : Int) == 2) = true := by simpa using unhide K1 2 (by omega)
          have e3 : ((kd : Int) == 3) = false := by simpa using unhide K2 3 (by omega)
          have e4 : ((kd : Int) == 4) = false := by simpa using unhide K2 4 (by omega)
          by_cases hK0 : K = 0
          · subst hK0
            by_cases hF : fl ≤ 31
            · rw [decide_eq_true hF] at HAF
              cases S with
              | false =>
                obtain rfl : 2 = C := by
                  have h := unhide HC2
                  first
                  | (simp_all; done)
                  | (rw [if_neg (by intro hh; simp at hh; omega)] at h; exact h)
                  | (simp_all; omega)
                  | (simp_all; rw [if_neg (by first | omega | (rintro ⟨h1, _⟩; omega) | (rintro ⟨⟨h1, h2⟩, _⟩; omega))] at h; exact h)
                clear HC2
                clear q2
                go_enter Tryd.func15, Tryd.ntmps15
                go_wp2_with fail
                refine (unhide HCK _ (unhide HRA)).mono ?_
                rintro e w4 ⟨rfl, q4, h4⟩
                have HB := hide (below_drewN (unhide HA) q4)
                rw [← h4] at HB
                have z2 : w4.cell? ⟨w.heap.size, 2, none⟩ = some (.int .u8 (fl : Int)) := by rw [h4, World.cell?_drewN, World.cell?_alloc_at _ _ _ _ (by simp)]; rfl
                have z3 : w4.cell? ⟨w.heap.size, 3, none⟩ = some (.int .i64 dy) := by rw [h4, World.cell?_drewN, World.cell?_alloc_at _ _ _ _ (by simp)]; rfl
                have z4 : w4.cell? ⟨w.heap.size, 4, none⟩ = some (.int .i64 sc) := by rw [h4, World.cell?_drewN, World.cell?_alloc_at _ _ _ _ (by simp)]; rfl
                have z5 : w4.cell? ⟨w.heap.size, 5, none⟩ = some (.int .i64 zn) := by rw [h4, World.cell?_drewN, World.cell?_alloc_at _ _ _ _ (by simp)]; rfl
                have z6 : w4.cell? ⟨w.heap.size, 6, none⟩ = some (.string raw) := by rw [h4, World.cell?_drewN, World.cell?_alloc_at _ _ _ _ (by simp)]; rfl
                clear h4 HCK HRA HA
                go_wp2_with fail
                refine (unhide HAF _).mono ?_
                rintro e w5 ⟨rfl, h5⟩
                subst h5
                go_wp2
                go_ret
                exact ⟨rfl, unhide HB⟩
              | true =>
                by_cases hZ : raw.size = 0
                · rw [decide_eq_true hZ] at hem
                  obtain rfl : 0 = C := by
                    have h := unhide HC2
                    first
                    | (simp_all; done)
                    | (rw [if_neg (by intro hh; simp at hh; omega)] at h; exact h)
                    | (simp_all; omega)
                    | (simp_all; rw [if_neg (by first | omega | (rintro ⟨h1, _⟩; omega) | (rintro ⟨⟨h1, h2⟩, _⟩; omega))] at h; exact h)
                  clear HC2
                  clear hZ q2
                  go_enter Tryd.func15, Tryd.ntmps15
                  go_wp2_with fail
                  refine (unhide HCK _ (unhide HRA)).mono ?_
                  rintro e w4 ⟨rfl, q4, h4⟩
                  have HB := hide (below_drewN (unhide HA) q4)
                  rw [← h4] at HB
                  have z2 : w4.cell? ⟨w.heap.size, 2, none⟩ = some (.int .u8 (fl : Int)) := by rw [h4, World.cell?_drewN, World.cell?_alloc_at _ _ _ _ (by simp)]; rfl
                  have z3 : w4.cell? ⟨w.heap.size, 3, none⟩ = some (.int .i64 dy) := by rw [h4, World.cell?_drewN, World.cell?_alloc_at _ _ _ _ (by simp)]; rfl
                  have z4 : w4.cell? ⟨w.heap.size, 4, none⟩ = some (.int .i64 sc) := by rw [h4, World.cell?_drewN, World.cell?_alloc_at _ _ _ _ (by simp)]; rfl
                  have z5 : w4.cell? ⟨w.heap.size, 5, none⟩ = some (.int .i64 zn) := by rw [h4, World.cell?_drewN, World.cell?_alloc_at _ _ _ _ (by simp)]; rfl
                  have z6 : w4.cell? ⟨w.heap.size, 6, none⟩ = some (.string raw) := by rw [h4, World.cell?_drewN, World.cell?_alloc_at _ _ _ _ (by simp)]; rfl
                  clear h4 HCK HRA HA
                  go_wp2_with fail
                  refine (unhide HAF _).mono ?_
                  rintro e w5 ⟨rfl, h5⟩
                  subst h5
                  go_wp2
                  go_ret
                  exact ⟨rfl, unhide HB⟩
                · rw [decide_eq_false hZ] at hem
                  obtain rfl : 2 = C := by
                    have h := unhide HC2
                    first
                    | (simp_all; done)
                    | (rw [if_neg (by intro hh; simp at hh; omega)] at h; exact h)
                    | (simp_all; omega)
                    | (simp_all; rw [if_neg (by first | omega | (rintro ⟨h1, _⟩; omega) | (rintro ⟨⟨h1, h2⟩, _⟩; omega))] at h; exact h)
                  clear HC2
                  clear hZ q2
                  go_enter Tryd.func15, Tryd.ntmps15
                  go_wp2_with fail
                  refine (unhide HCK _ (unhide HRA)).mono ?_
                  rintro e w4 ⟨rfl, q4, h4⟩
                  have HB := hide (below_drewN (unhide HA) q4)
                  rw [← h4] at HB
                  have z2 : w4.cell? ⟨w.heap.size, 2, none⟩ = some (.int .u8 (fl : Int)) := by rw [h4, World.cell?_drewN, World.cell?_alloc_at _ _ _ _ (by simp)]; rfl
                  have z3 : w4.cell? ⟨w.heap.size, 3, none⟩ = some (.int .i64 dy) := by rw [h4, World.cell?_drewN, World.cell?_alloc_at _ _ _ _ (by simp)]; rfl
                  have z4 : w4.cell? ⟨w.heap.size, 4, none⟩ = some (.int .i64 sc) := by rw [h4, World.cell?_drewN, World.cell?_alloc_at _ _ _ _ (by simp)]; rfl
                  have z5 : w4.cell? ⟨w.heap.size, 5, none⟩ = some (.int .i64 zn) := by rw [h4, World.cell?_drewN, World.cell?_alloc_at _ _ _ _ (by simp)]; rfl
                  have z6 : w4.cell? ⟨w.heap.size, 6, none⟩ = some (.string raw) := by rw [h4, World.cell?_drewN, World.cell?_alloc_at _ _ _ _ (by simp)]; rfl
                  clear h4 HCK HRA HA
                  go_wp2_with fail
                  refine (unhide HAF _).mono ?_
                  rintro e w5 ⟨rfl, h5⟩
                  subst h5
                  go_wp2
                  go_ret
                  exact ⟨rfl, unhide HB⟩
            · rw [decide_eq_false hF] at HAF
              obtain rfl : 2 = C := by
                have h := unhide HC2
                first
                | (simp_all; done)
                | (rw [if_neg (by intro hh; simp at hh; omega)] at h; exact h)
                | (simp_all; omega)
                | (simp_all; rw [if_neg (by first | omega | (rintro ⟨h1, _⟩; omega) | (rintro ⟨⟨h1, h2⟩, _⟩; omega))] at h; exact h)
              clear HC2
              clear q2
              go_enter Tryd.func15, Tryd.ntmps15
              go_wp2_with fail
              refine (unhide HCK _ (unhide HRA)).mono ?_
              rintro e w4 ⟨rfl, q4, h4⟩
              have HB := hide (below_drewN (unhide HA) q4)
              rw [← h4] at HB
              have z2 : w4.cell? ⟨w.heap.size, 2, none⟩ = some (.int .u8 (fl : Int)) := by rw [h4, World.cell?_drewN, World.cell?_alloc_at _ _ _ _ (by simp)]; rfl
              have z3 : w4.cell? ⟨w.heap.size, 3, none⟩ = some (.int .i64 dy) := by rw [h4, World.cell?_drewN, World.cell?_alloc_at _ _ _ _ (by simp)]; rfl
              have z4 : w4.cell? ⟨w.heap.size, 4, none⟩ = some (.int .i64 sc) := by rw [h4, World.cell?_drewN, World.cell?_alloc_at _ _ _ _ (by simp)]; rfl
              have z5 : w4.cell? ⟨w.heap.size, 5, none⟩ = some (.int .i64 zn) := by rw [h4, World.cell?_drewN, World.cell?_alloc_at _ _ _ _ (by simp)]; rfl
              have z6 : w4.cell? ⟨w.heap.size, 6, none⟩ = some (.string raw) := by rw [h4, World.cell?_drewN, World.cell?_alloc_at _ _ _ _ (by simp)]; rfl
              clear h4 HCK HRA HA
              go_wp2_with fail
              refine (unhide HAF _).mono ?_
              rintro e w5 ⟨rfl, h5⟩
              subst h5
              go_wp2
              go_ret
              exact ⟨rfl, unhide HB⟩
          · have hKb : ((K : Int) == 0) = false := by simp; omega
            obtain rfl : 2 = C := by
              have h := unhide HC2
              first
              | (simp_all; done)
              | (rw [if_neg (by intro hh; simp at hh; omega)] at h; exact h)
              | (simp_all; omega)
              | (simp_all; rw [if_neg (by first | omega | (rintro ⟨h1, _⟩; omega) | (rintro ⟨⟨h1, h2⟩, _⟩; omega))] at h; exact h)
            clear HC2
            clear q2
            go_enter Tryd.func15, Tryd.ntmps15
            go_wp2_with fail
            refine (unhide HCK _ (unhide HRA)).mono ?_
            rintro e w4 ⟨rfl, q4, h4⟩
            have HB := hide (below_drewN (unhide HA) q4)
            rw [← h4] at HB
            have z2 : w4.cell? ⟨w.heap.size, 2, none⟩ = some (.int .u8 (fl : Int)) := by rw [h4, World.cell?_drewN, World.cell?_alloc_at _ _ _ _ (by simp)]; rfl
            have z3 : w4.cell? ⟨w.heap.size, 3, none⟩ = some (.int .i64 dy) := by rw [h4, World.cell?_drewN, World.cell?_alloc_at _ _ _ _ (by simp)]; rfl
            have z4 : w4.cell? ⟨w.heap.size, 4, none⟩ = some (.int .i64 sc) := by rw [h4, World.cell?_drewN, World.cell?_alloc_at _ _ _ _ (by simp)]; rfl
            have z5 : w4.cell? ⟨w.heap.size, 5, none⟩ = some (.int .i64 zn) := by rw [h4, World.cell?_drewN, World.cell?_alloc_at _ _ _ _ (by simp)]; rfl
            have z6 : w4.cell? ⟨w.heap.size, 6, none⟩ = some (.string raw) := by rw [h4, World.cell?_drewN, World.cell?_alloc_at _ _ _ _ (by simp)]; rfl
            clear h4 HCK HRA HA
            go_wp2
            go_ret
            exact ⟨rfl, unhide HB⟩
        · skip
          by_cases q3 : kd = 3
          · have e1 : ((kd : Int) == 1) = false := by simpa using unhide K2 1 (by omega)
            have e6 : ((kd : Int) == 6) = false := by simpa using unhide K2 6 (by omega)
            have e5 : ((kd : Int) == 5) = false := by simpa using unhide K2 5 (by omega)
            have e2 : ((kd : Int) == 2) = false := by simpa using unhide K2 2 (by omega)
            have e3 : ((kd : Int) == 3) = true := by simpa using unhide K1 3 (by omega)
            have e4 : ((kd : Int) == 4) = false := by simpa using unhide K2 4 (by omega)
            by_cases hK0 : K = 0
            · subst hK0
              by_cases hF : fl ≤ 31
              · rw [decide_eq_true hF] at HAF
                cases S with
                | false =>
                  obtain rfl : 2 = C := by
                    have h := unhide HC2
                    first
                    | (simp_all; done)
                    | (rw [if_neg (by intro hh; simp at hh; omega)] at h; exact h)
                    | (simp_all; omega)
                    | (simp_all; rw [if_neg (by first | omega | (rintro ⟨h1, _⟩; omega) | (rintro ⟨⟨h1, h2⟩, _⟩; omega))] at h; exact h)
                  clear HC2
                  clear q3
                  go_enter Tryd.func15, Tryd.ntmps15
                  go_wp2_with fail
                  refine (unhide HCK _ (unhide HRA)).mono ?_
                  rintro e w4 ⟨rfl, q4, h4⟩
                  have HB := hide (below_drewN (unhide HA) q4)
                  rw [← h4] at HB
                  have z2 : w4.cell? ⟨w.heap.size, 2, none⟩ = some (.int .u8 (fl : Int)) := by rw [h4, World.cell?_drewN, World.cell?_alloc_at _ _ _ _ (by simp)]; rfl
                  have z3 : w4.cell? ⟨w.heap.size, 3, none⟩ = some (.int .i64 dy) := by rw [h4, World.cell?_drewN, World.cell?_alloc_at _ _ _ _ (by simp)]; rfl
                  have z4 : w4.cell? ⟨w.heap.size, 4, none⟩ = some (.int .i64 sc) := by rw [h4, World.cell?_drewN, World.cell?_alloc_at _ _ _ _ (by simp)]; rfl
                  have z5 : w4.cell? ⟨w.heap.size, 5, none⟩ = some (.int .i64 zn) := by rw [h4, World.cell?_drewN, World.cell?_alloc_at _ _ _ _ (by simp)]; rfl
                  have z6 : w4.cell? ⟨w.heap.size, 6, none⟩ = some (.string raw) := by rw [h4, World.cell?_drewN, World.cell?_alloc_at _ _ _ _ (by simp)]; rfl
                  clear h4 HCK HRA HA
                  go_wp2_with fail
                  refine (unhide HAF _).mono ?_
                  rintro e w5 ⟨rfl, h5⟩
                  subst h5
                  go_wp2
                  go_ret
                  exact ⟨rfl, unhide HB⟩
                | true =>
                  by_cases hZ : raw.size = 0
                  · rw [decide_eq_true hZ] at hem
                    obtain rfl : 0 = C := by
                      have h := unhide HC2
                      first
                      | (simp_all; done)
                      | (rw [if_neg (by intro hh; simp at hh; omega)] at h; exact h)
                      | (simp_all; omega)
                      | (simp_all; rw [if_neg (by first | omega | (rintro ⟨h1, _⟩; omega) | (rintro ⟨⟨h1, h2⟩, _⟩; omega))] at h; exact h)
                    clear HC2
                    clear hZ q3
                    go_enter Tryd.func15, Tryd.ntmps15
                    go_wp2_with fail
                    refine (unhide HCK _ (unhide HRA)).mono ?_
                    rintro e w4 ⟨rfl, q4, h4⟩
                    have HB := hide (below_drewN (unhide HA) q4)
                    rw [← h4] at HB
                    have z2 : w4.cell? ⟨w.heap.size, 2, none⟩ = some (.int .u8 (fl : Int)) := by rw [h4, World.cell?_drewN, World.cell?_alloc_at _ _ _ _ (by simp)]; rfl
                    have z3 : w4.cell? ⟨w.heap.size, 3, none⟩ = some (.int .i64 dy) := by rw [h4, World.cell?_drewN, World.cell?_alloc_at _ _ _ _ (by simp)]; rfl
                    have z4 : w4.cell? ⟨w.heap.size, 4, none⟩ = some (.int .i64 sc) := by rw [h4, World.cell?_drewN, World.cell?_alloc_at _ _ _ _ (by simp)]; rfl
                    have z5 : w4.cell? ⟨w.heap.size, 5, none⟩ = some (.int .i64 zn) := by rw [h4, World.cell?_drewN, World.cell?_alloc_at _ _ _ _ (by simp)]; rfl
                    have z6 : w4.cell? ⟨w.heap.size, 6, none⟩ = some (.string raw) := by rw [h4, World.cell?_drewN, World.cell?_alloc_at _ _ _ _ (by simp)]; rfl
                    clear h4 HCK HRA HA
                    go_wp2_with fail
                    refine (unhide HAF _).mono ?_
                    rintro e w5 ⟨rfl, h5⟩
                    subst h5
                    go_wp2
                    go_ret
                    exact ⟨rfl, unhide HB⟩
                  · rw [decide_eq_false hZ] at hem
                    obtain rfl : 2 = C := by
                      have h := unhide HC2
                      first
                      | (simp_all; done)
                      | (rw [if_neg (by intro hh; simp at hh; omega)] at h; exact h)
                      | (simp_all; omega)
                      | (simp_all; rw [if_neg (by first | omega | (rintro ⟨h1, _⟩; omega) | (rintro ⟨⟨h1, h2⟩, _⟩; omega))] at h; exact h)
                    clear HC2
                    clear hZ q3
                    go_enter Tryd.func15, Tryd.ntmps15
                    go_wp2_with fail
                    refine (unhide HCK _ (unhide HRA)).mono ?_
                    rintro e w4 ⟨rfl, q4, h4⟩
                    have HB := hide (below_drewN (unhide HA) q4)
                    rw [← h4] at HB
                    have z2 : w4.cell? ⟨w.heap.size, 2, none⟩ = some (.int .u8 (fl : Int)) := by rw [h4, World.cell?_drewN, World.cell?_alloc_at _ _ _ _ (by simp)]; rfl
                    have z3 : w4.cell? ⟨w.heap.size, 3, none⟩ = some (.int .i64 dy) := by rw [h4, World.cell?_drewN, World.cell?_alloc_at _ _ _ _ (by simp)]; rfl
                    have z4 : w4.cell? ⟨w.heap.size, 4, none⟩ = some (.int .i64 sc) := by rw [h4, World.cell?_drewN, World.cell?_alloc_at _ _ _ _ (by simp)]; rfl
                    have z5 : w4.cell? ⟨w.heap.size, 5, none⟩ = some (.int .i64 zn) := by rw [h4, World.cell?_drewN, World.cell?_alloc_at _ _ _ _ (by simp)]; rfl
                    have z6 : w4.cell? ⟨w.heap.size, 6, none⟩ = some (.string raw) := by rw [h4, World.cell?_drewN, World.cell?_alloc_at _ _ _ _ (by simp)]; rfl
                    clear h4 HCK HRA HA
                    go_wp2_with fail
                    refine (unhide HAF _).mono ?_
                    rintro e w5 ⟨rfl, h5⟩
                    subst h5
                    go_wp2
                    go_ret
                    exact ⟨rfl, unhide HB⟩
              · rw [decide_eq_false hF] at HAF
                obtain rfl : 2 = C := by
                  have h := unhide HC2
                  first
                  | (simp_all; done)
                  | (rw [if_neg (by intro hh; simp at hh; omega)] at h; exact h)
                  | (simp_all; omega)
                  | (simp_all; rw [if_neg (by first | omega | (rintro ⟨h1, _⟩; omega) | (rintro ⟨⟨h1, h2⟩, _⟩; omega))] at h; exact h)
                clear HC2
                clear q3
                go_enter Tryd.func15, Tryd.ntmps15
                go_wp2_with fail
                refine (unhide HCK _ (unhide HRA)).mono ?_
                rintro e w4 ⟨rfl, q4, h4⟩
                have HB := hide (below_drewN (unhide HA) q4)
                rw [← h4] at HB
                have z2 : w4.cell? ⟨w.heap.size, 2, none⟩ = some (.int .u8 (fl : Int)) := by rw [h4, World.cell?_drewN, World.cell?_alloc_at _ _ _ _ (by simp)]; rfl
                have z3 : w4.cell? ⟨w.heap.size, 3, none⟩ = some (.int .i64 dy) := by rw [h4, World.cell?_drewN, World.cell?_alloc_at _ _ _ _ (by simp)]; rfl
                have z4 : w4.cell? ⟨w.heap.size, 4, none⟩ = some (.int .i64 sc) := by rw [h4, World.cell?_drewN, World.cell?_alloc_at _ _ _ _ (by simp)]; rfl
                have z5 : w4.cell? ⟨w.heap.size, 5, none⟩ = some (.int .i64 zn) := by rw [h4, World.cell?_drewN, World.cell?_alloc_at _ _ _ _ (by simp)]; rfl
                have z6 : w4.cell? ⟨w.heap.size, 6, none⟩ = some (.string raw) := by rw [h4, World.cell?_drewN, World.cell?_alloc_at _ _ _ _ (by simp)]; rfl
                clear h4 HCK HRA HA
                go_wp2_with fail
                refine (unhide HAF _).mono ?_
                rintro e w5 ⟨rfl, h5⟩
                subst h5
                go_wp2
                go_ret
                exact ⟨rfl, unhide HB⟩
            · have hKb : ((K : Int) == 0) = false := by simp; omega
              obtain rfl : 2 = C := by
                have h := unhide HC2
                first
                | (simp_all; done)
                | (rw [if_neg (by intro hh; simp at hh; omega)] at h; exact h)
                | (simp_all; omega)
                | (simp_all; rw [if_neg (by first | omega | (rintro ⟨h1, _⟩; omega) | (rintro ⟨⟨h1, h2⟩, _⟩; omega))] at h; exact h)
              clear HC2
              clear q3
              go_enter Tryd.func15, Tryd.ntmps15
              go_wp2_with fail
              refine (unhide HCK _ (unhide HRA)).mono ?_
              rintro e w4 ⟨rfl, q4, h4⟩
              have HB := hide (below_drewN (unhide HA) q4)
              rw [← h4] at HB
              have z2 : w4.cell? ⟨w.heap.size, 2, none⟩ = some (.int .u8 (fl : Int)) := by rw [h4, World.cell?_drewN, World.cell?_alloc_at _ _ _ _ (by simp)]; rfl
              have z3 : w4.cell? ⟨w.heap.size, 3, none⟩ = some (.int .i64 dy) := by rw [h4, World.cell?_drewN, World.cell?_alloc_at _ _ _ _ (by simp)]; rfl
              have z4 : w4.cell? ⟨w.heap.size, 4, none⟩ = some (.int .i64 sc) := by rw [h4, World.cell?_drewN, World.cell?_alloc_at _ _ _ _ (by simp)]; rfl
              have z5 : w4.cell? ⟨w.heap.size, 5, none⟩ = some (.int .i64 zn) := by rw [h4, World.cell?_drewN, World.cell?_alloc_at _ _ _ _ (by simp)]; rfl
              have z6 : w4.cell? ⟨w.heap.size, 6, none⟩ = some (.string raw) := by rw [h4, World.cell?_drewN, World.cell?_alloc_at _ _ _ _ (by simp)]; rfl
              clear h4 HCK HRA HA
              go_wp2
              go_ret
              exact ⟨rfl, unhide HB⟩
          · skip
            by_cases q4 : kd = 4
            · have e1 : ((kd : Int) == 1) = false := by simpa using unhide K2 1 (by omega)
              have e6 : ((kd : Int) == 6) = false := by simpa using unhide K2 6 (by omega)
              have e5 : ((kd : Int) == 5) = false := by simpa using unhide K2 5 (by omega)
              have e2 : ((kd : Int) == 2) = false := by simpa using unhide K2 2 (by omega)
              have e3 : ((kd : Int) == 3) = false := by simpa using unhide K2 3 (by omega)
              have e4 : ((kd : Int) == 4) = true := by simpa using unhide K1 4 (by omega)
              by_cases hK0 : K = 0
              · subst hK0
                by_cases hF : fl ≤ 31
                · rw [decide_eq_true hF] at HAF
                  cases S with
                  | false =>
                    obtain rfl : 2 = C := by
                      have h := unhide HC2
                      first
                      | (simp_all; done)
                      | (rw [if_neg (by intro hh; simp at hh; omega)] at h; exact h)
                      | (simp_all; omega)
                      | (simp_all; rw [if_neg (by first | omega | (rintro ⟨h1, _⟩; omega) | (rintro ⟨⟨h1, h2⟩, _⟩; omega))] at h; exact h)
                    clear HC2
                    clear q4
                    go_enter Tryd.func15, Tryd.ntmps15
                    go_wp2_with fail
                    refine (unhide HCK _ (unhide HRA)).mono ?_
                    rintro e w4 ⟨rfl, q4, h4⟩
                    have HB := hide (below_drewN (unhide HA) q4)
                    rw [← h4] at HB
                    have z2 : w4.cell? ⟨w.heap.size, 2, none⟩ = some (.int .u8 (fl : Int)) := by rw [h4, World.cell?_drewN, World.cell?_alloc_at _ _ _ _ (by simp)]; rfl
                    have z3 : w4.cell? ⟨w.heap.size, 3, none⟩ = some (.int .i64 dy) := by rw [h4, World.cell?_drewN, World.cell?_alloc_at _ _ _ _ (by simp)]; rfl
                    have z4 : w4.cell? ⟨w.heap.size, 4, none⟩ = some (.int .i64 sc) := by rw [h4, World.cell?_drewN, World.cell?_alloc_at _ _ _ _ (by simp)]; rfl
                    have z5 : w4.cell? ⟨w.heap.size, 5, none⟩ = some (.int .i64 zn) := by rw [h4, World.cell?_drewN, World.cell?_alloc_at _ _ _ _ (by simp)]; rfl
                    have z6 : w4.cell? ⟨w.heap.size, 6, none⟩ = some (.string raw) := by rw [h4, World.cell?_drewN, World.cell?_alloc_at _ _ _ _ (by simp)]; rfl
                    clear h4 HCK HRA HA
                    go_wp2_with fail
                    refine (unhide HAF _).mono ?_
                    rintro e w5 ⟨rfl, h5⟩
                    subst h5
                    go_wp2
                    go_ret
                    exact ⟨rfl, unhide HB⟩
                  | true =>
                    by_cases hZ : raw.size = 0
                    · rw [decide_eq_true hZ] at hem
                      obtain rfl : 0 = C := by
                        have h := unhide HC2
                        first
                        | (simp_all; done)
                        | (rw [if_neg (by intro hh; simp at hh; omega)] at h; exact h)
                        | (simp_all; omega)
                        | (simp_all; rw [if_neg (by first | omega | (rintro ⟨h1, _⟩; omega) | (rintro ⟨⟨h1, h2⟩, _⟩; omega))] at h; exact h)
                      clear HC2
                      clear hZ q4
                      go_enter Tryd.func15, Tryd.ntmps15
                      go_wp2_with fail
                      refine (unhide HCK _ (unhide HRA)).mono ?_
                      rintro e w4 ⟨rfl, q4, h4⟩
                      have HB := hide (below_drewN (unhide HA) q4)
                      rw [← h4] at HB
                      have z2 : w4.cell? ⟨w.heap.size, 2, none⟩ = some (.int .u8 (fl : Int)) := by rw [h4, World.cell?_drewN, World.cell?_alloc_at _ _ _ _ (by simp)]; rfl
                      have z3 : w4.cell? ⟨w.heap.size, 3, none⟩ = some (.int .i64 dy) := by rw [h4, World.cell?_drewN, World.cell?_alloc_at _ _ _ _ (by simp)]; rfl
                      have z4 : w4.cell? ⟨w.heap.size, 4, none⟩ = some (.int .i64 sc) := by rw [h4, World.cell?_drewN, World.cell?_alloc_at _ _ _ _ (by simp)]; rfl
                      have z5 : w4.cell? ⟨w.heap.size, 5, none⟩ = some (.int .i64 zn) := by rw [h4, World.cell?_drewN, World.cell?_alloc_at _ _ _ _ (by simp)]; rfl
                      have z6 : w4.cell? ⟨w.heap.size, 6, none⟩ = some (.string raw) := by rw [h4, World.cell?_drewN, World.cell?_alloc_at _ _ _ _ (by simp)]; rfl
                      clear h4 HCK HRA HA
                      go_wp2_with fail
                      refine (unhide HAF _).mono ?_
                      rintro e w5 ⟨rfl, h5⟩
                      subst h5
                      go_wp2
                      go_ret
                      exact ⟨rfl, unhide HB⟩
                    · rw [decide_eq_false hZ] at hem
                      obtain rfl : 2 = C := by
                        have h := unhide HC2
                        first
                        | (simp_all; done)
                        | (rw [if_neg (by intro hh; simp at hh; omega)] at h; exact h)
                        | (simp_all; omega)
                        | (simp_all; rw [if_neg (by first | omega | (rintro ⟨h1, _⟩; omega) | (rintro ⟨⟨h1, h2⟩, _⟩; omega))] at h; exact h)
                      clear HC2
                      clear hZ q4
                      go_enter Tryd.func15, Tryd.ntmps15
                      go_wp2_with fail
                      refine (unhide HCK _ (unhide HRA)).mono ?_
                      rintro e w4 ⟨rfl, q4, h4⟩
                      have HB := hide (below_drewN (unhide HA) q4)
                      rw [← h4] at HB
                      have z2 : w4.cell? ⟨w.heap.size, 2, none⟩ = some (.int .u8 (fl : Int)) := by rw [h4, World.cell?_drewN, World.cell?_alloc_at _ _ _ _ (by simp)]; rfl
                      have z3 : w4.cell? ⟨w.heap.size, 3, none⟩ = some (.int .i64 dy) := by rw [h4, World.cell?_drewN, World.cell?_alloc_at _ _ _ _ (by simp)]; rfl
                      have z4 : w4.cell? ⟨w.heap.size, 4, none⟩ = some (.int .i64 sc) := by rw [h4, World.cell?_drewN, World.cell?_alloc_at _ _ _ _ (by simp)]; rfl
                      have z5 : w4.cell? ⟨w.heap.size, 5, none⟩ = some (.int .i64 zn) := by rw [h4, World.cell?_drewN, World.cell?_alloc_at _ _ _ _ (by simp)]; rfl
                      have z6 : w4.cell? ⟨w.heap.size, 6, none⟩ = some (.string raw) := by rw [h4, World.cell?_drewN, World.cell?_alloc_at _ _ _ _ (by simp)]; rfl
                      clear h4 HCK HRA HA
                      go_wp2_with fail
                      refine (unhide HAF _).mono ?_
                      rintro e w5 ⟨rfl, h5⟩
                      subst h5
                      go_wp2
                      go_ret
                      exact ⟨rfl, unhide HB⟩
                · rw [decide_eq_false hF] at HAF
                  obtain rfl : 2 = C := by
                    have h := unhide HC2
                    first
                    | (simp_all; done)
                    | (rw [if_neg (by intro hh; simp at hh; omega)] at h; exact h)
                    | (simp_all; omega)
                    | (simp_all; rw [if_neg (by first | omega | (rintro ⟨h1, _⟩; omega) | (rintro ⟨⟨h1, h2⟩, _⟩; omega))] at h; exact h)
                  clear HC2
                  clear q4
                  go_enter Tryd.func15, Tryd.ntmps15
                  go_wp2_with fail
                  refine (unhide HCK _ (unhide HRA)).mono ?_
                  rintro e w4 ⟨rfl, q4, h4⟩
                  have HB := hide (below_drewN (unhide HA) q4)
                  rw [← h4] at HB
                  have z2 : w4.cell? ⟨w.heap.size, 2, none⟩ = some (.int .u8 (fl : Int)) := by rw [h4, World.cell?_drewN, World.cell?_alloc_at _ _ _ _ (by simp)]; rfl
                  have z3 : w4.cell? ⟨w.heap.size, 3, none⟩ = some (.int .i64 dy) := by rw [h4, World.cell?_drewN, World.cell?_alloc_at _ _ _ _ (by simp)]; rfl
                  have z4 : w4.cell? ⟨w.heap.size, 4, none⟩ = some (.int .i64 sc) := by rw [h4, World.cell?_drewN, World.cell?_alloc_at _ _ _ _ (by simp)]; rfl
                  have z5 : w4.cell? ⟨w.heap.size, 5, none⟩ = some (.int .i64 zn) := by rw [h4, World.cell?_drewN, World.cell?_alloc_at _ _ _ _ (by simp)]; rfl
                  have z6 : w4.cell? ⟨w.heap.size, 6, none⟩ = some (.string raw) := by rw [h4, World.cell?_drewN, World.cell?_alloc_at _ _ _ _ (by simp)]; rfl
                  clear h4 HCK HRA HA
                  go_wp2_with fail
                  refine (unhide HAF _).mono ?_
                  rintro e w5 ⟨rfl, h5⟩
                  subst h5
                  go_wp2
                  go_ret
                  exact ⟨rfl, unhide HB⟩
              · have hKb : ((K : Int) == 0) = false := by simp; omega
                obtain rfl : 2 = C := by
                  have h := unhide HC2
                  first
                  | (simp_all; done)
                  | (rw [if_neg (by intro hh; simp at hh; omega)] at h; exact h)
                  | (simp_all; omega)
                  | (simp_all; rw [if_neg (by first | omega | (rintro ⟨h1, _⟩; omega) | (rintro ⟨⟨h1, h2⟩, _⟩; omega))] at h; exact h)
                clear HC2
                clear q4
                go_enter Tryd.func15, Tryd.ntmps15
                go_wp2_with fail
                refine (unhide HCK _ (unhide HRA)).mono ?_
                rintro e w4 ⟨rfl, q4, h4⟩
                have HB := hide (below_drewN (unhide HA) q4)
                rw [← h4] at HB
                have z2 : w4.cell? ⟨w.heap.size, 2, none⟩ = some (.int .u8 (fl : Int)) := by rw [h4, World.cell?_drewN, World.cell?_alloc_at _ _ _ _ (by simp)]; rfl
                have z3 : w4.cell? ⟨w.heap.size, 3, none⟩ = some (.int .i64 dy) := by rw [h4, World.cell?_drewN, World.cell?_alloc_at _ _ _ _ (by simp)]; rfl
                have z4 : w4.cell? ⟨w.heap.size, 4, none⟩ = some (.int .i64 sc) := by rw [h4, World.cell?_drewN, World.cell?_alloc_at _ _ _ _ (by simp)]; rfl
                have z5 : w4.cell? ⟨w.heap.size, 5, none⟩ = some (.int .i64 zn) := by rw [h4, World.cell?_drewN, World.cell?_alloc_at _ _ _ _ (by simp)]; rfl
                have z6 : w4.cell? ⟨w.heap.size, 6, none⟩ = some (.string raw) := by rw [h4, World.cell?_drewN, World.cell?_alloc_at _ _ _ _ (by simp)]; rfl
                clear h4 HCK HRA HA
                go_wp2
                go_ret
                exact ⟨rfl, unhide HB⟩
            · skip
              have e1 : ((kd : Int) == 1) = false := by simpa using unhide K2 1 (by omega)
              have e6 : ((kd : Int) == 6) = false := by simpa using unhide K2 6 (by omega)
              have e5 : ((kd : Int) == 5) = false := by simpa using unhide K2 5 (by omega)
              have e2 : ((kd : Int) == 2) = false := by simpa using unhide K2 2 (by omega)
              have e3 : ((kd : Int) == 3) = false := by simpa using unhide K2 3 (by omega)
              have e4 : ((kd : Int) == 4) = false := by simpa using unhide K2 4 (by omega)
              obtain rfl : 2 = C := by
                have h := unhide HC2
                first
                | (simp_all; done)
                | (rw [if_neg (by intro hh; simp at hh; omega)] at h; exact h)
                | (simp_all; omega)
                | (simp_all; rw [if_neg (by first | omega | (rintro ⟨h1, _⟩; omega) | (rintro ⟨⟨h1, h2⟩, _⟩; omega))] at h; exact h)
              clear HC2
              go_enter Tryd.func15, Tryd.ntmps15
              go_wp2
              go_ret
              exact ⟨rfl, unhide HA⟩
end Go.Proofs.YthpjogfclklefaaDoor
