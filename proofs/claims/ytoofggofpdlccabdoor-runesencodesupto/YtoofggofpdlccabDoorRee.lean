/-
  What the document's Encode of layer 6 does, over this seat's program.
-/
import Derived.Test.YtoofggofpdlccabDoorRut
import Derived.Test.YtoofggofpdlccabDoorRgn
set_option linter.unusedVariables false
namespace Go.Proofs.YtoofggofpdlccabDoor
open Go.RowKit Go.Proofs.Rns

theorem encOne_bad {c : Nat} {n : Int} (hc : 1 ≤ c ∧ c ≤ 5) (h : isL n = false) : encOne c n = none := by
  unfold encOne
  by_cases h2 : c = 2
  · rw [if_pos h2]; simp [h]
  · rw [if_neg h2]
    cases hb : byteR c n with
    | none => rfl
    | some b =>
      have h1 := byteR_lt hb
      have h3 := ofB_is (c := c) (b := b) hc.2 h1.1
      rw [h1.2, h] at h3
      cases h3
theorem name_ok {c : Nat} (hc : 1 ≤ c ∧ c ≤ 5) : ∃ nm, nameR c = (nm, 0) := by
  have : c = 1 ∨ c = 2 ∨ c = 3 ∨ c = 4 ∨ c = 5 := by omega
  rcases this with rfl | rfl | rfl | rfl | rfl <;> exact ⟨_, rfl⟩
theorem name_no {c : Nat} (hc : ¬ (1 ≤ c ∧ c ≤ 5)) : nameR c = ([], 14) := by
  simp only [nameR, nameF, namesT, if_neg (show ¬ 1 = c by omega), if_neg (show ¬ 2 = c by omega), if_neg (show ¬ 3 = c by omega), if_neg (show ¬ 4 = c by omega), if_neg (show ¬ 5 = c by omega)]

/-- What the search for a letter's byte has found among the first j. -/
def Hit (c : Nat) (n : Int) (j : Nat) (A : Int) : Prop :=
  (A = -1 ∧ ∀ b, b < j → ¬ ((ofB c b : Int) = n ∧ n ≠ 65533)) ∨ ∃ b, b < j ∧ A = (b : Int) ∧ (ofB c b : Int) = n ∧ n ≠ 65533
theorem Hit.range {c : Nat} {n : Int} {j : Nat} {A : Int} (h : Hit c n j A) (hj : j ≤ 256) : -1 ≤ A ∧ A < 256 := by
  rcases h with ⟨rfl, _⟩ | ⟨b, hb, rfl, _⟩ <;> omega
theorem Hit.yes {c : Nat} {n : Int} {j : Nat} (h1 : (ofB c j : Int) = n) (h2 : n ≠ 65533) : Hit c n (j + 1) (j : Int) := Or.inr ⟨j, by omega, rfl, h1, h2⟩
theorem Hit.no {c : Nat} {n : Int} {j : Nat} {A : Int} (h : Hit c n j A) (h1 : ¬ ((ofB c j : Int) = n ∧ n ≠ 65533)) : Hit c n (j + 1) A := by
  rcases h with ⟨e, h⟩ | ⟨b, hb, e, h⟩
  · refine Or.inl ⟨e, fun b hb => ?_⟩
    rcases Nat.lt_or_ge b j with h3 | h3
    · exact h b h3
    · rw [show b = j by omega]; exact h1
  · exact Or.inr ⟨b, by omega, e, h⟩
theorem Hit.end {c : Nat} {n : Int} {A : Int} (hc : 1 ≤ c ∧ c ≤ 5) (h2 : c ≠ 2) (h : Hit c n 256 A) : (A = -1 ∧ encOne c n = none) ∨ ∃ b : Nat, b < 256 ∧ A = (b : Int) ∧ encOne c n = some [UInt8.ofNat b] := by
  unfold encOne
  rw [if_neg h2]
  rcases h with ⟨e, h⟩ | ⟨b, hb, e, h3, h4⟩
  · refine Or.inl ⟨e, ?_⟩
    have : byteR c n = none := by
      by_cases hn : n = 65533
      · unfold byteR; rw [if_pos hn]
      · exact byteR_miss fun b hb hx => h b hb ⟨hx, hn⟩
    rw [this]; rfl
  · refine Or.inr ⟨b, hb, e, ?_⟩
    rw [byteR_hit ⟨hc.1, hc.2, h2⟩ hb h3 h4]; rfl

set_option maxHeartbeats 2000000 in
set_option maxRecDepth 100000 in
theorem refEncode_ok (c : Nat) (v : Value) (l : List Int) (w : World) (hv : RowI w v l) (hc : 1 ≤ c ∧ c ≤ 5) (hl : l.length ≤ 40000000) :
    Calls Tryd.prog 16 #[.int .u8 c, v] w fun e w' => e = .returned (.tuple #[.string (bts (encR c l).1), .int .i64 (encR c l).2]) ∧ Below w.heap.size w w' := by
  obtain ⟨a, cap, rfl, hn, hcell⟩ := hv
  obtain ⟨nm, hnm⟩ := name_ok hc
  have HNM := refName_any c w (by omega)
  rw [hnm] at HNM
  have HNM := hide HNM
  have HCL := hide hcell
  have henc : encR c l = match encL c l with | some s => (s, 0) | none => ([], 7) := by unfold encR; rw [if_pos hc]; cases encL c l <;> rfl
  have HENC := hide henc
  have HC := hide hc
  have hc256 : c < 256 := by omega
  clear hn hcell henc hnm hc
  go_enter Tryd.func16, Tryd.ntmps16
  go_wp2_with fail
  refine (unhide HNM).mono ?_
  rintro e w1 ⟨rfl, rfl⟩
  go_wp2
  go_loopw [8, 10, 11, 12, 23] (fun x _ _ _ z wr => ∃ (k : Nat) (acc : List UInt8), z = .int .i64 k ∧ k ≤ l.length ∧ acc.length ≤ 4 * k ∧ Hid (encL c (l.take k) = some acc) ∧ x = .string (bts acc) ∧ Below w1.heap.size w1 wr) (fun _ _ _ _ z _ => l.length - (intOf z).toNat)
  case atStart => exact ⟨0, [], rfl, Nat.zero_le _, by simp, hide rfl, rfl, Below.refl _ _⟩
  case round =>
    obtain ⟨k, acc, rfl, hk, hacc, HE, rfl, hbw⟩ := hrel
    by_cases hlt : k < l.length
    · have hcell : ∃ b off, a = some ⟨b, off, none⟩ ∧ wr.cell? ⟨b, off + k, none⟩ = some (.int .i32 l[k]) := by
        rcases unhide HCL with h | ⟨b, off, ha, hb, hcj⟩
        · subst h; simp at hlt
        · exact ⟨b, off, ha, (hbw.cell (p := ⟨b, off + k, none⟩) hb).trans (hcj k hlt)⟩
      obtain ⟨b, off, rfl, hcx⟩ := hcell
      have hlt' : (k : Int) < (l.length : Int) := by omega
      have HTK := hide (encL_take l k hlt acc (unhide HE))
      have HSZ := hide (show (bts acc).size ≤ 160000000 by rw [size_bts]; omega)
      have HW := hide hbw
      have HIS := hide (fun W => is_any l[k] W)
      clear HE hbw
      generalize l[k] = n at hcx HTK HIS
      cases hi : isL n with
      | false =>
        have hfin : encR c l = ([], 7) := by
          rw [unhide HENC]
          have h := unhide HTK
          rw [encOne_bad (unhide HC) hi] at h
          rw [encL_none l (k + 1) (by simpa using h)]
        have HF := hide hfin
        rw [hi] at HIS
        clear hfin hi
        go_wp2_with fail
        refine (unhide HIS _).mono ?_
        rintro e w2 ⟨rfl, rfl⟩
        go_wp2
        go_ret2
        exact ⟨by rw [unhide HF]; rfl, unhide HW⟩
      | true =>
        rw [hi] at HIS
        by_cases h2 : c = 2
        · have e2 : ((c : Int) == 2) = true := by rw [h2]; rfl
          have hnx : encL c (l.take (k + 1)) = some (acc ++ Lib.encodeRune n) := by
            rw [unhide HTK]; simp [encOne, h2, hi]
          have HNX := hide hnx
          have HO := hide (fun W => one_any n W hi)
          have HCT := hide (cat_bts acc (Lib.encodeRune n))
          have hle := (enc_len n).2
          have hsz : (bts acc).size + (bts (Lib.encodeRune n)).size ≤ 9223372036854775807 := by rw [size_bts, size_bts]; omega
          obtain ⟨y, hy⟩ : ∃ y, y = bts (Lib.encodeRune n) := ⟨_, rfl⟩
          rw [← hy] at HO HCT hsz
          clear hi hnx h2 hy
          go_wp2_with fail
          refine (unhide HIS _).mono ?_
          rintro e w2 ⟨rfl, rfl⟩
          go_wp2_with fail
          refine (unhide HO _).mono ?_
          rintro e w3 ⟨rfl, b3⟩
          have HW3 := hide (belows' (unhide HW) b3)
          clear b3
          go_wp2
          exact ⟨⟨k + 1, acc ++ Lib.encodeRune n, by go_num, by omega, by simp; omega, HNX, by rw [unhide HCT], unhide HW3⟩, by simp [intOf]; omega⟩
        · have e2 : ((c : Int) == 2) = false := by simp; omega
          have HC2 := hide h2
          clear hi h2
          go_wp2_with fail
          refine (unhide HIS _).mono ?_
          rintro e w2 ⟨rfl, rfl⟩
          go_wp2
          go_loopw [11, 12] (fun x y wq => ∃ (j : Nat) (A : Int), y = .int .i64 j ∧ j ≤ 256 ∧ x = .int .i64 A ∧ Hid (Hit c n j A) ∧ Below w1.heap.size w1 wq) (fun _ y _ => 256 - (intOf y).toNat)
          case atStart => exact ⟨0, -1, rfl, by omega, rfl, hide (Or.inl ⟨rfl, fun b hb => by omega⟩), unhide HW⟩
          case round =>
            obtain ⟨j, A, rfl, hj, rfl, HH, hbq⟩ := hrel
            have HBQ := hide hbq
            clear hbq HIS
            by_cases hj6 : j < 256
            · have hj' : (j : Int) < 256 := by omega
              have HOF := hide (fun W => refOf_any c j W hc256 hj6)
              by_cases h1 : (ofB c j : Int) = n
              · have q1 : ((ofB c j : Int) == n) = true := by simp [h1]
                by_cases h3 : n = 65533
                · have q3 : (n != 65533) = false := by simp [h3]
                  have HN := hide ((unhide HH).no (j := j) (fun x => x.2 h3))
                  clear h1 h3 HH
                  generalize (ofB c j : Int) = o at q1 HOF
                  go_wp2_with fail
                  refine (unhide HOF _).mono ?_
                  rintro e w4 ⟨rfl, b4⟩
                  have HB4 := hide (belows' (unhide HBQ) b4)
                  clear b4
                  go_wp2
                  exact ⟨⟨j + 1, A, by go_num, by omega, rfl, HN, unhide HB4⟩, by simp [intOf]; omega⟩
                · have q3 : (n != 65533) = true := by simp [h3]
                  have HN := hide (Hit.yes (c := c) (j := j) h1 h3)
                  clear h1 h3 HH
                  generalize (ofB c j : Int) = o at q1 HOF
                  go_wp2_with fail
                  refine (unhide HOF _).mono ?_
                  rintro e w4 ⟨rfl, b4⟩
                  have HB4 := hide (belows' (unhide HBQ) b4)
                  clear b4
                  go_wp2
                  exact ⟨⟨j + 1, j, by go_num, by omega, rfl, HN, unhide HB4⟩, by simp [intOf]; omega⟩
              · have q1 : ((ofB c j : Int) == n) = false := by simp [h1]
                have HN := hide ((unhide HH).no (j := j) (fun x => h1 x.1))
                clear h1 HH
                generalize (ofB c j : Int) = o at q1 HOF
                go_wp2_with fail
                refine (unhide HOF _).mono ?_
                rintro e w4 ⟨rfl, b4⟩
                have HB4 := hide (belows' (unhide HBQ) b4)
                clear b4
                go_wp2
                exact ⟨⟨j + 1, A, by go_num, by omega, rfl, HN, unhide HB4⟩, by simp [intOf]; omega⟩
            · have hj' : ¬ (j : Int) < 256 := by omega
              have hh := unhide HH
              rw [show j = 256 by omega] at hh
              rcases hh.end (unhide HC) (unhide HC2) with ⟨rfl, hone⟩ | ⟨b', hb', rfl, hone⟩
              · have hfin : encR c l = ([], 7) := by
                  rw [unhide HENC]
                  have h := unhide HTK
                  rw [hone] at h
                  rw [encL_none l (k + 1) (by simpa using h)]
                have HF := hide hfin
                clear hfin hone hh HH
                go_wp2
                go_ret2
                exact ⟨by rw [unhide HF]; rfl, unhide HBQ⟩
              · have hnx : encL c (l.take (k + 1)) = some (acc ++ [UInt8.ofNat b']) := by
                  rw [unhide HTK, hone]; rfl
                have HNX := hide hnx
                have HCT := hide (cat_bts acc [UInt8.ofNat b'])
                have hlc := lit_conv wr [(b' : Int)] (by simp; omega) _ rfl 1 rfl
                rw [show ([(b' : Int)].map fun x => x.toNat.toUInt8) = [UInt8.ofNat b'] by first | rfl | (simp only [List.map_cons, List.map_nil, Int.toNat_natCast]; done) | (simp only [List.map_cons, List.map_nil, Int.toNat_natCast]; rfl)] at hlc
                have hsz : (bts acc).size + (bts [UInt8.ofNat b']).size ≤ 9223372036854775807 := by rw [size_bts, size_bts]; simp; omega
                simp only [List.map_cons, List.map_nil] at hlc
                obtain ⟨y, hy⟩ : ∃ y, y = bts [UInt8.ofNat b'] := ⟨_, rfl⟩
                rw [← hy] at hlc HCT hsz
                have hzq := (unhide HBQ).size
                have hneg : ¬ (b' : Int) < 0 := by omega
                clear hone hh HH hnx hy
                go_wp2
                exact ⟨⟨k + 1, acc ++ [UInt8.ofNat b'], by go_num, by omega, by simp; omega, HNX, by rw [unhide HCT], (unhide HBQ).alloc hzq _⟩, by simp [intOf]; omega⟩
    · have hfin : encR c l = (acc, 0) := by
        rw [unhide HENC]
        have h := unhide HE
        rw [List.take_of_length_le (by omega)] at h
        rw [h]
      have HF := hide hfin
      have hlt' : ¬ (k : Int) < (l.length : Int) := by omega
      clear hfin HE
      go_wp2
      go_ret2
      exact ⟨by rw [unhide HF]; rfl, hbw⟩

set_option maxHeartbeats 400000 in
theorem refEncode_no (c : Nat) (v : Value) (w : World) (hc : ¬ (1 ≤ c ∧ c ≤ 5)) (h256 : c < 256) :
    Calls Tryd.prog 16 #[.int .u8 c, v] w fun e w' => e = .returned (.tuple #[.string (bts []), .int .i64 14]) ∧ w' = w := by
  have HC := refName_any c w h256
  rw [name_no hc] at HC
  have HC := hide HC
  clear hc
  go_enter Tryd.func16, Tryd.ntmps16
  go_wp2_with fail
  refine (unhide HC).mono ?_
  rintro e w1 ⟨rfl, rfl⟩
  go_wp2
  go_ret2
  exact ⟨rfl, rfl⟩

/-- The document's Encode. -/
theorem refEncode_any (c : Nat) (v : Value) (l : List Int) (w : World) (hv : RowI w v l) (hc : c < 256) (hl : l.length ≤ 40000000) :
    Calls Tryd.prog 16 #[.int .u8 c, v] w fun e w' => e = .returned (.tuple #[.string (bts (encR c l).1), .int .i64 (encR c l).2]) ∧ Below w.heap.size w w' := by
  by_cases h : 1 ≤ c ∧ c ≤ 5
  · exact refEncode_ok c v l w hv h hl
  · have e : encR c l = ([], 14) := by unfold encR; rw [if_neg h]
    rw [e]
    refine (refEncode_no c v w h hc).mono ?_
    rintro e w1 ⟨rfl, rfl⟩
    exact ⟨rfl, Below.refl _ _⟩
end Go.Proofs.YtoofggofpdlccabDoor
