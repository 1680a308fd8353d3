/-
  What nset.writeEnd and nset.Write do, over this seat's program.
-/
import Derived.Test.YtihgmpebpkjmkaaGreatDoorNwa
import Derived.Test.YtihgmpebpkjmkaaGreatDoorWso
set_option linter.unusedVariables false
namespace Go.Proofs.YtihgmpebpkjmkaaGreatDoor
open Go.RowKit Go.Proofs.Nst

/-- What strconv.FormatUint tells of a number, from the world w on. -/
def FmtN (w : World) (n : Nat) : Prop := ∀ W, Below w.heap.size w W → Calls Tryz.prog 40 #[.int .u64 (n : Int), .int .i64 10] W fun e w' => e = .returned (.string ⟨(Lib.decDigits n).toArray⟩) ∧ Below W.heap.size W w'
theorem fmt_small (w : World) (n : Nat) (h : n < 100) : FmtN w n := by
  intro W _
  have HS := hide (fun W => Tryz.internal_strconv_small n h W)
  have hlt : (n : Int) < 100 := by omega
  have hw : IntKind.i64.wrap (n : Int) = (n : Int) := by rw [IntKind.wrap_i64]; omega
  have HI : Hid (∀ W, Calls Tryz.prog 61 #[.int .u64 (n : Int), .int .i64 10] W fun e w' => e = .returned (.string ⟨(Lib.decDigits n).toArray⟩) ∧ w' = W) := hide (fun W => by
    go_enter Tryz.func61, Tryz.ntmps61
    go_wp2_with fail
    refine (unhide HS _).mono ?_
    rintro e w1 ⟨rfl, hw1⟩
    subst hw1
    go_wp2
    go_ret
    exact ⟨rfl, rfl⟩)
  go_enter Tryz.func40, Tryz.ntmps40
  go_wp2_with fail
  refine (unhide HI _).mono ?_
  rintro e w1 ⟨rfl, hw1⟩
  subst hw1
  go_wp2
  go_ret
  exact ⟨rfl, Below.refl _ _⟩

set_option maxHeartbeats 1000000 in
theorem writeEnd_any {u W : World} {l : List UInt8} {k : Nat} {cs : Array Value} (h : WrX u W k 79 cs l) (n : Nat) (hf : n ≠ 0 → FmtN u n) (hl : l.length + (endT n).length ≤ 1099511627776) (hn : n ≤ 4294967295) :
    Calls Tryz.prog 62 #[.pointer (some ⟨u.heap.size, 0, none⟩), .int .u32 (n : Int)] W fun e w' => e = .returned (.tuple #[]) ∧ WrX u w' k 79 cs (l ++ endT n) := by
  by_cases h0 : n = 0
  · subst h0
    have HS := hide (xStr h (by decide) ⟨#[42]⟩ (by have : (endT 0).length = 1 := rfl; have : (⟨#[42]⟩ : ByteArray).size = 1 := rfl; omega))
    go_enter Tryz.func62, Tryz.ntmps62
    go_wp2_with fail
    refine (unhide HS).mono ?_
    rintro e w1 ⟨rfl, hw⟩
    have HW := hide hw
    clear hw HS h
    go_wp2
    (try simp +zetaDelta only [Exit.noGoto, Exit.inBlock, Exit.then])
    refine bodyPost_ret (results_none rfl _ _ _) rfl ?_
    exact ⟨rfl, unhide HW⟩
  · have hb : ((n : Int) == 0) = false := by simp; omega
    have he : endT n = Lib.decDigits n := by unfold endT; rw [if_neg h0]
    rw [he] at hl ⊢
    have HF := hide (hf h0 W h.wr.bel)
    have HWR := hide h
    have hw : IntKind.u64.wrap (n : Int) = (n : Int) := by rw [IntKind.wrap_u64]; omega
    have HL := hide hl
    clear he hf h h0 hl
    go_enter Tryz.func62, Tryz.ntmps62
    go_wp2_with fail
    refine (unhide HF).mono ?_
    rintro e w1 ⟨rfl, hb1⟩
    have HS := hide (xStr ((unhide HWR).below hb1) (by decide) ⟨(Lib.decDigits n).toArray⟩ (by have := unhide HL; simp only [ByteArray.size, List.size_toArray]; omega))
    clear hb1 HWR HF
    go_wp2_with fail
    refine (unhide HS).mono ?_
    rintro e w2 ⟨rfl, hw2⟩
    have HW : Hid (WrX u w2 k 79 cs (l ++ Lib.decDigits n)) := hide (by simpa using hw2)
    clear hw2 HS
    go_wp2
    go_end0
    exact ⟨rfl, unhide HW⟩

/-- What Write tells. -/
def writeR (l : List Sp) : List UInt8 × Nat := if l = [] ∨ 1024 < l.length then ([], 1) else (writeP l, 0)
/-- The text of the first spans. -/
def accT (l : List Sp) : List UInt8 := joinL (l.map spanT)
theorem joinL_snoc : ∀ (l : List (List UInt8)) (x : List UInt8), l ≠ [] → joinL (l ++ [x]) = joinL l ++ 44 :: x
  | [], x, h => absurd rfl h
  | [y], x, _ => rfl
  | y :: z :: r, x, _ => by
    have ih := joinL_snoc (z :: r) x (by simp)
    show y ++ 44 :: joinL ((z :: r) ++ [x]) = (y ++ 44 :: joinL (z :: r)) ++ 44 :: x
    rw [ih, List.append_assoc]
    rfl
theorem accT_next {l : List Sp} {k : Nat} (h : k < l.length) : accT (l.take (k + 1)) = accT (l.take k) ++ ((if k = 0 then [] else [44]) ++ spanT l[k]) := by
  unfold accT
  rw [List.take_succ_eq_append_getElem h, List.map_append]
  cases k with
  | zero => simp [joinL]
  | succ k =>
    rw [List.map_cons, List.map_nil, joinL_snoc _ _ (by
      intro h9
      have := congrArg List.length h9
      rw [List.length_map, List.length_take, List.length_nil] at this
      omega), if_neg (by omega)]
    rfl
theorem endT_len {n : Nat} (h : n ≤ 4294967295) : (endT n).length ≤ 11 := by
  unfold endT
  split
  · simp
  · have hd : ∀ (k u : Nat), u < 10 ^ k → 1 ≤ k → (Lib.decDigits u).length ≤ k := by
      intro k
      induction k with
      | zero => intro u _ h1; omega
      | succ k ih =>
        intro u hu _
        rw [Lib.decDigits]
        split
        · simp
        · rename_i hge
          rw [List.length_append]
          have h2 : u / 10 < 10 ^ k := by rw [Nat.pow_succ] at hu; omega
          have h3 : 1 ≤ k := by
            rcases Nat.eq_zero_or_pos k with h4 | h4
            · subst h4; simp at hu; omega
            · exact h4
          have := ih (u / 10) h2 h3
          simp
          omega
    have := hd 10 n (by omega) (by omega)
    omega
theorem spanT_len {s : Sp} (h1 : s.1 ≤ 4294967295) (h2 : s.2 ≤ 4294967295) : (spanT s).length ≤ 23 := by
  have a := endT_len h1
  have b := endT_len h2
  unfold spanT
  split
  · rw [List.length_append, List.length_cons]; omega
  · omega
theorem accT_len {l : List Sp} (hf : ∀ x ∈ l, FitS x) : ∀ k, k ≤ l.length → (accT (l.take k)).length ≤ 24 * k
  | 0, _ => by simp [accT, joinL]
  | k + 1, h => by
    have ih := accT_len hf k (by omega)
    have hx := hf l[k] (List.getElem_mem (by omega))
    have hs := spanT_len hx.1 hx.2
    rw [accT_next (by omega), List.length_append, List.length_append]
    split
    · simp; omega
    · simp; omega

set_option maxHeartbeats 2000000 in
set_option maxRecDepth 100000 in
theorem nwrite_any (v : Value) (l : List Sp) (w : World) (h : RowSp w v l) (hf : ∀ x ∈ l, (x.1 ≠ 0 → FmtN w x.1) ∧ (x.2 ≠ 0 → FmtN w x.2)) :
    Calls Tryz.prog 41 #[v] w fun e w' => e = .returned (.tuple #[.string ⟨(writeR l).1.toArray⟩, .int .i64 ((writeR l).2 : Int)]) ∧ Below w.heap.size w w' := by
  have HR := hide h
  obtain ⟨a, cap, rfl, hl, hfit, _⟩ := h
  have HFIT := hide hfit
  have HF := hide hf
  obtain ⟨R, hR⟩ : ∃ R, R = writeR l := ⟨_, rfl⟩
  rw [← hR]
  have HRR := hide hR
  obtain ⟨T, hT⟩ : ∃ T, T = l.length := ⟨_, rfl⟩
  rw [← hT] at HR hl ⊢
  have HTL := hide hT
  clear hfit hf hR hT
  by_cases h0 : T = 0
  · have HV : Hid (R = ([], 1)) := hide (by rw [unhide HRR]; unfold writeR; rw [if_pos (.inl (List.length_eq_zero_iff.1 (by have := unhide HTL; omega)))])
    have hb : ((T : Int) == 0) = true := by simp [h0]
    clear h0
    go_enter Tryz.func41, Tryz.ntmps41
    go_wp2
    go_ret2
    exact ⟨by rw [unhide HV]; rfl, Below.refl _ _⟩
  · have hb : ((T : Int) == 0) = false := by simp; omega
    by_cases h1 : 1024 < T
    · have HV : Hid (R = ([], 1)) := hide (by rw [unhide HRR]; unfold writeR; rw [if_pos (.inr (by have := unhide HTL; omega))])
      have hgt : (T : Int) > 1024 := by omega
      go_enter Tryz.func41, Tryz.ntmps41
      go_wp2
      go_ret2
      exact ⟨by rw [unhide HV]; rfl, Below.refl _ _⟩
    · have HV : Hid (R = (writeP l, 0)) := hide (by
        rw [unhide HRR]
        unfold writeR
        rw [if_neg]
        rintro (h9 | h9)
        · rw [h9] at HTL; exact h0 (unhide HTL)
        · have := unhide HTL; omega)
      have hgt : ¬ (T : Int) > 1024 := by omega
      have HW0 := hide (Wr.new w)
      go_enter Tryz.func41, Tryz.ntmps41
      go_wp2
      go_loopw [5, 6, 17] (fun _ _ z wr => ∃ k : Nat, z = .int .i64 k ∧ k ≤ T ∧ Hid (Wr w wr (accT (l.take k)))) (fun _ _ z _ => T - (intOf z).toNat)
      case atStart => exact ⟨0, rfl, Nat.zero_le _, HW0⟩
      case round =>
        obtain ⟨k, rfl, hk, HW⟩ := hrel
        clear HW0
        by_cases hlt : k < T
        · have hlt1 : (k : Int) < (T : Int) := by omega
          have hkl : k < l.length := by have := unhide HTL; omega
          obtain ⟨b, off, cpk, hv1, hblt, hcell⟩ := RowG.at cellsS_len ((unhide HR).below (unhide HW).bel) (j := k) hkl
          injection hv1 with e1 e2 e3
          subst e1
          have c0 := hcell 0 (by omega)
          have c1 := hcell 1 (by omega)
          simp only [cellsS, List.getElem?_cons_zero, List.getElem?_cons_succ, Nat.add_zero] at c0 c1
          clear e2 e3 hcell
          have HNX := hide (accT_next hkl)
          have hfm := unhide HF l[k] (List.getElem_mem hkl)
          have hft := unhide HFIT l[k] (List.getElem_mem hkl)
          unfold FitS at hft
          have hal := accT_len (unhide HFIT) k (by omega)
          have HSPT : Hid (spanT l[k] = if (l[k]).2 ≠ (l[k]).1 then endT (l[k]).1 ++ 58 :: endT (l[k]).2 else endT (l[k]).1) := hide rfl
          generalize accT (l.take k) = AC at HW HNX hal
          generalize (l[k]).1 = x at c0 hfm hft HSPT
          generalize (l[k]).2 = y at c1 hfm hft HSPT
          have hlx := endT_len hft.1
          have hly := endT_len hft.2
          have HFX := hide hfm.1
          have HFY := hide hfm.2
          have hx32 := hft.1
          have hy32 := hft.2
          clear hfm hft
          have HX1 := hide (WrX.new (unhide HW) 79 #[.int .u32 (x : Int), .int .u32 (y : Int)])
          by_cases hk0 : k = 0
          · have HK0 : (if k = 0 then ([] : List UInt8) else [44]) = [] := if_pos hk0
            have hkg : ¬ (k : Int) > 0 := by omega
            have hkl2 : k ≤ 1024 := by omega
            clear hk0
            have HE1 := hide (writeEnd_any (unhide HX1) x (unhide HFX) (by (try simp); omega) hx32)
            have hbk0 := (unhide HX1).box
            have d0 : (wr.alloc (.cells #[.int .u32 (x : Int), .int .u32 (y : Int)] 79)).cell? ⟨wr.heap.size, 0, none⟩ = some (.int .u32 (x : Int)) := Blk.cell hbk0 0
            clear hbk0 HX1
            go_wp2_with fail
            refine (unhide HE1).mono ?_
            rintro e w2 ⟨rfl, hw2⟩
            have HX2 := hide hw2
            have hbk2 := hw2.box
            have d20 : w2.cell? ⟨wr.heap.size, 0, none⟩ = some (.int .u32 (x : Int)) := Blk.cell hbk2 0
            have d21 : w2.cell? ⟨wr.heap.size, 1, none⟩ = some (.int .u32 (y : Int)) := Blk.cell hbk2 1
            clear hw2 hbk2 HE1 d0
            by_cases hyx : y = x
            · have hye : ((y : Int) == (x : Int)) = true := by simp [hyx]
              have HFN : Hid (Wr w w2 (accT (l.take (k + 1)))) := hide (by
                rw [unhide HNX, HK0, unhide HSPT, if_neg (fun h9 => h9 hyx)]
                simpa [List.append_assoc] using (unhide HX2).wr)
              clear hyx HX2
              go_wp2
              exact ⟨⟨k + 1, by go_num, by omega, HFN⟩, by simp [intOf]; omega⟩
            · have hye : ((y : Int) == (x : Int)) = false := by simp; omega
              have HS3 := hide (xStr (unhide HX2) (by decide) ⟨#[58]⟩ (by rw [show (⟨#[58]⟩ : ByteArray).size = 1 from rfl]; (try simp); omega))
              clear HX2
              go_wp2_with fail
              refine (unhide HS3).mono ?_
              rintro e w3 ⟨rfl, hw3⟩
              have HX3 := hide hw3
              have hbk3 := hw3.box
              have d31 : w3.cell? ⟨wr.heap.size, 1, none⟩ = some (.int .u32 (y : Int)) := Blk.cell hbk3 1
              have HE4 := hide (writeEnd_any hw3 y (unhide HFY) (by (try simp); omega) hy32)
              clear hw3 hbk3 HS3 d20 d21
              go_wp2_with fail
              refine (unhide HE4).mono ?_
              rintro e w4 ⟨rfl, hw4⟩
              have HFN : Hid (Wr w w4 (accT (l.take (k + 1)))) := hide (by
                rw [unhide HNX, HK0, unhide HSPT, if_pos hyx]
                simpa [List.append_assoc] using hw4.wr)
              clear hyx hw4 HE4 HX3 d31
              go_wp2
              exact ⟨⟨k + 1, by go_num, by omega, HFN⟩, by simp [intOf]; omega⟩
          · have HK0 : (if k = 0 then ([] : List UInt8) else [44]) = [44] := if_neg hk0
            have hkg : (k : Int) > 0 := by omega
            have hkl2 : k ≤ 1024 := by omega
            have HS0 := hide (xStr (unhide HX1) (by decide) ⟨#[44]⟩ (by rw [show (⟨#[44]⟩ : ByteArray).size = 1 from rfl]; omega))
            clear hk0 HX1
            go_wp2_with fail
            refine (unhide HS0).mono ?_
            rintro e w1 ⟨rfl, hw1⟩
            have HX1 : Hid (WrX w w1 wr.heap.size 79 #[.int .u32 (x : Int), .int .u32 (y : Int)] (AC ++ [44])) := hide hw1
            clear hw1 HS0
            have HE1 := hide (writeEnd_any (unhide HX1) x (unhide HFX) (by (try simp); omega) hx32)
            have hbk0 := (unhide HX1).box
            have d0 : w1.cell? ⟨wr.heap.size, 0, none⟩ = some (.int .u32 (x : Int)) := Blk.cell hbk0 0
            clear hbk0 HX1
            go_wp2_with fail
            refine (unhide HE1).mono ?_
            rintro e w2 ⟨rfl, hw2⟩
            have HX2 := hide hw2
            have hbk2 := hw2.box
            have d20 : w2.cell? ⟨wr.heap.size, 0, none⟩ = some (.int .u32 (x : Int)) := Blk.cell hbk2 0
            have d21 : w2.cell? ⟨wr.heap.size, 1, none⟩ = some (.int .u32 (y : Int)) := Blk.cell hbk2 1
            clear hw2 hbk2 HE1 d0
            by_cases hyx : y = x
            · have hye : ((y : Int) == (x : Int)) = true := by simp [hyx]
              have HFN : Hid (Wr w w2 (accT (l.take (k + 1)))) := hide (by
                rw [unhide HNX, HK0, unhide HSPT, if_neg (fun h9 => h9 hyx)]
                simpa [List.append_assoc] using (unhide HX2).wr)
              clear hyx HX2
              go_wp2
              exact ⟨⟨k + 1, by go_num, by omega, HFN⟩, by simp [intOf]; omega⟩
            · have hye : ((y : Int) == (x : Int)) = false := by simp; omega
              have HS3 := hide (xStr (unhide HX2) (by decide) ⟨#[58]⟩ (by rw [show (⟨#[58]⟩ : ByteArray).size = 1 from rfl]; (try simp); omega))
              clear HX2
              go_wp2_with fail
              refine (unhide HS3).mono ?_
              rintro e w3 ⟨rfl, hw3⟩
              have HX3 := hide hw3
              have hbk3 := hw3.box
              have d31 : w3.cell? ⟨wr.heap.size, 1, none⟩ = some (.int .u32 (y : Int)) := Blk.cell hbk3 1
              have HE4 := hide (writeEnd_any hw3 y (unhide HFY) (by (try simp); omega) hy32)
              clear hw3 hbk3 HS3 d20 d21
              go_wp2_with fail
              refine (unhide HE4).mono ?_
              rintro e w4 ⟨rfl, hw4⟩
              have HFN : Hid (Wr w w4 (accT (l.take (k + 1)))) := hide (by
                rw [unhide HNX, HK0, unhide HSPT, if_pos hyx]
                simpa [List.append_assoc] using hw4.wr)
              clear hyx hw4 HE4 HX3 d31
              go_wp2
              exact ⟨⟨k + 1, by go_num, by omega, HFN⟩, by simp [intOf]; omega⟩
        · have hlt1 : ¬ (k : Int) < (T : Int) := by omega
          have htk : l.take k = l := List.take_of_length_le (by have := unhide HTL; omega)
          rw [htk] at HW
          have HST := hide (Tryz.Builder_String_any_f _ _ _ wr (unhide HW).isb (unhide HW).bel.size)
          have HB := hide (unhide HW).bel
          have HVW : Hid (writeP l = accT l) := hide rfl
          clear htk HW
          generalize accT l = AC at HST HVW
          go_wp2_with fail
          refine (unhide HST).mono ?_
          rintro e w2 ⟨rfl, _, hb2⟩
          have HB2 := hide ((unhide HB).trans hb2)
          clear hb2 HST
          go_wp2
          go_ret2
          exact ⟨by rw [unhide HV, unhide HVW]; rfl, unhide HB2⟩
end Go.Proofs.YtihgmpebpkjmkaaGreatDoor
