/-
  What missivelaw03.NsetBack does, over this seat's program.
-/
import Derived.Test.YtcoknclifgkcgaaDoorNfm
import Derived.Test.YtcoknclifgkcgaaDoorNlv
import Derived.Test.YtcoknclifgkcgaaDoorNwp
import Derived.Test.YtcoknclifgkcgaaDoorNwh
set_option linter.unusedVariables false
namespace Go.Proofs.YtcoknclifgkcgaaDoor
open Go.RowKit Go.Proofs.Nst

theorem packR_cases (ns : List Nat) : (∃ c, c ≠ 0 ∧ packR ns = ([], c)) ∨ (packR ns = (packS ns, 0) ∧ ns.Pairwise (· < ·) ∧ (packS ns).length ≤ 1024) := by
  unfold packR
  split
  · rename_i hr
    split
    · exact .inl ⟨1, by omega, rfl⟩
    · split
      · rename_i h
        exact .inr ⟨rfl, of_decide_eq_true hr, h⟩
      · exact .inl ⟨1, by omega, rfl⟩
  · exact .inl ⟨12, by omega, rfl⟩
theorem in_take {ns : List Nat} {k n : Nat} (h : k < ns.length) : decide (n ∈ ns.take (k + 1)) = (decide (n ∈ ns.take k) || decide (n = ns[k])) := by
  rw [← Bool.decide_or]
  exact decide_eq_decide.2 (by rw [List.take_succ_eq_append_getElem h, List.mem_append, List.mem_singleton])
theorem written {s : ByteArray} {L : List Sp} (h : parseP s.data.toList = (L, 0)) : writeR L = (s.data.toList, 0) ∧ L.length ≤ 1024 := by
  obtain ⟨h1, h2, h3⟩ := parse_back h
  refine ⟨?_, h3⟩
  unfold writeR
  rw [if_neg (by
    rintro (h4 | h4)
    · rw [h4] at h2; simp at h2
    · omega), h1]
theorem text_back (s : ByteArray) : (⟨s.data.toList.toArray⟩ : ByteArray) = s := by simp
theorem parse_len (s : List UInt8) : (parseP s).1.length ≤ 1024 := by
  unfold parseP
  split
  · split
    · rename_i h; simpa using h
    · simp
  · simp

set_option maxHeartbeats 4000000 in
set_option maxRecDepth 100000 in
theorem nsetBack_walk (s : ByteArray) (vn : Value) (ns : List Nat) (n : Nat) (w : World) (hE : TabB w) (hn : RowNn w vn ns) (hs : s.size ≤ 1048576) (hnl : ns.length ≤ 1048576) :
    Calls Tryd.prog 4 #[.string s, vn, .int .u32 (n : Int)] w fun e w' => e = .returned (.bool true) ∧ Below w.heap.size w w' := by
  obtain ⟨an, cn, hvn, _, hnfit, _⟩ := hn.1
  have HNF := hide hnfit
  have HN := hide hn.1
  have HE := hide hE
  have HNS := hide hnl
  have HL := hide (lives_any w hE.1)
  subst hvn
  obtain ⟨T, hT⟩ : ∃ x, x = ns.length := ⟨_, rfl⟩
  rw [← hT] at HN hnl ⊢
  have HTL := hide hT
  have HP := hide (fun W h => nparse_any s W h (by omega))
  have HFT := hide (parse_fit s.data.toList)
  have HLN := hide (parse_len s.data.toList)
  have HWR := hide (fun L h => written (s := s) (L := L) h)
  have hsz : ¬ ((s.size : Int) > (s.size : Int)) := by omega
  clear hn hE hnfit hs hT
  generalize hpe : parseP s.data.toList = PR at HP HFT HLN HWR
  obtain ⟨L, c⟩ := PR
  simp only at HP HFT HLN
  clear hpe
  go_enter Tryd.func4, Tryd.ntmps4
  go_wp2_with fail
  refine (unhide HL).mono ?_
  rintro e W1 ⟨rfl, hb⟩
  have HB1 := hide hb
  have HE1 := hide ((unhide HE).below hb)
  have HN1 := hide (RowN.below (unhide HN) hb)
  clear hb HL HE HN
  have HP1 := hide (unhide HP W1 (unhide HE1).1)
  by_cases hc : c = 0
  · subst hc
    obtain ⟨hwr, hLl⟩ := unhide HWR L rfl
    have HWE := hide hwr
    clear hwr HWR
    have hc0 : ((0 : Int) == 0) = true := rfl
    go_wp2_with fail
    refine (unhide HP1).mono ?_
    rintro e W2 ⟨v2, rfl, ho, hb⟩
    have HB2 := hide (belows' (unhide HB1) hb)
    have HE2 := hide ((unhide HE1).below hb)
    have HN2 := hide (RowN.below (unhide HN1) hb)
    have HR2 := hide (rowG_of_own (Fit := FitS) cellsS_len ho (by omega) (unhide HFT))
    obtain ⟨a2, k2, hv2, _⟩ := own_sliceG ho
    obtain ⟨M2, hM2⟩ : ∃ M, M = L.length := ⟨_, rfl⟩
    rw [← hM2] at hv2
    subst hv2
    clear ho hb HP1 HB1 HE1 HN1 hM2
    have HW := hide (nwrite_any _ L W2 (unhide HR2) (fun x hx => ⟨fun _ => fmt_any W2 x.1 (unhide HFT x hx).1 (unhide HE2).2, fun _ => fmt_any W2 x.2 (unhide HFT x hx).2 (unhide HE2).2⟩))
    rw [unhide HWE, text_back] at HW
    clear HWE
    go_wp2_with fail
    refine (unhide HW).mono ?_
    rintro e W3 ⟨rfl, hb⟩
    have HB3 := hide (belows' (unhide HB2) hb)
    have HE3 := hide ((unhide HE2).below hb)
    have HN3 := hide (RowN.below (unhide HN2) hb)
    have HR3 := hide (RowSp.below (unhide HR2) hb)
    clear hb HW HB2 HE2 HN2 HR2
    have HP3 := hide (unhide HP W3 (unhide HE3).1)
    go_wp2_with fail
    refine (unhide HP3).mono ?_
    rintro e W4 ⟨v4, rfl, ho, hb⟩
    have HB4 := hide (belows' (unhide HB3) hb)
    have HN4 := hide (RowN.below (unhide HN3) hb)
    have HR4 := hide (RowSp.below (unhide HR3) hb)
    have HG4 := hide (rowG_of_own (Fit := FitS) cellsS_len ho (by omega) (unhide HFT))
    obtain ⟨a4, k4, hv4, _⟩ := own_sliceG ho
    obtain ⟨M4, hM4⟩ : ∃ M, M = L.length := ⟨_, rfl⟩
    rw [← hM4] at hv4
    subst hv4
    clear ho hb HP3 HB3 HE3 HN3 HR3 hM4 HP
    have HS := hide (sameSp_any _ _ L L W4 (unhide HR4) (unhide HG4))
    rw [decide_eq_true rfl] at HS
    clear HR4 HG4
    go_wp2_with fail
    refine (unhide HS).mono ?_
    rintro e W5 ⟨rfl, hb⟩
    have HB5 := hide (belows' (unhide HB4) hb)
    have HN5 := hide (RowN.below (unhide HN4) hb)
    clear hb HS HB4 HN4 HFT HLN hLl
    have HP := hide (npack_any _ ns W5 (unhide HN5) (unhide HNS))
    rcases packR_cases ns with ⟨c4, hc4, hpr⟩ | ⟨hpr, hpw, hpl⟩
    · rw [hpr] at HP
      clear hpr
      have hce : ((c4 : Int) == 0) = false := by simp; omega
      go_wp2_with fail
      refine (unhide HP).mono ?_
      rintro e W6 ⟨v6, rfl, ho, hb⟩
      have HB6 := hide (belows' (unhide HB5) hb)
      obtain ⟨a6, k6, hv6, _⟩ := own_sliceG ho
      rw [List.length_nil] at hv6
      subst hv6
      clear ho hb HP HB5 HN5 hc4
      go_wp2
      go_ret
      exact ⟨rfl, unhide HB6⟩
    · rw [hpr] at HP
      have HPF := hide (packS_fit (unhide HNF))
      have HCT : Hid (countR 0 (packS ns) = (ns.length, 0)) := hide (by
        unfold countR
        rw [if_pos hpl, (apartS_self (packS_ok hpw).1 (.inl rfl)).1, packS_cnt hpw])
      have HHS : Hid (hasS 0 n (packS ns) = decide (n ∈ ns)) := hide (by
        rw [(apartS_self (packS_ok hpw).1 (.inl rfl)).2, (packS_ok hpw).2])
      have HPL := hide hpl
      clear hpr hpw hpl
      generalize packS ns = p at HP HPF HCT HHS HPL
      go_wp2_with fail
      refine (unhide HP).mono ?_
      rintro e W6 ⟨v6, rfl, ho, hb⟩
      have HB6 := hide (belows' (unhide HB5) hb)
      have HN6 := hide (RowN.below (unhide HN5) hb)
      have HR6 := hide (rowG_of_own (Fit := FitS) cellsS_len ho (by have := unhide HPL; omega) (unhide HPF).1)
      obtain ⟨a6, k6, hv6, _⟩ := own_sliceG ho
      obtain ⟨M6, hM6⟩ : ∃ M, M = p.length := ⟨_, rfl⟩
      rw [← hM6] at hv6
      subst hv6
      clear ho hb HP HB5 HN5 hM6 HPF HPL
      go_wp2
      go_loopw [15, 17, 70] (fun y _ z wr => ∃ (k : Nat) (is : Bool), z = .int .i64 k ∧ y = .bool is ∧ k ≤ T ∧ Hid (is = decide (n ∈ ns.take k)) ∧ Hid (Below W6.heap.size W6 wr)) (fun _ _ z _ => T - (intOf z).toNat)
      case atStart => exact ⟨0, false, rfl, rfl, Nat.zero_le _, hide (by simp), hide (Below.refl _ _)⟩
      case round =>
        obtain ⟨k, is, rfl, rfl, hk, HI, HBK⟩ := hrel
        by_cases hlt : k < T
        · have hlt1 : (k : Int) < (T : Int) := by omega
          have hkl : k < ns.length := by have := unhide HTL; omega
          obtain ⟨b, off, cap', hv', hblt, hcell⟩ := RowG.at cellsN_len ((unhide HN6).below (unhide HBK)) (j := k) hkl
          injection hv' with e1 e2 e3
          subst e1
          have c0 := hcell 0 (by omega)
          simp only [cellsN, List.getElem?_cons_zero, Nat.add_zero, Nat.mul_one] at c0
          clear e2 e3 hcell
          have HNX := hide (in_take (n := n) hkl)
          generalize ns[k] = x at c0 HNX
          cases is with
          | true =>
            have HI1 : Hid (true = decide (n ∈ ns.take (k + 1))) := hide (by rw [unhide HNX, ← unhide HI]; rfl)
            clear HI HNX
            go_wp2
            exact ⟨⟨k + 1, true, by go_num, rfl, by omega, HI1, HBK⟩, by simp [intOf]; omega⟩
          | false =>
            by_cases hxn : x = n
            · have HI1 : Hid (true = decide (n ∈ ns.take (k + 1))) := hide (by rw [unhide HNX, ← unhide HI, hxn]; simp)
              have hxe : ((x : Int) == (n : Int)) = true := by simp [hxn]
              clear HI HNX hxn
              go_wp2
              exact ⟨⟨k + 1, true, by go_num, by first | rfl | simp, by omega, HI1, HBK⟩, by simp [intOf]; omega⟩
            · have HI1 : Hid (false = decide (n ∈ ns.take (k + 1))) := hide (by rw [unhide HNX, ← unhide HI]; simp; omega)
              have hxe : ((x : Int) == (n : Int)) = false := by simp; omega
              clear HI HNX hxn
              go_wp2
              exact ⟨⟨k + 1, false, by go_num, by first | rfl | simp, by omega, HI1, HBK⟩, by simp [intOf]; omega⟩
        · have hlt1 : ¬ (k : Int) < (T : Int) := by omega
          have htk : ns.take k = ns := List.take_of_length_le (by have := unhide HTL; omega)
          rw [htk] at HI
          rw [← unhide HI] at HHS
          clear htk HI
          have HC := hide (ncount_any _ p 0 wr (RowSp.below (unhide HR6) (unhide HBK)) (by omega))
          rw [unhide HCT, ← unhide HTL] at HC
          have HBW := hide (belows' (unhide HB6) (unhide HBK))
          have HRW := hide (RowSp.below (unhide HR6) (unhide HBK))
          clear HBK HB6 HR6 HN6 HCT
          go_wp2_with fail
          refine (unhide HC).mono ?_
          rintro e W7 ⟨rfl, hb⟩
          have HB7 := hide (belows' (unhide HBW) hb)
          have HH := hide (nhas_any _ p 0 n W7 (RowSp.below (unhide HRW) hb))
          rw [unhide HHS] at HH
          have hwT : IntKind.u64.wrap (T : Int) = (T : Int) := by rw [IntKind.wrap_u64]; omega
          clear hb HC HBW HRW HHS
          go_wp2_with fail
          refine (unhide HH).mono ?_
          rintro e W8 ⟨rfl, hb⟩
          have HB8 := hide (belows' (unhide HB7) hb)
          clear hb HB7 HH
          go_wp2
          go_ret
          exact ⟨by simp, unhide HB8⟩
  · have hc0 : ((c : Int) == 0) = false := by simp; omega
    clear hc HWR
    have hLl := unhide HLN
    go_wp2_with fail
    refine (unhide HP1).mono ?_
    rintro e W2 ⟨v2, rfl, ho, hb⟩
    have HB2 := hide (belows' (unhide HB1) hb)
    have HN2 := hide (RowN.below (unhide HN1) hb)
    clear ho hb HP1 HB1 HE1 HN1 HP HFT HLN hLl
    have HP := hide (npack_any _ ns W2 (unhide HN2) (unhide HNS))
    rcases packR_cases ns with ⟨c4, hc4, hpr⟩ | ⟨hpr, hpw, hpl⟩
    · rw [hpr] at HP
      clear hpr
      have hce : ((c4 : Int) == 0) = false := by simp; omega
      go_wp2_with fail
      refine (unhide HP).mono ?_
      rintro e W6 ⟨v6, rfl, ho, hb⟩
      have HB6 := hide (belows' (unhide HB2) hb)
      obtain ⟨a6, k6, hv6, _⟩ := own_sliceG ho
      rw [List.length_nil] at hv6
      subst hv6
      clear ho hb HP HB2 HN2 hc4
      go_wp2
      go_ret
      exact ⟨rfl, unhide HB6⟩
    · rw [hpr] at HP
      have HPF := hide (packS_fit (unhide HNF))
      have HCT : Hid (countR 0 (packS ns) = (ns.length, 0)) := hide (by
        unfold countR
        rw [if_pos hpl, (apartS_self (packS_ok hpw).1 (.inl rfl)).1, packS_cnt hpw])
      have HHS : Hid (hasS 0 n (packS ns) = decide (n ∈ ns)) := hide (by
        rw [(apartS_self (packS_ok hpw).1 (.inl rfl)).2, (packS_ok hpw).2])
      have HPL := hide hpl
      clear hpr hpw hpl
      generalize packS ns = p at HP HPF HCT HHS HPL
      go_wp2_with fail
      refine (unhide HP).mono ?_
      rintro e W6 ⟨v6, rfl, ho, hb⟩
      have HB6 := hide (belows' (unhide HB2) hb)
      have HN6 := hide (RowN.below (unhide HN2) hb)
      have HR6 := hide (rowG_of_own (Fit := FitS) cellsS_len ho (by have := unhide HPL; omega) (unhide HPF).1)
      obtain ⟨a6, k6, hv6, _⟩ := own_sliceG ho
      obtain ⟨M6, hM6⟩ : ∃ M, M = p.length := ⟨_, rfl⟩
      rw [← hM6] at hv6
      subst hv6
      clear ho hb HP HB2 HN2 hM6 HPF HPL
      go_wp2
      go_loopw [15, 17, 70] (fun y _ z wr => ∃ (k : Nat) (is : Bool), z = .int .i64 k ∧ y = .bool is ∧ k ≤ T ∧ Hid (is = decide (n ∈ ns.take k)) ∧ Hid (Below W6.heap.size W6 wr)) (fun _ _ z _ => T - (intOf z).toNat)
      case atStart => exact ⟨0, false, rfl, rfl, Nat.zero_le _, hide (by simp), hide (Below.refl _ _)⟩
      case round =>
        obtain ⟨k, is, rfl, rfl, hk, HI, HBK⟩ := hrel
        by_cases hlt : k < T
        · have hlt1 : (k : Int) < (T : Int) := by omega
          have hkl : k < ns.length := by have := unhide HTL; omega
          obtain ⟨b, off, cap', hv', hblt, hcell⟩ := RowG.at cellsN_len ((unhide HN6).below (unhide HBK)) (j := k) hkl
          injection hv' with e1 e2 e3
          subst e1
          have c0 := hcell 0 (by omega)
          simp only [cellsN, List.getElem?_cons_zero, Nat.add_zero, Nat.mul_one] at c0
          clear e2 e3 hcell
          have HNX := hide (in_take (n := n) hkl)
          generalize ns[k] = x at c0 HNX
          cases is with
          | true =>
            have HI1 : Hid (true = decide (n ∈ ns.take (k + 1))) := hide (by rw [unhide HNX, ← unhide HI]; rfl)
            clear HI HNX
            go_wp2
            exact ⟨⟨k + 1, true, by go_num, rfl, by omega, HI1, HBK⟩, by simp [intOf]; omega⟩
          | false =>
            by_cases hxn : x = n
            · have HI1 : Hid (true = decide (n ∈ ns.take (k + 1))) := hide (by rw [unhide HNX, ← unhide HI, hxn]; simp)
              have hxe : ((x : Int) == (n : Int)) = true := by simp [hxn]
              clear HI HNX hxn
              go_wp2
              exact ⟨⟨k + 1, true, by go_num, by first | rfl | simp, by omega, HI1, HBK⟩, by simp [intOf]; omega⟩
            · have HI1 : Hid (false = decide (n ∈ ns.take (k + 1))) := hide (by rw [unhide HNX, ← unhide HI]; simp; omega)
              have hxe : ((x : Int) == (n : Int)) = false := by simp; omega
              clear HI HNX hxn
              go_wp2
              exact ⟨⟨k + 1, false, by go_num, by first | rfl | simp, by omega, HI1, HBK⟩, by simp [intOf]; omega⟩
        · have hlt1 : ¬ (k : Int) < (T : Int) := by omega
          have htk : ns.take k = ns := List.take_of_length_le (by have := unhide HTL; omega)
          rw [htk] at HI
          rw [← unhide HI] at HHS
          clear htk HI
          have HC := hide (ncount_any _ p 0 wr (RowSp.below (unhide HR6) (unhide HBK)) (by omega))
          rw [unhide HCT, ← unhide HTL] at HC
          have HBW := hide (belows' (unhide HB6) (unhide HBK))
          have HRW := hide (RowSp.below (unhide HR6) (unhide HBK))
          clear HBK HB6 HR6 HN6 HCT
          go_wp2_with fail
          refine (unhide HC).mono ?_
          rintro e W7 ⟨rfl, hb⟩
          have HB7 := hide (belows' (unhide HBW) hb)
          have HH := hide (nhas_any _ p 0 n W7 (RowSp.below (unhide HRW) hb))
          rw [unhide HHS] at HH
          have hwT : IntKind.u64.wrap (T : Int) = (T : Int) := by rw [IntKind.wrap_u64]; omega
          clear hb HC HBW HRW HHS
          go_wp2_with fail
          refine (unhide HH).mono ?_
          rintro e W8 ⟨rfl, hb⟩
          have HB8 := hide (belows' (unhide HB7) hb)
          clear hb HB7 HH
          go_wp2
          go_ret
          exact ⟨by simp, unhide HB8⟩
end Go.Proofs.YtcoknclifgkcgaaDoor
