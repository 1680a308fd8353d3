/-
  TopTallied, walked over this seat's program.
-/
import Derived.Test.YtihgmpebpkjmkaaGreatDoorBnd9
import Derived.Test.YtihgmpebpkjmkaaGreatDoorBnd5
import Derived.Test.YtihgmpebpkjmkaaGreatDoorBnd13
import Derived.Test.YtihgmpebpkjmkaaGreatDoorBnd10
import Derived.Test.YtihgmpebpkjmkaaGreatDoorBnd1
set_option linter.unusedVariables false
set_option linter.unusedSimpArgs false
namespace Go.Proofs.YtihgmpebpkjmkaaGreatDoor
open Go.RowKit Go.Proofs.Nst

theorem count_pack {ns : List Nat} (h : chk ns = 0) (hl : (packS ns).length ≤ 1024) : countR 0 (packS ns) = (ns.length, 0) := by
  obtain ⟨hp, _⟩ := rise_pair h
  unfold countR
  rw [if_pos hl, (apartS_self (packS_ok hp).1 (.inl rfl)).1, packS_cnt hp]
theorem only_pack {ns : List Nat} (h : chk ns = 0) : ns.filter (fun n => hasS 0 n (packS ns)) = ns := by
  obtain ⟨hp, _⟩ := rise_pair h
  rw [List.filter_eq_self]
  intro n hn
  rw [(apartS_self (packS_ok hp).1 (.inl rfl)).2 n, (packS_ok hp).2, decide_eq_true_eq]
  exact hn
theorem index_runK (b n cp m : Nat) (k : Int) (hk : k = (m : Int)) (hm : m < n) (off : Nat) (w : World) : (Instr.indexAt 34 (.slice (some ⟨b, off, none⟩) n cp) (.int .i64 k)).run Tryz.prog w = .ok (.pointer (some ⟨b, off + m * 2, none⟩)) w := by
  subst hk
  have hi0 : (Tryz.prog.info? 41).map (fun i => i.size) = some 2 := by kernel_rfl
  obtain ⟨i0, hi, hz1⟩ := Option.map_eq_some_iff.1 hi0
  have he : Tryz.prog.elem 34 = 41 := by kernel_rfl
  rw [run_indexAt_slice (P := Tryz.prog) (w := w) (t := 34) (a := ⟨b, off, none⟩) (len := n) (cap := cp) (k := .i64) (i := (m : Int)) (h := by kernel_rfl)]
  rw [if_pos (by omega), he]
  have hadd : Addr.add ⟨b, off, none⟩ (m * 2) = ⟨b, off + m * 2, none⟩ := by rw [add_off0]
  go_simp
set_option maxHeartbeats 8000000 in
set_option maxRecDepth 100000 in
theorem topTallied_walk (v : Value) (ns : List Nat) (w : World) (ht : TabY w) (hn : RowN w v ns) (hl : ns.length ≤ 1048576) :
    Calls Tryz.prog 3 #[v] w fun e w' => e = .returned (.bool true) ∧ Below w.heap.size w w' := by
  have hfit : ∀ n ∈ ns, n ≤ 4294967295 := by obtain ⟨_, _, _, _, h9, _⟩ := id hn; exact h9
  have haf := ofR_fit (w := 15) (by decide) hfit
  have HTK : Hid ((ofR 15 ns).2 = 0 → writeT (ofR 15 ns).1 = (bodyT (ofR 15 ns).1, 0) ∧ Lx.tokensL (bodyT (ofR 15 ns).1) = (toksT (ofR 15 ns).1 wordsT, 0) ∧ TokOk ns (toksT (ofR 15 ns).1 wordsT) ∧ (bodyT (ofR 15 ns).1).length ≤ 100000) := hide (fun h9 => by
    have hr := of_right hfit h9
    refine ⟨by unfold writeT; rw [if_pos hr], tokens_body _, toks_ok h9, ?_⟩
    have ha : ∀ x ∈ (ofR 15 ns).1.all, FitS x := by
      rcases (ofR_cases h9).2.2.2 with ⟨_, e⟩ | ⟨hne, h4, e⟩
      · rw [e]; simp
      · rw [e]
        show ∀ x ∈ (if bitW 15 4 = true then (packR ns).1 else []), FitS x
        rw [if_pos (by decide), packR_ok (h4 (by decide))]
        exact (packS_fit hfit).1
    have := bT_len haf.1 ha 4 (Nat.le_refl _)
    exact Nat.le_trans this (by decide))
  have HBG := hide (begins_any w)
  have HO := hide (fun W (hb : Below w.heap.size w W) => of_any 15 v ns W (RowN.below hn hb) hl (by decide))
  have HWR := hide (fun (x : Tly) (vx : Value) (W : World) (hb : Below w.heap.size w W) (hfx : FitT x) (h : RowSp W vx x.all) (hl : x.all.length ≤ 1048576) => twrite_any x vx W hfx h hl (ht.pow.below hb) (ht.wtab.below hb))
  have HWD := hide (fun (s : ByteArray) (W : World) (hb : Below w.heap.size w W) (hs : s.size ≤ 281474976710656) => word_any s W (ht.wtab.below hb) hs)
  have HNP := hide (fun (s : ByteArray) (W : World) (hb : Below w.heap.size w W) (hs : s.size ≤ 140737488355328) => nparse_any s W (ht.err.below hb) hs)
  have HRN := hide (fun W (hb : Below w.heap.size w W) => RowN.below hn hb)
  obtain ⟨a, ha⟩ : ∃ a, a = (ofR 15 ns).1 := ⟨_, rfl⟩
  obtain ⟨k1, hk1⟩ : ∃ k, k = (ofR 15 ns).2 := ⟨_, rfl⟩
  simp only [← ha, ← hk1] at HO
  rw [← ha, ← hk1] at HTK
  rw [← ha] at haf
  have HAF := hide haf
  obtain ⟨av, cv, hvv, _⟩ := id hn
  obtain ⟨T, hT⟩ : ∃ T, T = ns.length := ⟨_, rfl⟩
  rw [← hT] at hvv hl
  subst hvv
  have HTL := hide hT
  clear ht hn ha hk1 hfit hT haf
  go_enter Tryz.func3, Tryz.ntmps3
  go_wp2_with fail
  refine (unhide HBG).mono ?_
  rintro e w1 ⟨rfl, b1⟩
  have HB1 := hide b1
  clear b1 HBG
  go_wp2_with fail
  refine (unhide HO _ (unhide HB1)).mono ?_
  rintro e w2 ⟨va, rfl, ra, b2⟩
  obtain ⟨aa, ca, rfl, _⟩ := id ra
  obtain ⟨na, hna⟩ : ∃ na, na = a.all.length := ⟨_, rfl⟩
  rw [← hna] at ra ⊢
  have p2 := Below.alloc (Below.refl _ w2) (Nat.le_refl _) (.cells (tlC a (.slice aa na ca)) 28)
  have HB2 := hide (belows' (belows' (unhide HB1) b2) p2)
  have HRA := hide (RowSp.below ra p2)
  have HKA := hide (Blk.new w2 28 (tlC a (.slice aa na ca)))
  clear b2 p2 ra HB1 HO hna
  have HWA := hide (fun W (hb : Below w.heap.size w W) (h : RowSp W (.slice aa na ca) a.all) => unhide HWR a (.slice aa na ca) W hb (unhide HAF).1 h (by have := (unhide HAF).2; omega))
  clear HWR HAF
  obtain ⟨wa, ma, la, xa, ala⟩ := a
  simp only [tlV, tlC] at HB2 HRA HKA HWA ⊢
  go_upto_region 4 with (fail)
  generalize w2.alloc (.cells #[.int .u8 (wa : Int), .int .i64 ma, .int .u32 (la : Int), .int .u32 (xa : Int), .slice aa na ca] 28) = v2 at HB2 HRA HKA ⊢
  generalize w2.heap.size = kA at HKA ⊢
  by_cases z : k1 = 0
  · have q0 : ((k1 : Int) != 0) = false := by simp [z]
    obtain ⟨hwt, htk, htok, hbl⟩ := unhide HTK z
    have HW2 := hide (unhide HWA v2 (unhide HB2) (unhide HRA))
    rw [hwt] at HW2
    simp only at HW2
    generalize bodyT (⟨wa, ma, la, xa, ala⟩ : Tly) = bd at HW2 htk hbl
    generalize toksT (⟨wa, ma, la, xa, ala⟩ : Tly) wordsT = L at htk htok
    have HTOK := hide htok
    have HLT := hide (fun W => tokens_any ⟨bd.toArray⟩ W (Nat.le_trans (show (⟨bd.toArray⟩ : ByteArray).size ≤ 100000 from hbl) (by decide)))
    have hsx : (⟨bd.toArray⟩ : ByteArray).data.toList = bd := by simp
    simp only [hsx, htk] at HLT
    have c0 := (unhide HKA).cell 0
    have c1 := (unhide HKA).cell 1
    have c2 := (unhide HKA).cell 2
    have c3 := (unhide HKA).cell 3
    have c4 := (unhide HKA).cell 4
    simp only [List.getElem?_toArray, List.getElem?_cons_succ, List.getElem?_cons_zero] at c0 c1 c2 c3 c4
    clear z hwt htk htok hbl hsx HTK HWA HRA
    go_wp2_with fail
    refine (unhide HW2).mono ?_
    rintro e w3 ⟨rfl, b3⟩
    have HB3 := hide (belows' (unhide HB2) b3)
    clear b3 HW2 HB2 HKA c0 c1 c2 c3 c4
    go_wp2_with fail
    refine (unhide HLT _).mono ?_
    rintro e w4 ⟨⟨vm, rfl, hout⟩, b4⟩
    have HB4 := hide (belows' (unhide HB3) b4)
    have hrow := hout.row
    obtain ⟨am, cm, hvm, _⟩ := id hrow
    obtain ⟨h, hLh, hh1, hh4⟩ := (unhide HTOK).two
    obtain ⟨M, hM⟩ : ∃ M, M = L.length := ⟨_, rfl⟩
    rw [← hM] at hvm hLh
    subst hvm
    have HRM := hide hrow
    have HML := hide hM
    have HMH := hide hLh
    have hM2 : 2 ≤ M := by omega
    have hM8 : M ≤ 8 := by omega
    have r1 : Int.tmod (M : Int) 2 = 0 := by rw [hLh, show ((2 * h : Nat) : Int) = 2 * (h : Int) by omega]; exact Int.mul_tmod_right 2 _
    have r2 : (M : Int) % 2 = 0 := by omega
    clear hout hrow b4 HLT HB3 hLh hM hh1 hh4
    go_wp2
    clear r1 r2
    go_loopw [9, 10, 11, 12, 13, 14, 15] (fun x _ _ _ _ _ _ wr => ∃ i : Nat, x = .int .i64 (i : Int) ∧ i ≤ M ∧ Hid (∃ j, i = 2 * j) ∧ Hid (Below w.heap.size w wr) ∧ Hid (Below w4.heap.size w4 wr)) (fun x _ _ _ _ _ _ _ => M - (intOf x).toNat)
    case atStart => exact ⟨0, rfl, Nat.zero_le _, hide ⟨0, rfl⟩, HB4, hide (Below.refl _ _)⟩
    case round =>
      obtain ⟨i, rfl, hi, HJ, HB, HBV⟩ := hrel
      by_cases hlt : i < M
      · have hlt1 : (i : Int) < (M : Int) := by omega
        obtain ⟨j, hj⟩ := unhide HJ
        have hlen : 2 * j + 1 < L.length := by have h1 := unhide HML; have h2 := unhide HMH; omega
        obtain ⟨tw, tx, hL0, hL1, b, hwr, hb8, hb4⟩ := (unhide HTOK).each j hlen
        have hl0 : i < L.length := by omega
        have hl1 : i + 1 < L.length := by omega
        have e0 : L[i] = (1, tw) := by
          rw [← hj, List.getElem?_eq_getElem hl0] at hL0
          exact Option.some.inj hL0
        have e1 : L[i + 1] = (1, tx) := by
          rw [← hj, List.getElem?_eq_getElem hl1] at hL1
          exact Option.some.inj hL1
        obtain ⟨g, off, rfl, hglt, hft, hu0, c1⟩ := RowT.tok (unhide HRM) (unhide HBV) hl0
        obtain ⟨g', off', hgg, hu1, hu2, hu3, d1⟩ := RowT.tok (unhide HRM) (unhide HBV) hl1
        injection hgg with hgg
        injection hgg with e7 e8
        subst e7 e8
        rw [e0] at c1
        rw [e1] at d1
        simp only at c1 d1
        have hI0 := fun W => index_runK g M cm i (i : Int) rfl hlt off W
        have hI1 := fun W => index_runK g M cm (i + 1) ((i : Int) + 1) (by omega) (by have := unhide HML; omega) off W
        obtain ⟨o1, ho1⟩ : ∃ o1, o1 = off + (i + 1) * 2 := ⟨_, rfl⟩
        rw [← ho1] at hI1 d1
        clear ho1
        obtain ⟨i1, hi1⟩ : ∃ i1 : Int, i1 = (i : Int) + 1 := ⟨_, rfl⟩
        rw [← hi1] at hI1
        have w1 : IntKind.i64.wrap ((i : Int) + 1) = i1 := by rw [IntKind.wrap_i64]; omega
        have w3 : wrap64 ((i : Int) + 1) = i1 := by unfold wrap64; omega
        clear hi1
        have w2 : IntKind.i64.wrap ((i : Int) + 2) = ((i + 2 : Nat) : Int) := by rw [IntKind.wrap_i64]; omega
        have htw : (bts tw).size ≤ 281474976710656 := by
          rw [size_bts]
          have := hft
          rw [e0] at this
          unfold FitTok at this
          simp only at this
          omega
        have HWX := hide (unhide HWD (bts tw) wr (unhide HB) htw)
        rw [toList_bts, hwr] at HWX
        simp only at HWX
        have HB44 := hide hb4
        have HJ2 : Hid (∃ j, i + 2 = 2 * j) := hide ⟨j + 1, by omega⟩
        have hiM2 : i + 2 ≤ M := by have h1 := unhide HMH; omega
        clear hu0 hu1 hu2 hu3
        clear hL0 hL1 hwr hl0 hl1 e0 e1 hlen hj htw hft hb4 HJ
        generalize bts tw = sw at c1 HWX
        go_wp2_with fail
        refine (unhide HWX).mono ?_
        rintro e w5 ⟨rfl, b5⟩
        have HB5 := hide (belows' (unhide HB) b5)
        have HBV5 := hide ((unhide HBV).trans (b5.mono (unhide HBV).size))
        have d1 : w5.cell? ⟨g, o1 + 1, none⟩ = some (.string (bts tx)) := by
          have := b5.cell (p := ⟨g, o1 + 1, none⟩) hglt
          rw [this]; exact d1
        clear b5 HWX c1 HB HBV hI0
        by_cases z4 : b = 4
        · obtain ⟨htx, hne, hck, hpl⟩ := unhide HB44 z4
          have q4 : ((b : Int) != 4) = false := by simp [z4]
          have hp := rise_pair hck
          have hpne : packS ns ≠ [] := fun e9 => hne ((packS_last _ ns rfl hp.1).2.1.1 e9)
          have hn5 := unhide HRN w5 (unhide HB5)
          have hnf : ∀ n ∈ ns, n ≤ 4294967295 := by obtain ⟨_, _, _, _, h9, _⟩ := id hn5; exact h9
          have hpw := parse_write hpne hpl (packS_fit hnf).1
          have hsz : (bts tx).size ≤ 140737488355328 := by rw [size_bts, htx]; have := hpw.2; omega
          have HPX := hide (unhide HNP (bts tx) w5 (unhide HB5) hsz)
          have hpt : parseP tx = (packS ns, 0) := by rw [htx]; exact hpw.1
          rw [toList_bts, hpt] at HPX
          have HON := hide (only_pack hck)
          have HCP := hide (count_pack hck hpl)
          have HPF := hide (packS_fit hnf).1
          have HPL := hide hpl
          clear z4 hpt htx hne hck hp hpne hn5 hnf hpw hsz HB44 hpl
          generalize bts tx = sx at d1 HPX
          go_wp2_with fail
          refine (unhide HPX).mono ?_
          rintro e w6 ⟨v6, rfl, o6, b6⟩
          have HB6 := hide (belows' (unhide HB5) b6)
          have HBV6 := hide ((unhide HBV5).trans (b6.mono (unhide HBV5).size))
          have HR6 := hide (show RowSp w6 v6 (packS ns) from rowG_of_own cellsS_len o6 (by have := unhide HPL; exact Nat.le_trans this (by decide)) (unhide HPF))
          obtain ⟨a6, c6, rfl, _⟩ := own_sliceG o6
          have HOY := hide (only_any (.slice a6 (packS ns).length c6) _ (packS ns) ns 0 w6 (unhide HR6) (unhide HRN w6 (unhide HB6)) (by decide) (by have := unhide HPL; exact Nat.le_trans this (by decide)) (by have := unhide HTL; omega))
          rw [unhide HON] at HOY
          clear o6 b6 HPX HB5 HBV5 d1 hI1 w1 w3
          generalize (packS ns).length = n6 at HR6 HOY ⊢
          go_wp2_with fail
          refine (unhide HOY).mono ?_
          rintro e w7 ⟨v7, rfl, o7, b7⟩
          have HB7 := hide (belows' (unhide HB6) b7)
          have HBV7 := hide ((unhide HBV6).trans (b7.mono (unhide HBV6).size))
          have HR7 := hide (RowSp.below (unhide HR6) b7)
          have hn7 := unhide HRN w7 (unhide HB7)
          have hnf : ∀ n ∈ ns, n ≤ 4294967295 := by obtain ⟨_, _, _, _, h9, _⟩ := id hn7; exact h9
          have hr7 : RowN w7 v7 ns := rowG_of_own cellsN_len o7 (by have := unhide HTL; omega) hnf
          have HSM := hide (sameQ_any v7 _ ns ns w7 hr7 hn7)
          rw [decide_eq_true rfl] at HSM
          clear o7 b7 HOY HB6 HBV6 HR6 hn7 hnf hr7
          go_wp2_with fail
          refine (unhide HSM).mono ?_
          rintro e w8 ⟨rfl, b8⟩
          have HB8 := hide (belows' (unhide HB7) b8)
          have HBV8 := hide ((unhide HBV7).trans (b8.mono (unhide HBV7).size))
          have HCX := hide (ncount_any (.slice a6 n6 c6) (packS ns) 0 w8 (RowSp.below (unhide HR7) b8) (by decide))
          rw [unhide HCP, ← unhide HTL] at HCX
          simp only at HCX
          clear b8 HSM HB7 HBV7 HR7
          go_wp2_with fail
          refine (unhide HCX).mono ?_
          rintro e w9 ⟨rfl, b9⟩
          have HB9 := hide (belows' (unhide HB8) b9)
          have HBV9 := hide ((unhide HBV8).trans (b9.mono (unhide HBV8).size))
          have wT : IntKind.u64.wrap (T : Int) = (T : Int) := by rw [IntKind.wrap_u64]; omega
          have qT : ((T : Int) != (T : Int)) = false := by simp
          clear b9 HCX HB8 HBV8
          go_wp2
          exact ⟨⟨i + 2, by go_num, hiM2, HJ2, HB9, HBV9⟩, by simp [intOf]; omega⟩
        · have q4 : ((b : Int) != 4) = true := by simp; omega
          clear z4 HB44 d1 hI1 w1 w3
          go_wp2
          exact ⟨⟨i + 2, by go_num, hiM2, HJ2, HB5, HBV5⟩, by simp [intOf]; omega⟩
      · have hlt1 : ¬ (i : Int) < (M : Int) := by omega
        have hfew := (unhide HTOK).few
        rw [← unhide HML] at hfew
        have hM3 : (M : Int) ≥ 2 := by omega
        by_cases zT : T = 0
        · have hn0 : ns = [] := List.length_eq_zero_iff.1 (by have := unhide HTL; omega)
          have hm2 := hfew.2 hn0
          have t0 : ((T : Int) == 0) = true := by simp [zT]
          have t1 : ((M : Int) == 2) = true := by simp [hm2]
          clear hfew zT hn0 hm2
          go_wp2
          go_ret
          exact ⟨rfl, unhide HB⟩
        · have hm2 : ¬ M = 2 := fun e => zT (by rw [unhide HTL, hfew.1 e]; rfl)
          have t0 : ((T : Int) == 0) = false := by simp; omega
          have t1 : ((M : Int) == 2) = false := by simp; omega
          clear hfew zT hm2
          go_wp2
          go_ret
          exact ⟨rfl, unhide HB⟩
  · have q0 : ((k1 : Int) != 0) = true := by simp; omega
    clear z HTK
    go_wp2
    go_ret
    exact ⟨rfl, unhide HB2⟩
end Go.Proofs.YtihgmpebpkjmkaaGreatDoor
