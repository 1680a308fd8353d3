/-
  What missiveref28.Write does, over this seat's program.
-/
import Derived.Test.YtafegjbhaofgiaaDoorLyb
import Derived.Test.YtafegjbhaofgiaaDoorLxk
set_option linter.unusedVariables false
set_option linter.unusedSimpArgs false
namespace Go.Proofs.YtafegjbhaofgiaaDoor
open Go.RowKit Go.Proofs.Lx

set_option maxHeartbeats 1000000 in
set_option maxRecDepth 100000 in
theorem refWrite_any (v : Value) (l : List Tok) (w : World) (h : RowT w v l) (hm : wMost l ≤ 549755813888) :
    Calls Tryd.prog 16 #[v] w fun e w' => e = .returned (wrR (writeL l)) ∧ Below w.heap.size w w' := by
  have HR := hide h
  obtain ⟨a, cap, rfl, hl, _, _⟩ := h
  obtain ⟨n, hnn⟩ : ∃ n, l.length = n := ⟨_, rfl⟩
  rw [hnn] at HR hl ⊢
  have HN := hide hnn
  have HM := hide hm
  clear hnn hm
  have HWL : Hid (writeL l = if 4096 < n then none else writeA 0 l) := hide (by rw [writeL, unhide HN])
  have HWN : Hid (writeA 0 l = none → writeL l = none) := hide (fun h => by rw [unhide HWL, h]; split <;> rfl)
  go_enter Tryd.func16, Tryd.ntmps16
  go_wp2
  go_loopw [4, 5, 6, 7, 8, 11] (fun zo _ _ _ _ z wr => ∃ (k : Nat) (p : Nat) (acc : List UInt8) (O : ByteArray), zo = .string O ∧ z = .int .i64 k ∧ k ≤ n ∧ O.size ≤ 549755813888 ∧ Hid (O.data.toList = acc) ∧ Hid (acc.length ≤ wMost (l.take k)) ∧ Hid ((k = 0 → p = 0) ∧ ∀ (h : k - 1 < l.length), 0 < k → p = l[k - 1].1 ∧ p ≠ 0) ∧ Hid (WrI l k p acc) ∧ Hid (Below w.heap.size w wr)) (fun _ _ _ _ _ z _ => n - (intOf z).toNat)
  case atStart => exact ⟨0, 0, [], ⟨#[]⟩, rfl, rfl, Nat.zero_le _, by decide, hide rfl, hide (by simp [wMost]), hide ⟨fun _ => rfl, fun _ h => absurd h (by omega)⟩, hide (by unfold WrI; simp), hide (Below.refl _ _)⟩
  case round =>
    obtain ⟨k, p, acc, O, rfl, rfl, hk, hoz, HO, HL, HA, HI, HW⟩ := hrel
    by_cases hlt : k < n
    · have hlt1 : (k : Int) < (n : Int) := by omega
      have hkl : k < l.length := by rw [unhide HN]; exact hlt
      obtain ⟨g, off, rfl, hg, hft, c0, c1⟩ := RowT.tok (unhide HR) (unhide HW) hkl
      have hla := unhide HL
      have hmk := wMost_take hkl
      have hml := wMost_le (l := l) (k + 1)
      have hmm := unhide HM
      have HTX := hide (fun W => refOne_any l[k] W hft.1 (by have := hft.2; omega))
      have hb1 := (Below.refl wr.heap.size wr).alloc (Nat.le_refl _) (Obj.cells #[.int .u8 (l[k].1 : Int), .string (bts l[k].2)] 39)
      have HK := hide (Blk.new wr 39 #[.int .u8 (l[k].1 : Int), .string (bts l[k].2)])
      have HB1 := hide hb1
      have HI1 := hide (fun x hx => (unhide HI).next hkl (x := x) hx)
      have HI2 := hide (fun hx => unhide HWN ((unhide HI).no hkl hx))
      have HX := hide (fun x (hx : textA l[k] = some x) => textA_len hx)
      have hkind : ∀ x, textA l[k] = some x → l[k].1 ≠ 0 := fun x hx => by have := textA_kind hx; omega
      have HKD := hide hkind
      have HLN : Hid (acc.length + (2 * l[k].2.length + 24) ≤ wMost (l.take (k + 1)) ∧ wMost (l.take (k + 1)) ≤ 549755813888) := hide (by omega)
      clear hb1 hft hla hmk hml hmm hkind HL HI
      simp only [tkV] at HTX
      obtain ⟨kk, hkk⟩ : ∃ kk, kk = l[k].1 := ⟨_, rfl⟩
      rw [← hkk] at c0 HTX HK HB1 HI1 HKD
      have HPK : Hid (∀ h : k + 1 - 1 < l.length, kk = l[k + 1 - 1].1) := hide (fun h => hkk)
      generalize hx2 : bts l[k].2 = X at c1 HTX HK HB1
      generalize htk : textA l[k] = o at HTX HI1 HI2 HX HKD
      generalize 2 * l[k].2.length + 24 = M at HLN HX
      clear hkk hx2 htk
      cases o with
      | none =>
        have HF := hide (unhide HI2 rfl)
        go_wp2_with fail
        refine (unhide HTX _).mono ?_
        rintro e w2 ⟨⟨v, rfl, hv⟩, b2⟩
        simp only [FtxV] at hv
        have HB2 := hide ((unhide HW).trans (((unhide HB1).mono (unhide HW).size).trans (b2.mono (Nat.le_trans (unhide HW).size (unhide HB1).size))))
        obtain ⟨x, rfl⟩ := hv
        clear b2 HB1 HI1 HI2 HX HKD HPK HLN HA HW HK
        go_wp2
        go_ret2
        exact ⟨by rw [unhide HF]; rfl, unhide HB2⟩
      | some x =>
        by_cases hk0 : k = 0
        · have hk0' : ¬ 0 < (k : Int) := by omega
          have HK0 := hide hk0
          clear hk0
          go_wp2_with fail
          refine (unhide HTX _).mono ?_
          rintro e w2 ⟨⟨v, rfl, hv⟩, b2⟩
          simp only [FtxV] at hv
          have HB2 := hide ((unhide HW).trans (((unhide HB1).mono (unhide HW).size).trans (b2.mono (Nat.le_trans (unhide HW).size (unhide HB1).size))))
          subst hv
          have HX1 := hide (unhide HX x rfl)
          have kc := ((unhide HK).below b2).cell 0
          simp only [List.getElem?_toArray, List.getElem?_cons_zero] at kc
          have HI3 := hide (unhide HI1 x rfl)
          have HKN := hide (unhide HKD x rfl)
          clear b2 HB1 HI1 HI2 HX HKD HW HK c0 c1
          obtain ⟨Y, hY⟩ : ∃ Y, Y = bts x := ⟨_, rfl⟩
          have hYl : Y.data.toList = x := by rw [hY, toList_bts]
          have hYz : Y.size = x.length := by rw [hY, size_bts]
          rw [← hY]
          clear hY
          have hp : p = 0 := (unhide HA).1 (unhide HK0)
          have HP0 := hide hp
          clear hp HA
          have z1 : (ByteArray.mk #[32]).size = 1 := rfl
          have hol : O.size = acc.length := by rw [← sizeL, unhide HO]
          have hyz : Y.size ≤ 549755813888 := by have := unhide HX1; have := unhide HLN; omega
          have HT2 : Hid ((O ++ Y).data.toList = acc ++ x) := hide (by simp only [ByteArray.data_append, Array.toList_append]; rw [unhide HO, hYl]; try rfl)
          have HZ2 : Hid ((O ++ Y).size ≤ 549755813888) := hide (by have := unhide HX1; have := unhide HLN; simp only [ByteArray.size_append]; omega)
          have HL2 : Hid ((acc ++ x).length ≤ wMost (l.take (k + 1))) := hide (by have := unhide HX1; have := unhide HLN; simp only [List.length_append, List.length_cons, List.length_nil]; omega)
          clear HX1 HLN HO hYl hYz hol
          go_wp2
          exact ⟨⟨k + 1, kk, (acc ++ x), _, rfl, by go_num, by omega, unhide HZ2, HT2, HL2, hide ⟨fun h => absurd h (by omega), fun h _ => ⟨unhide HPK h, unhide HKN⟩⟩, hide (by have := unhide HI3; rw [if_neg (fun h => h.1 (unhide HP0))] at this; simpa using this), HB2⟩, by simp [intOf]; omega⟩
        · by_cases hp3 : p = 3
          · have HP3 := hide hp3
            clear hp3
            go_wp2_with fail
            refine (unhide HTX _).mono ?_
            rintro e w2 ⟨⟨v, rfl, hv⟩, b2⟩
            simp only [FtxV] at hv
            have HB2 := hide ((unhide HW).trans (((unhide HB1).mono (unhide HW).size).trans (b2.mono (Nat.le_trans (unhide HW).size (unhide HB1).size))))
            subst hv
            have HX1 := hide (unhide HX x rfl)
            have kc := ((unhide HK).below b2).cell 0
            simp only [List.getElem?_toArray, List.getElem?_cons_zero] at kc
            have HI3 := hide (unhide HI1 x rfl)
            have HKN := hide (unhide HKD x rfl)
            clear b2 HB1 HI1 HI2 HX HKD HW HK c0 c1
            obtain ⟨Y, hY⟩ : ∃ Y, Y = bts x := ⟨_, rfl⟩
            have hYl : Y.data.toList = x := by rw [hY, toList_bts]
            have hYz : Y.size = x.length := by rw [hY, size_bts]
            rw [← hY]
            clear hY
            have hk1 : 1 ≤ k := by omega
            have hk1' : 0 < (k : Int) := by omega
            have hkp : k - 1 < l.length := by have := unhide HN; omega
            have hkn : (k : Int) - 1 < (n : Int) := by omega
            have hkn0 : 0 ≤ (k : Int) - 1 := by omega
            obtain ⟨g', off', hge, _, _, d0, _⟩ := RowT.tok (unhide HR) (unhide HB2) hkp
            injection hge with hge
            injection hge with hg1 hg2
            subst hg1 hg2
            have hp := (unhide HA).2 hkp hk1
            rw [← hp.1] at d0
            have HP0 := hide hp.2
            clear hp HA
            have e3 : ((p : Int) != 3) = false := by rw [unhide HP3]; rfl
            have z1 : (ByteArray.mk #[32]).size = 1 := rfl
            have hol : O.size = acc.length := by rw [← sizeL, unhide HO]
            have hyz : Y.size ≤ 549755813888 := by have := unhide HX1; have := unhide HLN; omega
            have HT2 : Hid ((O ++ Y).data.toList = acc ++ x) := hide (by simp only [ByteArray.data_append, Array.toList_append]; rw [unhide HO, hYl]; try rfl)
            have HZ2 : Hid ((O ++ Y).size ≤ 549755813888) := hide (by have := unhide HX1; have := unhide HLN; simp only [ByteArray.size_append]; omega)
            have HL2 : Hid ((acc ++ x).length ≤ wMost (l.take (k + 1))) := hide (by have := unhide HX1; have := unhide HLN; simp only [List.length_append, List.length_cons, List.length_nil]; omega)
            clear HX1 HLN HO hYl hYz hol
            go_wp2
            exact ⟨⟨k + 1, kk, (acc ++ x), _, rfl, by go_num, by omega, unhide HZ2, HT2, HL2, hide ⟨fun h => absurd h (by omega), fun h _ => ⟨unhide HPK h, unhide HKN⟩⟩, hide (by have := unhide HI3; rw [if_neg (fun h => h.2.1 (unhide HP3))] at this; simpa using this), HB2⟩, by simp [intOf]; omega⟩
          · by_cases h4 : kk = 4
            · have HP3 := hide h4
              clear h4
              go_wp2_with fail
              refine (unhide HTX _).mono ?_
              rintro e w2 ⟨⟨v, rfl, hv⟩, b2⟩
              simp only [FtxV] at hv
              have HB2 := hide ((unhide HW).trans (((unhide HB1).mono (unhide HW).size).trans (b2.mono (Nat.le_trans (unhide HW).size (unhide HB1).size))))
              subst hv
              have HX1 := hide (unhide HX x rfl)
              have kc := ((unhide HK).below b2).cell 0
              simp only [List.getElem?_toArray, List.getElem?_cons_zero] at kc
              have HI3 := hide (unhide HI1 x rfl)
              have HKN := hide (unhide HKD x rfl)
              clear b2 HB1 HI1 HI2 HX HKD HW HK c0 c1
              obtain ⟨Y, hY⟩ : ∃ Y, Y = bts x := ⟨_, rfl⟩
              have hYl : Y.data.toList = x := by rw [hY, toList_bts]
              have hYz : Y.size = x.length := by rw [hY, size_bts]
              rw [← hY]
              clear hY
              have hk1 : 1 ≤ k := by omega
              have hk1' : 0 < (k : Int) := by omega
              have hkp : k - 1 < l.length := by have := unhide HN; omega
              have hkn : (k : Int) - 1 < (n : Int) := by omega
              have hkn0 : 0 ≤ (k : Int) - 1 := by omega
              obtain ⟨g', off', hge, _, _, d0, _⟩ := RowT.tok (unhide HR) (unhide HB2) hkp
              injection hge with hge
              injection hge with hg1 hg2
              subst hg1 hg2
              have hp := (unhide HA).2 hkp hk1
              rw [← hp.1] at d0
              have HP0 := hide hp.2
              clear hp HA
              have e3 : ((p : Int) != 3) = true := by rw [bne_iff_ne]; omega
              have e4 : ((kk : Int) != 4) = false := by rw [unhide HP3]; rfl
              clear hp3
              have z1 : (ByteArray.mk #[32]).size = 1 := rfl
              have hol : O.size = acc.length := by rw [← sizeL, unhide HO]
              have hyz : Y.size ≤ 549755813888 := by have := unhide HX1; have := unhide HLN; omega
              have HT2 : Hid ((O ++ Y).data.toList = acc ++ x) := hide (by simp only [ByteArray.data_append, Array.toList_append]; rw [unhide HO, hYl]; try rfl)
              have HZ2 : Hid ((O ++ Y).size ≤ 549755813888) := hide (by have := unhide HX1; have := unhide HLN; simp only [ByteArray.size_append]; omega)
              have HL2 : Hid ((acc ++ x).length ≤ wMost (l.take (k + 1))) := hide (by have := unhide HX1; have := unhide HLN; simp only [List.length_append, List.length_cons, List.length_nil]; omega)
              clear HX1 HLN HO hYl hYz hol
              go_wp2
              exact ⟨⟨k + 1, kk, (acc ++ x), _, rfl, by go_num, by omega, unhide HZ2, HT2, HL2, hide ⟨fun h => absurd h (by omega), fun h _ => ⟨unhide HPK h, unhide HKN⟩⟩, hide (by have := unhide HI3; rw [if_neg (fun h => h.2.2 (unhide HP3))] at this; simpa using this), HB2⟩, by simp [intOf]; omega⟩
            · go_wp2_with fail
              refine (unhide HTX _).mono ?_
              rintro e w2 ⟨⟨v, rfl, hv⟩, b2⟩
              simp only [FtxV] at hv
              have HB2 := hide ((unhide HW).trans (((unhide HB1).mono (unhide HW).size).trans (b2.mono (Nat.le_trans (unhide HW).size (unhide HB1).size))))
              subst hv
              have HX1 := hide (unhide HX x rfl)
              have kc := ((unhide HK).below b2).cell 0
              simp only [List.getElem?_toArray, List.getElem?_cons_zero] at kc
              have HI3 := hide (unhide HI1 x rfl)
              have HKN := hide (unhide HKD x rfl)
              clear b2 HB1 HI1 HI2 HX HKD HW HK c0 c1
              obtain ⟨Y, hY⟩ : ∃ Y, Y = bts x := ⟨_, rfl⟩
              have hYl : Y.data.toList = x := by rw [hY, toList_bts]
              have hYz : Y.size = x.length := by rw [hY, size_bts]
              rw [← hY]
              clear hY
              have hk1 : 1 ≤ k := by omega
              have hk1' : 0 < (k : Int) := by omega
              have hkp : k - 1 < l.length := by have := unhide HN; omega
              have hkn : (k : Int) - 1 < (n : Int) := by omega
              have hkn0 : 0 ≤ (k : Int) - 1 := by omega
              obtain ⟨g', off', hge, _, _, d0, _⟩ := RowT.tok (unhide HR) (unhide HB2) hkp
              injection hge with hge
              injection hge with hg1 hg2
              subst hg1 hg2
              have hp := (unhide HA).2 hkp hk1
              rw [← hp.1] at d0
              have HP0 := hide hp.2
              clear hp HA
              have e3 : ((p : Int) != 3) = true := by rw [bne_iff_ne]; omega
              have e4 : ((kk : Int) != 4) = true := by rw [bne_iff_ne]; omega
              have HP3 := hide hp3
              have HP4 := hide h4
              clear hp3 h4
              have z1 : (ByteArray.mk #[32]).size = 1 := rfl
              have hol : O.size = acc.length := by rw [← sizeL, unhide HO]
              have hyz : Y.size ≤ 549755813888 := by have := unhide HX1; have := unhide HLN; omega
              have HT2 : Hid ((O ++ ⟨#[32]⟩ ++ Y).data.toList = (acc ++ [32]) ++ x) := hide (by simp only [ByteArray.data_append, Array.toList_append]; rw [unhide HO, hYl]; try rfl)
              have HZ2 : Hid ((O ++ ⟨#[32]⟩ ++ Y).size ≤ 549755813888) := hide (by have := unhide HX1; have := unhide HLN; simp only [ByteArray.size_append]; omega)
              have HL2 : Hid (((acc ++ [32]) ++ x).length ≤ wMost (l.take (k + 1))) := hide (by have := unhide HX1; have := unhide HLN; simp only [List.length_append, List.length_cons, List.length_nil]; omega)
              clear HX1 HLN HO hYl hYz hol
              go_wp2
              exact ⟨⟨k + 1, kk, (acc ++ [32] ++ x), _, rfl, by go_num, by omega, unhide HZ2, HT2, HL2, hide ⟨fun h => absurd h (by omega), fun h _ => ⟨unhide HPK h, unhide HKN⟩⟩, hide (by have := unhide HI3; rw [if_pos ⟨unhide HP0, unhide HP3, unhide HP4⟩] at this; simpa using this), HB2⟩, by simp [intOf]; omega⟩
    · have hlt1 : ¬ (k : Int) < (n : Int) := by omega
      have hF := (unhide HI).fin (by rw [unhide HN]; omega)
      have hO2 : O = bts acc := ext_list (by rw [unhide HO, toList_bts])
      by_cases hbig : 4096 < n
      · have hbig' : 4096 < (n : Int) := by omega
        have HF : Hid (writeL l = none) := hide (by rw [unhide HWL, if_pos hbig])
        clear hbig hF HL HA HI HO hO2
        go_wp2
        go_ret2
        exact ⟨by rw [unhide HF]; rfl, unhide HW⟩
      · have hbig' : ¬ 4096 < (n : Int) := by omega
        have HF : Hid (wrR (writeL l) = .tuple #[.string O, .int .i64 0]) := hide (by rw [unhide HWL, if_neg hbig, hF, hO2]; rfl)
        clear hbig hF HL HA HI HO hO2
        go_wp2
        go_ret2
        exact ⟨by rw [unhide HF]; rfl, unhide HW⟩
end Go.Proofs.YtafegjbhaofgiaaDoor
