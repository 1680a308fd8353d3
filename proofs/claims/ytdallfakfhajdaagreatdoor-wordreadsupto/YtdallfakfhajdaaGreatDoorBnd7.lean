/-
  What missiveref09.One does, over this seat's program: the word that a text begins with.
-/
import Derived.Test.YtdallfakfhajdaaGreatDoorRwq
import Derived.Test.YtdallfakfhajdaaGreatDoorBnd1
import Derived.Test.YtdallfakfhajdaaGreatDoorBnd6
import Derived.Test.YtdallfakfhajdaaGreatDoorBnd4
set_option linter.unusedVariables false
namespace Go.Proofs.YtdallfakfhajdaaGreatDoor
open Go.RowKit Go.Proofs.Enc Go.Proofs.Rns

def aS (o : Option (List UInt8 × List UInt8)) : ByteArray := match o with
  | some p => bts p.1
  | none => ⟨#[]⟩
def bS (o : Option (List UInt8 × List UInt8)) : ByteArray := match o with
  | some p => bts p.2
  | none => ⟨#[]⟩
theorem partV_eq (o : Option (List UInt8 × List UInt8)) : partV o = .tuple #[.string (aS o), .string (bS o), .bool o.isSome] := by cases o <;> rfl
theorem part_len {l : List UInt8} {p : List UInt8 × List UInt8} (h : partR l = some p) : p.1.length + p.2.length < l.length := by
  unfold partR at h
  cases hc : cutAt 63 l with
  | none => rw [hc] at h; cases h
  | some q =>
    rw [hc] at h
    simp only at h
    split at h
    · obtain rfl := Option.some.inj h
      have := congrArg List.length (cut_some (a := q.1) (b := q.2) hc).1
      simp at this
      omega
    · cases h
theorem bS_len (l : List UInt8) : (bS (partR l)).size ≤ l.length ∧ (aS (partR l)).size ≤ l.length := by
  cases h : partR l with
  | none => exact ⟨Nat.zero_le _, Nat.zero_le _⟩
  | some p =>
    have := part_len h
    simp only [bS, aS, size_bts]
    omega
/-- What One answers. -/
def OneIs (w : World) (l : List UInt8) (e : Ending) (w' : World) : Prop :=
  (oneD l = none ∧ e = .returned (.tuple #[.slice none 0 0, .string ⟨#[]⟩, .int .i64 7])) ∨
  (∃ p v, oneD l = some p ∧ e = .returned (.tuple #[v, .string (bts p.2), .int .i64 0]) ∧ w'.ownsRow w.heap.size 21 1 v p.1.length (runeC p.1))
theorem oneD_0 {l : List UInt8} (h : opW l = none) : oneD l = none := by unfold oneD; rw [h]
section
variable {l r : List UInt8} {p1 p2 p3 : List UInt8 × List UInt8} (h0 : opW l = some r)
include h0
theorem oneD_1 (h1 : partR r = none) : oneD l = none := by unfold oneD; rw [h0]; simp only; rw [h1]
theorem oneD_2 (h1 : partR r = some p1) (h2 : partR p1.2 = none) : oneD l = none := by unfold oneD; rw [h0]; simp only; rw [h1]; simp only; rw [h2]
theorem oneD_3 (h1 : partR r = some p1) (h2 : partR p1.2 = some p2) (h3 : partR p2.2 = none) : oneD l = none := by unfold oneD; rw [h0]; simp only; rw [h1]; simp only; rw [h2]; simp only; rw [h3]
theorem oneD_all (h1 : partR r = some p1) (h2 : partR p1.2 = some p2) (h3 : partR p2.2 = some p3) : oneD l = if p3.2.head? = some 61 then (if (namedR (cutD 42 p1.1).1).2 = 0 then (match bytesD p2.1 p3.1 with
            | none => none
            | some b => some ((decR (namedR (cutD 42 p1.1).1).1 b).1, p3.2.tail)) else none) else none := by
  unfold oneD; rw [h0]; simp only; rw [h1]; simp only; rw [h2]; simp only; rw [h3]
  rfl
end
theorem namedR_lt (u : List UInt8) : (namedR u).1 < 256 := by
  unfold namedR namesT
  simp only [namedF]
  repeat' split
  all_goals simp
theorem own_drewN {w : World} {B : Nat} {e : TypeId} {size : Nat} {v : Value} {n : Nat} {xs : List Value} (h : w.ownsRow B e size v n xs) (m : Nat) : (w.drewN m).ownsRow B e size v n xs := h
theorem two_ext (s : ByteArray) : (s.extract 0 2).toList = s.data.toList.take 2 := by
  rw [upto_bts, ByteArray.toList_eq, toList_bts]
theorem opW_take {l : List UInt8} (h : 2 ≤ l.length) : (opW l = none → l.take 2 ≠ [61, 63]) ∧ (∀ r, opW l = some r → l.take 2 = [61, 63]) := by
  match l, h with
  | a :: b :: t, _ =>
    unfold opW
    by_cases hab : a = 61 ∧ b = 63
    · simp [hab.1, hab.2]
    · simp only [if_neg hab, List.take_succ_cons, List.take_zero]
      refine ⟨fun _ e => hab ?_, fun r hr => by cases hr⟩
      simp at e
      exact e

set_option maxHeartbeats 4000000 in
set_option maxRecDepth 100000 in
theorem refOneW_any (s : ByteArray) (w : World) (hs : s.size ≤ 4000000) :
    Calls Tryz.prog 10 #[.string s] w fun e w' => OneIs w s.data.toList e w' ∧ Below w.heap.size w w' := by
  have hsl := sizeL s
  cases ho : opW s.data.toList with
  | none =>
    have HR : Hid (oneD s.data.toList = none) := hide (oneD_0 ho)
    by_cases h2 : s.size < 2
    · have h2' : (s.size : Int) < 2 := by omega
      clear ho hsl h2
      go_enter Tryz.func10, Tryz.ntmps10
      go_wp2
      go_ret3
      exact ⟨.inl ⟨unhide HR, rfl⟩, Below.refl _ _⟩
    · have h2' : ¬ (s.size : Int) < 2 := by omega
      have hs2 : 2 ≤ s.size := by omega
      have hne : ((s.extract 0 2).toList == [61, 63]) = false := by
        rw [two_ext, beq_eq_false_iff_ne]
        exact (opW_take (by omega)).1 ho
      clear ho hsl h2
      go_enter Tryz.func10, Tryz.ntmps10
      go_wp2
      go_ret3
      exact ⟨.inl ⟨unhide HR, rfl⟩, Below.refl _ _⟩
  | some r =>
    have hop := opW_some ho
    have hs2 : 2 ≤ s.size := by omega
    have h2' : ¬ (s.size : Int) < 2 := by omega
    have hne : ((s.extract 0 2).toList == [61, 63]) = true := by
      rw [two_ext, (opW_take (by omega)).2 r ho]
      rfl
    obtain ⟨t1, ht1⟩ : ∃ t1, t1 = s.extract 2 s.size := ⟨_, rfl⟩
    have htl : t1.data.toList = r := by rw [ht1, toList_from, hop.1]
    have hrl : r.length ≤ 4000000 := by rw [hop.1, List.length_drop]; omega
    have hz1 : t1.size ≤ 4000000 := by rw [← sizeL, htl]; exact hrl
    have HP1 := hide (fun W => refPart_any t1 W (by omega))
    rw [htl, partV_eq] at HP1
    obtain ⟨o1, ho1⟩ : ∃ o1, o1 = partR r := ⟨_, rfl⟩
    have hb1 := bS_len r
    rw [← ho1] at HP1 hb1
    have HP2 := hide (fun W => refPart_any (bS o1) W (by omega))
    rw [partV_eq] at HP2
    obtain ⟨o2, ho2⟩ : ∃ o2, o2 = partR (bS o1).data.toList := ⟨_, rfl⟩
    have hb2 := bS_len (bS o1).data.toList
    rw [← ho2, sizeL] at hb2
    rw [← ho2] at HP2
    have HP3 := hide (fun W => refPart_any (bS o2) W (by omega))
    rw [partV_eq] at HP3
    obtain ⟨o3, ho3⟩ : ∃ o3, o3 = partR (bS o2).data.toList := ⟨_, rfl⟩
    have hb3 := bS_len (bS o2).data.toList
    rw [← ho3, sizeL] at hb3
    rw [← ho3] at HP3
    have HO := hide (show opW s.data.toList = some r ∧ o1 = partR r ∧ o2 = partR (bS o1).data.toList ∧ o3 = partR (bS o2).data.toList from ⟨ho, ho1, ho2, ho3⟩)
    have HZ := hide (show (bS o1).size ≤ 4000000 ∧ (bS o2).size ≤ 4000000 ∧ (aS o3).size ≤ 4000000 ∧ (aS o1).size ≤ 4000000 by omega)
    have HT := hide ht1
    clear ho hop htl hrl ho1 ho2 ho3 hb1 hb2 hb3 hsl hz1
    subst ht1
    clear HT
    go_enter Tryz.func10, Tryz.ntmps10
    go_wp2_with fail
    refine (unhide HP1 _).mono ?_
    rintro e w1 ⟨rfl, b1⟩
    have HB1 := hide b1
    clear b1 HP1 hne h2'
    go_wp2_with fail
    refine (unhide HP2 _).mono ?_
    rintro e w2 ⟨rfl, b2⟩
    have HB2 := hide (belows' (unhide HB1) b2)
    clear b2 HP2 HB1
    go_wp2_with fail
    refine (unhide HP3 _).mono ?_
    rintro e w3 ⟨rfl, b3⟩
    have HB3 := hide (belows' (unhide HB2) b3)
    clear b3 HP3 HB2
    cases o1 with
    | none =>
      have HR : Hid (oneD s.data.toList = none) := hide (by obtain ⟨h0, h1, _⟩ := unhide HO; exact oneD_1 h0 h1.symm)
      simp only [Option.isSome_none]
      generalize bS o3 = y3
      generalize aS o3 = x3
      generalize o3.isSome = k3
      generalize o2.isSome = k2
      go_wp2
      go_ret3
      exact ⟨.inl ⟨unhide HR, rfl⟩, unhide HB3⟩
    | some p1 =>
      cases o2 with
      | none =>
        have HR : Hid (oneD s.data.toList = none) := hide (by
          obtain ⟨h0, h1, h2, _⟩ := unhide HO
          rw [show (bS (some p1)).data.toList = p1.2 from toList_bts _] at h2
          exact oneD_2 h0 h1.symm h2.symm)
        simp only [Option.isSome_none, Option.isSome_some]
        generalize bS o3 = y3
        generalize aS o3 = x3
        generalize o3.isSome = k3
        go_wp2
        go_ret3
        exact ⟨.inl ⟨unhide HR, rfl⟩, unhide HB3⟩
      | some p2 =>
        cases o3 with
        | none =>
          have HR : Hid (oneD s.data.toList = none) := hide (by
            obtain ⟨h0, h1, h2, h3⟩ := unhide HO
            rw [show (bS (some p1)).data.toList = p1.2 from toList_bts _] at h2
            rw [show (bS (some p2)).data.toList = p2.2 from toList_bts _] at h3
            exact oneD_3 h0 h1.symm h2.symm h3.symm)
          simp only [Option.isSome_none, Option.isSome_some]
          go_wp2
          go_ret3
          exact ⟨.inl ⟨unhide HR, rfl⟩, unhide HB3⟩
        | some p3 =>
          have hone : oneD s.data.toList = if p3.2.head? = some 61 then (if (namedR (cutD 42 p1.1).1).2 = 0 then (match bytesD p2.1 p3.1 with
              | none => none
              | some b => some ((decR (namedR (cutD 42 p1.1).1).1 b).1, p3.2.tail)) else none) else none := by
            obtain ⟨h0, h1, h2, h3⟩ := unhide HO
            rw [show (bS (some p1)).data.toList = p1.2 from toList_bts _] at h2
            rw [show (bS (some p2)).data.toList = p2.2 from toList_bts _] at h3
            exact oneD_all h0 h1.symm h2.symm h3.symm
          obtain ⟨z1, z2, z3, z4⟩ := unhide HZ
          simp only [bS, aS] at z1 z2 z3 z4
          clear HO HZ
          simp only [Option.isSome_some, aS, bS]
          have hy1 : (bts p1.1).data.toList = p1.1 := toList_bts _
          have HNM := hide (fun W => refNameW_any (bts p1.1) W (by omega))
          rw [hy1] at HNM
          have hcl : (bts (cutD 42 p1.1).1).size ≤ 4000000 := by
            have := cutD_len 42 p1.1
            rw [size_bts] at z4 ⊢
            omega
          have HND := hide (fun W => refNamed_any (bts (cutD 42 p1.1).1) W (by omega))
          rw [toList_bts] at HND
          have hct := namedR_lt (cutD 42 p1.1).1
          have HST := hide (fun W => refStrict_any (bts p3.1) W (by omega))
          have HPL := hide (fun W => refPlain_any (bts p3.1) W (by omega))
          rw [toList_bts] at HST HPL
          have hx2 : (bts p2.1).toList = p2.1 := by rw [ByteArray.toList_eq, toList_bts]
          have HLB : Hid (∀ b, bytesD p2.1 p3.1 = some b → b.length ≤ 4000000) := hide (fun b hb => by
            rw [← text_same] at hb
            have := textR_len hb
            rw [size_bts] at z3
            omega)
          generalize bts (cutD 42 p1.1).1 = nmb at HNM HND hcl
          obtain ⟨cc, hcc⟩ : ∃ cc, cc = (namedR (cutD 42 p1.1).1).1 := ⟨_, rfl⟩
          obtain ⟨nn, hnn⟩ : ∃ nn, nn = (namedR (cutD 42 p1.1).1).2 := ⟨_, rfl⟩
          rw [← hcc] at HND hct hone
          rw [← hnn] at HND hone
          clear hcc hnn hy1 hcl z4
          generalize bts p1.1 = x1 at HNM ⊢
          have HXX := hide hx2
          clear hx2
          generalize hg2 : bts p2.1 = x2 at HXX ⊢
          clear hg2
          generalize bts p3.1 = x3 at z3 HST HPL ⊢
          cases hp3 : p3.2 with
          | nil =>
            rw [hp3] at hone
            have HR : Hid (oneD s.data.toList = none) := hide (by rw [hone, if_neg (by simp)])
            have hem : (bts []).toList.isEmpty = true := by rw [empty_size]; rfl
            clear hone hp3
            generalize bts [] = y3 at hem ⊢
            generalize bts p1.2 = y1
            generalize bts p2.2 = y2
            go_wp2
            go_ret3
            exact ⟨.inl ⟨unhide HR, rfl⟩, unhide HB3⟩
          | cons c tl =>
            rw [hp3] at hone
            have hem : (bts (c :: tl)).toList.isEmpty = false := by rw [empty_size, size_bts]; exact decide_eq_false (by simp)
            have hyp : 0 < (bts (c :: tl)).size := by rw [size_bts]; simp
            have hy0 : (bts (c :: tl))[0] = c := rfl
            have HTL : Hid ((bts (c :: tl)).extract 1 (bts (c :: tl)).size = bts tl) := hide (by rw [behind_bts, toList_bts]; rfl)
            clear hp3 z1 z2
            generalize bts p1.2 = y1
            generalize bts p2.2 = y2
            by_cases h61 : c = 61
            · have h3 : (((bts (c :: tl))[0].toNat : Int) != 61) = false := by rw [hy0, h61]; rfl
              rw [if_pos (by simp [h61])] at hone
              clear hy0 h61
              generalize bts (c :: tl) = y3 at hem hyp HTL h3 ⊢
              by_cases hn : nn = 0
              · subst hn
                rw [if_pos rfl] at hone
                simp only [List.tail_cons] at hone
                have HON := hide hone
                clear hone
                go_wp2_with fail
                refine (unhide HNM _).mono ?_
                rintro e w4 ⟨rfl, h4⟩
                subst h4
                go_wp2_with fail
                refine (unhide HND _).mono ?_
                rintro e w5 ⟨rfl, b5⟩
                have HB5 := hide (belows' (unhide HB3) b5)
                clear b5 HB3 HNM HND
                by_cases q1 : p2.1 = [98]
                · have e1 : (x2.toList == [98]) = true := by rw [unhide HXX, q1]; rfl
                  have hbd : bytesD p2.1 p3.1 = (if (strictR p3.1).2 = 0 then some (strictR p3.1).1 else none) := by unfold bytesD; rw [if_pos (by simp [q1])]
                  have HON2 := unhide HON
                  rw [hbd] at HON2
                  by_cases hst : (strictR p3.1).2 = 0
                  · rw [if_pos hst] at HON2 hbd
                    simp only at HON2
                    have hbl := unhide HLB _ hbd
                    rw [hst] at HST
                    have HRW := hide HON2
                    have HDC := hide (fun W => refDecode_any cc (bts (strictR p3.1).1) W hct (by rw [size_bts]; exact hbl))
                    rw [toList_bts] at HDC
                    clear HON2 hbd hbl hst HON HXX HLB HPL q1
                    generalize (decR cc (strictR p3.1).1) = dd at HDC HRW
                    generalize bts (strictR p3.1).1 = bb at HST HDC
                    go_wp2_with fail
                    refine (unhide HST _).mono ?_
                    rintro e w6 ⟨rfl, b6⟩
                    have HB6 := hide (belows' (unhide HB5) b6)
                    clear b6 HST
                    go_wp2_with fail
                    refine (unhide HDC _).mono ?_
                    rintro e w7 ⟨v7, rfl, o7, b7⟩
                    have HB7 := hide (belows' (unhide HB6) b7)
                    have HO7 := hide (o7.mono (unhide HB6).size)
                    clear b7 o7 HDC HB6 HB5
                    go_wp2
                    go_quiet (fail)
                    go_wp2
                    go_ret3
                    exact ⟨.inr ⟨_, v7, unhide HRW, by rw [unhide HTL]; rfl, own_drewN (unhide HO7) _⟩, below_drewN (unhide HB7) _⟩
                  · rw [if_neg hst] at HON2
                    simp only at HON2
                    have hsf : (((strictR p3.1).2 : Int) == 0) = false := by rw [beq_eq_false_iff_ne]; omega
                    have HRW := hide HON2
                    clear HON2 hbd HON HXX HLB HPL hst q1
                    generalize (strictR p3.1).2 = sn at HST hsf
                    generalize bts (strictR p3.1).1 = bb at HST
                    go_wp2_with fail
                    refine (unhide HST _).mono ?_
                    rintro e w6 ⟨rfl, b6⟩
                    have HB6 := hide (belows' (unhide HB5) b6)
                    clear b6 HST
                    go_wp2
                    go_ret3
                    exact ⟨.inl ⟨unhide HRW, rfl⟩, unhide HB6⟩
                · have e1 : (x2.toList == [98]) = false := by rw [unhide HXX]; exact beq_eq_false_iff_ne.2 q1
                  by_cases q2 : p2.1 = [66]
                  · have e2 : (x2.toList == [66]) = true := by rw [unhide HXX, q2]; rfl
                    have hbd : bytesD p2.1 p3.1 = (if (strictR p3.1).2 = 0 then some (strictR p3.1).1 else none) := by unfold bytesD; rw [if_pos (by simp [q2])]
                    have HON2 := unhide HON
                    rw [hbd] at HON2
                    by_cases hst : (strictR p3.1).2 = 0
                    · rw [if_pos hst] at HON2 hbd
                      simp only at HON2
                      have hbl := unhide HLB _ hbd
                      rw [hst] at HST
                      have HRW := hide HON2
                      have HDC := hide (fun W => refDecode_any cc (bts (strictR p3.1).1) W hct (by rw [size_bts]; exact hbl))
                      rw [toList_bts] at HDC
                      clear HON2 hbd hbl hst HON HXX HLB HPL q1 q2
                      generalize (decR cc (strictR p3.1).1) = dd at HDC HRW
                      generalize bts (strictR p3.1).1 = bb at HST HDC
                      go_wp2_with fail
                      refine (unhide HST _).mono ?_
                      rintro e w6 ⟨rfl, b6⟩
                      have HB6 := hide (belows' (unhide HB5) b6)
                      clear b6 HST
                      go_wp2_with fail
                      refine (unhide HDC _).mono ?_
                      rintro e w7 ⟨v7, rfl, o7, b7⟩
                      have HB7 := hide (belows' (unhide HB6) b7)
                      have HO7 := hide (o7.mono (unhide HB6).size)
                      clear b7 o7 HDC HB6 HB5
                      go_wp2
                      go_quiet (fail)
                      go_wp2
                      go_ret3
                      exact ⟨.inr ⟨_, v7, unhide HRW, by rw [unhide HTL]; rfl, own_drewN (unhide HO7) _⟩, below_drewN (unhide HB7) _⟩
                    · rw [if_neg hst] at HON2
                      simp only at HON2
                      have hsf : (((strictR p3.1).2 : Int) == 0) = false := by rw [beq_eq_false_iff_ne]; omega
                      have HRW := hide HON2
                      clear HON2 hbd HON HXX HLB HPL hst q1 q2
                      generalize (strictR p3.1).2 = sn at HST hsf
                      generalize bts (strictR p3.1).1 = bb at HST
                      go_wp2_with fail
                      refine (unhide HST _).mono ?_
                      rintro e w6 ⟨rfl, b6⟩
                      have HB6 := hide (belows' (unhide HB5) b6)
                      clear b6 HST
                      go_wp2
                      go_ret3
                      exact ⟨.inl ⟨unhide HRW, rfl⟩, unhide HB6⟩
                  · have e2 : (x2.toList == [66]) = false := by rw [unhide HXX]; exact beq_eq_false_iff_ne.2 q2
                    by_cases q3 : p2.1 = [113]
                    · have e3 : (x2.toList == [113]) = true := by rw [unhide HXX, q3]; rfl
                      have hbd : bytesD p2.1 p3.1 = fromQR p3.1 := by unfold bytesD; rw [if_neg (by simp [q3]), if_pos (by simp [q3])]
                      have HON2 := unhide HON
                      rw [hbd] at HON2
                      cases hst : fromQR p3.1 with
                      | some b =>
                        rw [hst] at HON2 hbd HPL
                        simp only at HON2
                        simp only [optS] at HPL
                        have hbl := unhide HLB _ hbd
                        have HRW := hide HON2
                        have HDC := hide (fun W => refDecode_any cc (bts b) W hct (by rw [size_bts]; exact hbl))
                        rw [toList_bts] at HDC
                        clear HON2 hbd hbl hst HON HXX HLB HST q1 q2 q3
                        generalize (decR cc b) = dd at HDC HRW
                        generalize bts b = bb at HPL HDC
                        go_wp2_with fail
                        refine (unhide HPL _).mono ?_
                        rintro e w6 ⟨rfl, b6⟩
                        have HB6 := hide (belows' (unhide HB5) b6)
                        clear b6 HPL
                        go_wp2_with fail
                        refine (unhide HDC _).mono ?_
                        rintro e w7 ⟨v7, rfl, o7, b7⟩
                        have HB7 := hide (belows' (unhide HB6) b7)
                        have HO7 := hide (o7.mono (unhide HB6).size)
                        clear b7 o7 HDC HB6 HB5
                        go_wp2
                        go_quiet (fail)
                        go_wp2
                        go_ret3
                        exact ⟨.inr ⟨_, v7, unhide HRW, by rw [unhide HTL]; rfl, own_drewN (unhide HO7) _⟩, below_drewN (unhide HB7) _⟩
                      | none =>
                        rw [hst] at HON2 HPL
                        simp only at HON2
                        simp only [optS] at HPL
                        have HRW := hide HON2
                        clear HON2 hbd HON HXX HLB HST hst q1 q2 q3
                        generalize bts [] = bb at HPL
                        go_wp2_with fail
                        refine (unhide HPL _).mono ?_
                        rintro e w6 ⟨rfl, b6⟩
                        have HB6 := hide (belows' (unhide HB5) b6)
                        clear b6 HPL
                        go_wp2
                        go_ret3
                        exact ⟨.inl ⟨unhide HRW, rfl⟩, unhide HB6⟩
                    · have e3 : (x2.toList == [113]) = false := by rw [unhide HXX]; exact beq_eq_false_iff_ne.2 q3
                      by_cases q4 : p2.1 = [81]
                      · have e4 : (x2.toList == [81]) = true := by rw [unhide HXX, q4]; rfl
                        have hbd : bytesD p2.1 p3.1 = fromQR p3.1 := by unfold bytesD; rw [if_neg (by simp [q4]), if_pos (by simp [q4])]
                        have HON2 := unhide HON
                        rw [hbd] at HON2
                        cases hst : fromQR p3.1 with
                        | some b =>
                          rw [hst] at HON2 hbd HPL
                          simp only at HON2
                          simp only [optS] at HPL
                          have hbl := unhide HLB _ hbd
                          have HRW := hide HON2
                          have HDC := hide (fun W => refDecode_any cc (bts b) W hct (by rw [size_bts]; exact hbl))
                          rw [toList_bts] at HDC
                          clear HON2 hbd hbl hst HON HXX HLB HST q1 q2 q3 q4
                          generalize (decR cc b) = dd at HDC HRW
                          generalize bts b = bb at HPL HDC
                          go_wp2_with fail
                          refine (unhide HPL _).mono ?_
                          rintro e w6 ⟨rfl, b6⟩
                          have HB6 := hide (belows' (unhide HB5) b6)
                          clear b6 HPL
                          go_wp2_with fail
                          refine (unhide HDC _).mono ?_
                          rintro e w7 ⟨v7, rfl, o7, b7⟩
                          have HB7 := hide (belows' (unhide HB6) b7)
                          have HO7 := hide (o7.mono (unhide HB6).size)
                          clear b7 o7 HDC HB6 HB5
                          go_wp2
                          go_quiet (fail)
                          go_wp2
                          go_ret3
                          exact ⟨.inr ⟨_, v7, unhide HRW, by rw [unhide HTL]; rfl, own_drewN (unhide HO7) _⟩, below_drewN (unhide HB7) _⟩
                        | none =>
                          rw [hst] at HON2 HPL
                          simp only at HON2
                          simp only [optS] at HPL
                          have HRW := hide HON2
                          clear HON2 hbd HON HXX HLB HST hst q1 q2 q3 q4
                          generalize bts [] = bb at HPL
                          go_wp2_with fail
                          refine (unhide HPL _).mono ?_
                          rintro e w6 ⟨rfl, b6⟩
                          have HB6 := hide (belows' (unhide HB5) b6)
                          clear b6 HPL
                          go_wp2
                          go_ret3
                          exact ⟨.inl ⟨unhide HRW, rfl⟩, unhide HB6⟩
                      · have e4 : (x2.toList == [81]) = false := by rw [unhide HXX]; exact beq_eq_false_iff_ne.2 q4
                        have HRW : Hid (oneD s.data.toList = none) := hide (by
                          have h := unhide HON
                          rw [show bytesD p2.1 p3.1 = none by unfold bytesD; rw [if_neg (by simp [q1, q2]), if_neg (by simp [q3, q4])]] at h
                          exact h)
                        clear HON HXX HLB HST HPL q1 q2 q3 q4
                        go_wp2
                        go_ret3
                        exact ⟨.inl ⟨unhide HRW, rfl⟩, unhide HB5⟩
              · rw [if_neg hn] at hone
                have hnf : ((nn : Int) != 0) = true := by rw [bne_iff_ne]; omega
                have HRW := hide hone
                clear hone hn
                go_wp2_with fail
                refine (unhide HNM _).mono ?_
                rintro e w4 ⟨rfl, h4⟩
                subst h4
                go_wp2_with fail
                refine (unhide HND _).mono ?_
                rintro e w5 ⟨rfl, b5⟩
                have HB5 := hide (belows' (unhide HB3) b5)
                clear b5
                go_wp2
                go_ret3
                exact ⟨.inl ⟨unhide HRW, rfl⟩, unhide HB5⟩
            · have h3 : (((bts (c :: tl))[0].toNat : Int) != 61) = true := by
                rw [hy0, bne_iff_ne]
                intro e
                exact h61 (UInt8.toNat_inj.mp (by have : (61 : UInt8).toNat = 61 := rfl; omega))
              have HRW : Hid (oneD s.data.toList = none) := hide (by rw [hone, if_neg (by simpa using h61)])
              clear hy0 h61 hone
              generalize bts (c :: tl) = y3 at hem hyp HTL h3 ⊢
              go_wp2
              go_ret3
              exact ⟨.inl ⟨unhide HRW, rfl⟩, unhide HB3⟩
end Go.Proofs.YtdallfakfhajdaaGreatDoor

/-
  What missivelaw09.lives does, over this seat's program: it answers true.
-/
set_option linter.unusedVariables false
namespace Go.Proofs.YtdallfakfhajdaaGreatDoor
open Go.RowKit Go.Proofs.Enc Go.Proofs.Rns

set_option maxHeartbeats 4000000 in
set_option maxRecDepth 100000 in
theorem livesW_any (w : World) (ht : TabW w) : Calls Tryz.prog 11 #[] w fun e w' => e = .returned (.bool true) ∧ Below w.heap.size w w' := by
  have H0 := hide ht
  clear ht
  have hR : lvR.size = 24 := by decide
  have hS : (⟨#[61, 63, 117, 116, 102, 45, 56, 63, 113, 63, 97, 95, 98, 63, 61, 32, 32, 61, 63, 108, 97, 116, 105, 110, 49, 42, 101, 110, 63, 66, 63, 54, 81, 61, 61, 63, 61, 32, 120]⟩ : ByteArray).size = 39 := by decide
  go_enter Tryz.func11, Tryz.ntmps11
  go_wp2_with fail
  refine (lv_dec _ (unhide H0)).mono ?_
  rintro e w1 ⟨v, rfl, hv, b1⟩
  have HV := hide hv
  have H1 := hide ((unhide H0).below b1)
  clear hv
  go_wp2_with fail
  refine (lv_one _ (unhide H1)).mono ?_
  rintro e w2 ⟨u, rfl, hu, b2⟩
  have HU := hide hu
  have H2 := hide ((unhide H1).below b2)
  clear hu
  go_wp2_with fail
  refine (lv_enc _ ((unhide H2).below ((Below.refl _ w2).alloc (Nat.le_refl _) _)) _ (lit_rowI w2 [97, 32, 233] _ rfl (by decide) 3 rfl)).mono ?_
  rintro e w3 ⟨rfl, b3'⟩
  have b3 := alloc_below _ b3'
  have H3 := hide ((unhide H2).below b3)
  clear b3'
  go_wp2_with fail
  refine (lv_enc1 _ ((unhide H3).below ((Below.refl _ w3).alloc (Nat.le_refl _) _)) _ (lit_rowI w3 [97] _ rfl (by decide) 1 rfl)).mono ?_
  rintro e w4 ⟨rfl, b4'⟩
  have b4 := alloc_below _ b4'
  have H4 := hide ((unhide H3).below b4)
  clear b4'
  go_wp2_with fail
  refine (lv_koi _ (unhide H4)).mono ?_
  rintro e w5 ⟨x1, x2, rfl, b5⟩
  have H5 := hide ((unhide H4).below b5)
  have HV5 := hide (((((unhide HV).below b2).below b3).below b4).below b5)
  have HU5 := hide ((((unhide HU).below b3).below b4).below b5)
  clear HV HU
  go_wp2_with fail
  refine (same_any _ _ [97, 32, 98, 233, 32, 120] [97, 32, 98, 233, 32, 120] _ ((unhide HV5).below ((Below.refl _ w5).alloc (Nat.le_refl _) _)) (lit_rowI w5 [97, 32, 98, 233, 32, 120] _ rfl (by decide) 6 rfl) (by decide)).mono ?_
  rintro e w6 ⟨rfl, b6'⟩
  have b6 := alloc_below _ b6'
  have H6 := hide ((unhide H5).below b6)
  have HU6 := hide ((unhide HU5).below b6)
  clear b6' HU5 HV5
  rw [show decide (([97, 32, 98, 233, 32, 120] : List Int) = [97, 32, 98, 233, 32, 120]) = true from rfl]
  go_wp2_with fail
  refine (lv_words _ (unhide H6)).mono ?_
  rintro e w7 ⟨rfl, b7⟩
  have HU7 := hide ((unhide HU6).below b7)
  clear HU6
  go_wp2_with fail
  refine (same_any _ _ [97, 32, 98] [97, 32, 98] _ ((unhide HU7).below ((Below.refl _ w7).alloc (Nat.le_refl _) _)) (lit_rowI w7 [97, 32, 98] _ rfl (by decide) 3 rfl) (by decide)).mono ?_
  rintro e w8 ⟨rfl, b8'⟩
  have b8 := alloc_below _ b8'
  clear b8'
  rw [show decide (([97, 32, 98] : List Int) = [97, 32, 98]) = true from rfl]
  go_wp2
  go_ret
  exact ⟨rfl, belows' (belows' (belows' (belows' (belows' (belows' (belows' b1 b2) b3) b4) b5) b6) b7) b8⟩
end Go.Proofs.YtdallfakfhajdaaGreatDoor
