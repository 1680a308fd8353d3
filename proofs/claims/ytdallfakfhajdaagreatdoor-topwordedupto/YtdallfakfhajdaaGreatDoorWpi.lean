/-
  What word.pieces' function hands over, over this seat's program.
-/
import Derived.Test.YtdallfakfhajdaaGreatDoorWpc
import Derived.RangeFuncNested
import Derived.RangeFuncBound
import Derived.RangeFuncCalls
import Derived.RangeFuncLeaves
import Derived.Shelf.Abstract
import Derived.Shelf.RegionOpen
import Derived.WalkKit
import Derived.OwnWalkIn
import Derived.TacticsInMore
import Derived.LoopNIn
import Derived.LoopIn
set_option linter.unusedVariables false
namespace Go.Proofs.YtdallfakfhajdaaGreatDoor
open Go.RowKit Go.Shelf Go.Proofs.Enc Go.Proofs.Rns
attribute [local go_sem] Oper.semAt_some

set_option maxHeartbeats 4000000 in
set_option maxRecDepth 100000 in
theorem pieces_gives (s : ByteArray) (w0 w : World) (n Bs : Nat) (hn : 1 ≤ n) (hs : s.size ≤ 16777216) (ht : RTabN w0) (hes : ErrS w0) (hml : MaxL w0) (hb0 : Below w0.heap.size w0 w) (hbox : w.cell? ⟨Bs, 0, none⟩ = some (.string s)) (hlt : Bs < w.heap.size) :
    GivesR Fence.wide n Tryz.prog 77 #[.pointer (some ⟨Bs, 0, none⟩)] Pc.enc (PcR w0.heap.size) w0.heap.size (fun xs => xs.map Pc.say = pcW s.data.toList) (fun xs => xs.map Pc.say <+: pcW s.data.toList) w := by
  intro l J M W hW hJ hm ho hY h0
  have HT := hide ht
  have HES := hide hes
  have HML := hide hml
  have HJ := hide hJ
  have HM := hide hm
  have HO := hide ho
  have HY := hide hY
  have H0 := hide h0
  have HB0 := hide (hb0.trans (hW.mono hb0.size))
  have hld : W.cell? ⟨Bs, 0, none⟩ = some (.string s) := (hW.cell (p := ⟨Bs, 0, none⟩) hlt).trans hbox
  clear ht hes hml hJ hm ho hY h0 hW hb0 hbox
  refine callsIn_of_wp Tryz.func77 rfl trivial ?_ rfl
  simp only [Tryz.ntmps77, List.size_toArray, List.length_cons, List.length_nil, Nat.reduceAdd, Nat.reduceSub, Array.replicate_succ, Array.replicate_zero, List.push_toArray, List.append_toArray, List.nil_append, List.cons_append]
  gi_wp2
  gi_loopw [3, 4, 5, 6, 7, 8, 9] (fun z y _ _ _ _ _ wr => ∃ (t : ByteArray) (b : Bool) (pre : List Pc) (f : Nat), z = .string t ∧ y = .bool b ∧ t.size ≤ s.size ∧ t.size < f ∧ Hid (pre.map Pc.say ++ pcF f b t.data.toList = pcW s.data.toList) ∧ Hid (J pre wr) ∧ Hid (Below w0.heap.size w0 wr)) (fun z _ _ _ _ _ _ _ => match z with | .string t => t.size | _ => 0)
  case atStart => exact ⟨s, false, [], s.size + 1, rfl, rfl, Nat.le_refl _, by omega, hide (by unfold pcW; rw [sizeL]; rfl), H0, HB0⟩
  case round =>
    obtain ⟨t, b, pre, f, rfl, rfl, hts, hf, HP, HJ0, HB⟩ := hrel
    obtain ⟨f, rfl⟩ : ∃ f', f = f' + 1 := ⟨f - 1, by omega⟩
    by_cases ht0 : t = ⟨#[]⟩
    · subst ht0
      have hp : Hid (pre.map Pc.say = pcW s.data.toList) := hide (by rw [← unhide HP]; simp [pcF])
      gi_wp2
      go_end0
      exact ⟨⟨_, rfl⟩, pre, unhide hp, unhide HJ0⟩
    · have HFW := hide (findWord_any t wr ((unhide HT).below (unhide HB)) ((unhide HES).below (unhide HB)) ((unhide HML).below (unhide HB)) (by omega))
      have hie : t.toList.isEmpty = false := by
        rw [ByteArray.toList_eq]
        cases h : t.data.toList with
        | nil => exact absurd (ext_list (b := ⟨#[]⟩) (by rw [h])) ht0
        | cons a r => rfl
      have hle := fdW_le t.data.toList 0
      have hen := fdW_end t.data.toList 0
      rw [sizeL] at hle hen
      have HPL := unhide HP
      have hne : t.data.toList ≠ [] := fun e => ht0 (ext_list (b := ⟨#[]⟩) (by rw [e]))
      rw [show pcF (f + 1) b t.data.toList = (if runB b t.data.toList then [(lettersL (t.data.toList.take (fdW t.data.toList 0).1), false)] else []) ++ (if 0 < (fdW t.data.toList 0).2.2 then [((fdW t.data.toList 0).2.1, true)] else []) ++ pcF f true (t.data.toList.drop ((fdW t.data.toList 0).1 + (fdW t.data.toList 0).2.2)) by rw [pcF, if_neg hne]] at HPL
      unfold runB at HPL
      obtain ⟨q, hq⟩ : ∃ q, q = fdW t.data.toList 0 := ⟨_, rfl⟩
      rw [← hq] at HFW hle hen HPL
      clear hq HP hne
      obtain ⟨at', L, sz⟩ := q
      simp only at HFW hle hen HPL
      have HP := hide HPL
      clear HPL
      obtain ⟨_, hle⟩ := hle
      gi_wp2_with fail
      refine ⟨trivial, (callsIn_wide.2 (unhide HFW)).mono ?_⟩
      rintro e wA ⟨v, rfl, hov, hbA⟩
      have HJA := hide (unhide HJ _ _ _ (unhide HJ0) (grown_of_below hbA))
      have HBA := hide (belows' (unhide HB) hbA)
      have HRA : Hid (PcR w0.heap.size M ⟨v, L, true⟩ wA) := hide (PcR.new (x := ⟨v, L, true⟩) (unhide HM) (unhide HO) (unhide HJ0) hbA (unhide HB).size hov)
      clear hov hbA HFW HJ0 HB
      have hsu := fun W => slice_upto t at' at' rfl (by omega) W
      have hsf := fun W => slice_from t ((at' : Int) + (sz : Int)) (at' + sz) (by omega) (by omega) W
      have hR0 : (t.extract 0 at').data.toList = t.data.toList.take at' := toList_upto t at'
      have hF0 : (t.extract (at' + sz) t.size).data.toList = t.data.toList.drop (at' + sz) := toList_from _ _
      have hRz : (t.extract 0 at').size = at' := by rw [size_part _ _ _ (by omega)]; omega
      have hFz : (t.extract (at' + sz) t.size).size = t.size - (at' + sz) := size_part _ _ _ (Nat.le_refl _)
      rw [← hR0, ← hF0] at HP
      generalize t.extract 0 at' = R0 at hsu hR0 hRz HP
      generalize t.extract (at' + sz) t.size = F0 at hsf hF0 hFz HP
      clear hR0 hF0
      have hRe : R0.toList.isEmpty = decide (at' = 0) := by
        rw [ByteArray.toList_eq, ← hRz, ← sizeL]
        cases R0.data.toList <;> simp
      have hRe' : R0.data.toList.isEmpty = decide (at' = 0) := by
        rw [← hRz, ← sizeL]
        cases R0.data.toList <;> simp
      rw [hRe'] at HP
      by_cases hz : sz = 0
      · have hzi : ¬ (0 : Int) < (sz : Int) := by omega
        have hzn : ¬ 0 < sz := by omega
        have hat : ¬ at' = 0 := by have := hen hz; have : t.size ≠ 0 := fun e => ht0 (ext_list (b := ⟨#[]⟩) (by have h := sizeL t; rw [e] at h; exact List.eq_nil_of_length_eq_zero h)); omega
        rw [decide_eq_false hat] at hRe HP
        clear hen hz
        have HP2 : Hid (List.map Pc.say (pre ++ [⟨.nilFunc, lettersL R0.data.toList, false⟩]) ++ pcF f true F0.data.toList = pcW s.data.toList) := hide (by rw [← unhide HP]; simp [Pc.say, hzn])
        clear HP hzn hRe'
        cases b
        · skip
          gi_wp2_with fail
          refine ⟨trivial, ?_⟩
          have HLT := hide (fun W (h : RTab W) => letters_any R0 W h (by omega))
          gi_wp2_with fail
          refine ⟨trivial, (callsIn_wide.2 (unhide HLT _ ((unhide HT).below (unhide HBA)).1)).mono ?_⟩
          rintro e wL ⟨v1, rfl, hov1, hbL⟩
          have HJL := hide (unhide HJ _ _ _ (unhide HJA) (grown_of_below hbL))
          have HBL := hide (belows' (unhide HBA) hbL)
          have HRL := hide (PcR.grow (unhide HO) (unhide HJA) hbL (unhide HRA))
          have HR1 : Hid (PcR w0.heap.size M ⟨v1, lettersL R0.data.toList, false⟩ wL) := hide (PcR.new (x := ⟨v1, lettersL R0.data.toList, false⟩) (unhide HM) (unhide HO) (unhide HJA) hbL (unhide HBA).size hov1)
          clear hov1 hbL HLT HJA HBA HRA
          have hsp1 : List.map Pc.say (pre ++ [⟨v1, lettersL R0.data.toList, false⟩]) <+: pcW s.data.toList := ⟨pcF f true F0.data.toList, by rw [← unhide HP2]; simp [Pc.say]⟩
          obtain ⟨fn1, tm1, as1, bo1, hy1, hR1⟩ := unhide HY _ _ wL (unhide HJL) (unhide HR1) hsp1
          clear hsp1
          dsimp only [Pc.enc] at hy1
          gi_wp2_with fail
          refine hR1.mono ?_
          rintro e wY ⟨rfl, hJ1, hk1⟩
          have HJY := hide hJ1
          have HBY := hide ((unhide HBL).trans (hk1.below (unhide HBL).size (fun k hk => (unhide HM _ _ _ (unhide HJL) hk).1)))
          have HRY := hide (PcR.round hk1 (unhide HRL))
          clear hJ1 hk1 hy1 hR1 HJL HBL HRL HR1
          gi_wp2_with fail
          refine ⟨fun _ h => (by cases h), ?_⟩
          gi_wp2
          go_roundw
          case rel => refine ⟨F0, true, _, f, rfl, rfl, by omega, by omega, ?_, HJY, HBY⟩; exact hide (by have h := unhide HP2; simp only [List.map_append, List.map_cons, List.map_nil, Pc.say] at h ⊢; exact h)
          case measure => simp only []; omega
        · skip
          gi_wp2_with fail
          refine ⟨trivial, ?_⟩
          have HLT := hide (fun W (h : RTab W) => letters_any R0 W h (by omega))
          gi_wp2_with fail
          refine ⟨trivial, (callsIn_wide.2 (unhide HLT _ ((unhide HT).below (unhide HBA)).1)).mono ?_⟩
          rintro e wL ⟨v1, rfl, hov1, hbL⟩
          have HJL := hide (unhide HJ _ _ _ (unhide HJA) (grown_of_below hbL))
          have HBL := hide (belows' (unhide HBA) hbL)
          have HRL := hide (PcR.grow (unhide HO) (unhide HJA) hbL (unhide HRA))
          have HR1 : Hid (PcR w0.heap.size M ⟨v1, lettersL R0.data.toList, false⟩ wL) := hide (PcR.new (x := ⟨v1, lettersL R0.data.toList, false⟩) (unhide HM) (unhide HO) (unhide HJA) hbL (unhide HBA).size hov1)
          clear hov1 hbL HLT HJA HBA HRA
          have hsp1 : List.map Pc.say (pre ++ [⟨v1, lettersL R0.data.toList, false⟩]) <+: pcW s.data.toList := ⟨pcF f true F0.data.toList, by rw [← unhide HP2]; simp [Pc.say]⟩
          obtain ⟨fn1, tm1, as1, bo1, hy1, hR1⟩ := unhide HY _ _ wL (unhide HJL) (unhide HR1) hsp1
          clear hsp1
          dsimp only [Pc.enc] at hy1
          gi_wp2_with fail
          refine hR1.mono ?_
          rintro e wY ⟨rfl, hJ1, hk1⟩
          have HJY := hide hJ1
          have HBY := hide ((unhide HBL).trans (hk1.below (unhide HBL).size (fun k hk => (unhide HM _ _ _ (unhide HJL) hk).1)))
          have HRY := hide (PcR.round hk1 (unhide HRL))
          clear hJ1 hk1 hy1 hR1 HJL HBL HRL HR1
          gi_wp2_with fail
          refine ⟨fun _ h => (by cases h), ?_⟩
          gi_wp2
          go_roundw
          case rel => refine ⟨F0, true, _, f, rfl, rfl, by omega, by omega, ?_, HJY, HBY⟩; exact hide (by have h := unhide HP2; simp only [List.map_append, List.map_cons, List.map_nil, Pc.say] at h ⊢; exact h)
          case measure => simp only []; omega
      · have hzi : (0 : Int) < (sz : Int) := by omega
        have hzn : 0 < sz := by omega
        clear hen hz
        by_cases hat : at' = 0
        · rw [decide_eq_true hat] at hRe HP
          clear hat
          have HP2 : Hid (List.map Pc.say (pre ++ [⟨.nilFunc, L, true⟩]) ++ pcF f true F0.data.toList = pcW s.data.toList) := hide (by rw [← unhide HP]; simp [Pc.say, hzn])
          clear HP hzn hRe'
          cases b
          · skip
            gi_wp2_with fail
            refine ⟨trivial, ?_⟩
            gi_wp2_with fail
            refine ⟨trivial, ?_⟩
            gi_wp2_with fail
            refine ⟨fun _ h => (by cases h), ?_⟩
            obtain ⟨fn2, tm2, as2, bo2, hy2, hR2⟩ := unhide HY _ _ _ (unhide HJA) (unhide HRA) ⟨pcF f true F0.data.toList, by rw [← unhide HP2]; simp [Pc.say]⟩
            dsimp only [Pc.enc] at hy2
            gi_wp2_with fail
            refine hR2.mono ?_
            rintro e wZ ⟨rfl, hJ2, hk2⟩
            have HJZ := hide hJ2
            have HBZ := hide ((unhide HBA).trans (hk2.below (unhide HBA).size (fun k hk => (unhide HM _ _ _ (unhide HJA) hk).1)))
            clear hJ2 hk2 hy2 hR2 HJA HBA HRA
            gi_wp2
            go_roundw
            case rel => refine ⟨F0, true, _, f, rfl, rfl, by omega, by omega, ?_, HJZ, HBZ⟩; exact hide (by have h := unhide HP2; simp only [List.map_append, List.map_cons, List.map_nil, Pc.say] at h ⊢; exact h)
            case measure => simp only []; omega
          · skip
            have HTR := hide (trim_blank R0 wA (by omega))
            gi_wp2_with fail
            refine ⟨trivial, (callsIn_wide.2 (unhide HTR)).mono ?_⟩
            rintro e wT ⟨⟨T, rfl, hT⟩, hbT⟩
            have HJT := hide (unhide HJ _ _ _ (unhide HJA) (grown_of_below hbT))
            have HBT := hide (belows' (unhide HBA) hbT)
            have HRT := hide (PcR.grow (unhide HO) (unhide HJA) hbT (unhide HRA))
            clear hbT HTR HJA HBA HRA
            clear hT
            gi_wp2_with fail
            refine ⟨trivial, ?_⟩
            gi_wp2_with fail
            refine ⟨fun _ h => (by cases h), ?_⟩
            obtain ⟨fn2, tm2, as2, bo2, hy2, hR2⟩ := unhide HY _ _ _ (unhide HJT) (unhide HRT) ⟨pcF f true F0.data.toList, by rw [← unhide HP2]; simp [Pc.say]⟩
            dsimp only [Pc.enc] at hy2
            gi_wp2_with fail
            refine hR2.mono ?_
            rintro e wZ ⟨rfl, hJ2, hk2⟩
            have HJZ := hide hJ2
            have HBZ := hide ((unhide HBT).trans (hk2.below (unhide HBT).size (fun k hk => (unhide HM _ _ _ (unhide HJT) hk).1)))
            clear hJ2 hk2 hy2 hR2 HJT HBT HRT
            gi_wp2
            go_roundw
            case rel => refine ⟨F0, true, _, f, rfl, rfl, by omega, by omega, ?_, HJZ, HBZ⟩; exact hide (by have h := unhide HP2; simp only [List.map_append, List.map_cons, List.map_nil, Pc.say] at h ⊢; exact h)
            case measure => simp only []; omega
        · rw [decide_eq_false hat] at hRe HP
          cases b
          · skip
            have HP2 : Hid (List.map Pc.say (pre ++ [⟨.nilFunc, lettersL R0.data.toList, false⟩] ++ [⟨.nilFunc, L, true⟩]) ++ pcF f true F0.data.toList = pcW s.data.toList) := hide (by rw [← unhide HP]; simp [Pc.say, hzn])
            clear HP hzn hRe'
            gi_wp2_with fail
            refine ⟨trivial, ?_⟩
            have HLT := hide (fun W (h : RTab W) => letters_any R0 W h (by omega))
            gi_wp2_with fail
            refine ⟨trivial, (callsIn_wide.2 (unhide HLT _ ((unhide HT).below (unhide HBA)).1)).mono ?_⟩
            rintro e wL ⟨v1, rfl, hov1, hbL⟩
            have HJL := hide (unhide HJ _ _ _ (unhide HJA) (grown_of_below hbL))
            have HBL := hide (belows' (unhide HBA) hbL)
            have HRL := hide (PcR.grow (unhide HO) (unhide HJA) hbL (unhide HRA))
            have HR1 : Hid (PcR w0.heap.size M ⟨v1, lettersL R0.data.toList, false⟩ wL) := hide (PcR.new (x := ⟨v1, lettersL R0.data.toList, false⟩) (unhide HM) (unhide HO) (unhide HJA) hbL (unhide HBA).size hov1)
            clear hov1 hbL HLT HJA HBA HRA
            have hsp1 : List.map Pc.say (pre ++ [⟨v1, lettersL R0.data.toList, false⟩]) <+: pcW s.data.toList := ⟨[(L, true)] ++ pcF f true F0.data.toList, by rw [← unhide HP2]; simp [Pc.say]⟩
            obtain ⟨fn1, tm1, as1, bo1, hy1, hR1⟩ := unhide HY _ _ wL (unhide HJL) (unhide HR1) hsp1
            clear hsp1
            dsimp only [Pc.enc] at hy1
            gi_wp2_with fail
            refine hR1.mono ?_
            rintro e wY ⟨rfl, hJ1, hk1⟩
            have HJY := hide hJ1
            have HBY := hide ((unhide HBL).trans (hk1.below (unhide HBL).size (fun k hk => (unhide HM _ _ _ (unhide HJL) hk).1)))
            have HRY := hide (PcR.round hk1 (unhide HRL))
            clear hJ1 hk1 hy1 hR1 HJL HBL HRL HR1
            obtain ⟨fn2, tm2, as2, bo2, hy2, hR2⟩ := unhide HY _ _ _ (unhide HJY) (unhide HRY) ⟨pcF f true F0.data.toList, by rw [← unhide HP2]; simp [Pc.say]⟩
            dsimp only [Pc.enc] at hy2
            gi_wp2_with fail
            refine hR2.mono ?_
            rintro e wZ ⟨rfl, hJ2, hk2⟩
            have HJZ := hide hJ2
            have HBZ := hide ((unhide HBY).trans (hk2.below (unhide HBY).size (fun k hk => (unhide HM _ _ _ (unhide HJY) hk).1)))
            clear hJ2 hk2 hy2 hR2 HJY HBY HRY
            gi_wp2
            go_roundw
            case rel => refine ⟨F0, true, _, f, rfl, rfl, by omega, by omega, ?_, HJZ, HBZ⟩; exact hide (by have h := unhide HP2; simp only [List.map_append, List.map_cons, List.map_nil, Pc.say] at h ⊢; exact h)
            case measure => simp only []; omega
          · by_cases hbl : blL R0.data.toList = true
            · skip
              have HP2 : Hid (List.map Pc.say (pre ++ [⟨.nilFunc, L, true⟩]) ++ pcF f true F0.data.toList = pcW s.data.toList) := hide (by rw [← unhide HP]; simp [Pc.say, hzn, hbl])
              clear HP hzn hRe'
              have HTR := hide (trim_blank R0 wA (by omega))
              gi_wp2_with fail
              refine ⟨trivial, (callsIn_wide.2 (unhide HTR)).mono ?_⟩
              rintro e wT ⟨⟨T, rfl, hT⟩, hbT⟩
              have HJT := hide (unhide HJ _ _ _ (unhide HJA) (grown_of_below hbT))
              have HBT := hide (belows' (unhide HBA) hbT)
              have HRT := hide (PcR.grow (unhide HO) (unhide HJA) hbT (unhide HRA))
              clear hbT HTR HJA HBA HRA
              have hTe : T.toList.isEmpty = true := by rw [ByteArray.toList_eq, hT.2 hbl]; rfl
              clear hT
              gi_wp2_with fail
              refine ⟨trivial, ?_⟩
              gi_wp2_with fail
              refine ⟨fun _ h => (by cases h), ?_⟩
              obtain ⟨fn2, tm2, as2, bo2, hy2, hR2⟩ := unhide HY _ _ _ (unhide HJT) (unhide HRT) ⟨pcF f true F0.data.toList, by rw [← unhide HP2]; simp [Pc.say]⟩
              dsimp only [Pc.enc] at hy2
              gi_wp2_with fail
              refine hR2.mono ?_
              rintro e wZ ⟨rfl, hJ2, hk2⟩
              have HJZ := hide hJ2
              have HBZ := hide ((unhide HBT).trans (hk2.below (unhide HBT).size (fun k hk => (unhide HM _ _ _ (unhide HJT) hk).1)))
              clear hJ2 hk2 hy2 hR2 HJT HBT HRT
              gi_wp2
              go_roundw
              case rel => refine ⟨F0, true, _, f, rfl, rfl, by omega, by omega, ?_, HJZ, HBZ⟩; exact hide (by have h := unhide HP2; simp only [List.map_append, List.map_cons, List.map_nil, Pc.say] at h ⊢; exact h)
              case measure => simp only []; omega
            · skip
              have HP2 : Hid (List.map Pc.say (pre ++ [⟨.nilFunc, lettersL R0.data.toList, false⟩] ++ [⟨.nilFunc, L, true⟩]) ++ pcF f true F0.data.toList = pcW s.data.toList) := hide (by rw [← unhide HP]; simp [Pc.say, hzn, hbl])
              clear HP hzn hRe'
              have HTR := hide (trim_blank R0 wA (by omega))
              gi_wp2_with fail
              refine ⟨trivial, (callsIn_wide.2 (unhide HTR)).mono ?_⟩
              rintro e wT ⟨⟨T, rfl, hT⟩, hbT⟩
              have HJT := hide (unhide HJ _ _ _ (unhide HJA) (grown_of_below hbT))
              have HBT := hide (belows' (unhide HBA) hbT)
              have HRT := hide (PcR.grow (unhide HO) (unhide HJA) hbT (unhide HRA))
              clear hbT HTR HJA HBA HRA
              have hTe : T.toList.isEmpty = false := by
                rw [ByteArray.toList_eq]
                cases h : T.data.toList with
                | nil => exact absurd (hT.1 (ext_list (b := ⟨#[]⟩) (by rw [h]))) hbl
                | cons a r => rfl
              clear hT
              have HLT := hide (fun W (h : RTab W) => letters_any R0 W h (by omega))
              gi_wp2_with fail
              refine ⟨trivial, (callsIn_wide.2 (unhide HLT _ ((unhide HT).below (unhide HBT)).1)).mono ?_⟩
              rintro e wL ⟨v1, rfl, hov1, hbL⟩
              have HJL := hide (unhide HJ _ _ _ (unhide HJT) (grown_of_below hbL))
              have HBL := hide (belows' (unhide HBT) hbL)
              have HRL := hide (PcR.grow (unhide HO) (unhide HJT) hbL (unhide HRT))
              have HR1 : Hid (PcR w0.heap.size M ⟨v1, lettersL R0.data.toList, false⟩ wL) := hide (PcR.new (x := ⟨v1, lettersL R0.data.toList, false⟩) (unhide HM) (unhide HO) (unhide HJT) hbL (unhide HBT).size hov1)
              clear hov1 hbL HLT HJT HBT HRT
              have hsp1 : List.map Pc.say (pre ++ [⟨v1, lettersL R0.data.toList, false⟩]) <+: pcW s.data.toList := ⟨[(L, true)] ++ pcF f true F0.data.toList, by rw [← unhide HP2]; simp [Pc.say]⟩
              obtain ⟨fn1, tm1, as1, bo1, hy1, hR1⟩ := unhide HY _ _ wL (unhide HJL) (unhide HR1) hsp1
              clear hsp1
              dsimp only [Pc.enc] at hy1
              gi_wp2_with fail
              refine hR1.mono ?_
              rintro e wY ⟨rfl, hJ1, hk1⟩
              have HJY := hide hJ1
              have HBY := hide ((unhide HBL).trans (hk1.below (unhide HBL).size (fun k hk => (unhide HM _ _ _ (unhide HJL) hk).1)))
              have HRY := hide (PcR.round hk1 (unhide HRL))
              clear hJ1 hk1 hy1 hR1 HJL HBL HRL HR1
              obtain ⟨fn2, tm2, as2, bo2, hy2, hR2⟩ := unhide HY _ _ _ (unhide HJY) (unhide HRY) ⟨pcF f true F0.data.toList, by rw [← unhide HP2]; simp [Pc.say]⟩
              dsimp only [Pc.enc] at hy2
              gi_wp2_with fail
              refine hR2.mono ?_
              rintro e wZ ⟨rfl, hJ2, hk2⟩
              have HJZ := hide hJ2
              have HBZ := hide ((unhide HBY).trans (hk2.below (unhide HBY).size (fun k hk => (unhide HM _ _ _ (unhide HJY) hk).1)))
              clear hJ2 hk2 hy2 hR2 HJY HBY HRY
              gi_wp2
              go_roundw
              case rel => refine ⟨F0, true, _, f, rfl, rfl, by omega, by omega, ?_, HJZ, HBZ⟩; exact hide (by have h := unhide HP2; simp only [List.map_append, List.map_cons, List.map_nil, Pc.say] at h ⊢; exact h)
              case measure => simp only []; omega
end Go.Proofs.YtdallfakfhajdaaGreatDoor
