/-
  What the document's Read of layer 14 does, over this seat's program.
-/
import Derived.Test.YtmadjiiomjlnaaaDsm
set_option linter.unusedVariables false
namespace Go.Proofs.Ytmadjiiomjlnaaa
open Go.RowKit Go.Proofs.Num Go.Proofs.Dct

/-- A row stays where another one, of other things, grows. -/
theorem own_other {w w' : World} {B e e2 k k2 : Nat} {v v2 : Value} {n n2 : Nat} {xs xs2 : List Value} (h : w.ownsRow B e k v n xs) (h2 : w.ownsRow B e2 k2 v2 n2 xs2) (he : e ≠ e2) (hg : w.grownBy w' v2.ownBlock) : w'.ownsRow B e k v n xs := by
  refine ⟨h.1, ?_⟩
  rcases h.2 with h1 | ⟨g, cap, cur, hv, hgB, hh, r⟩
  · exact Or.inl h1
  · right
    refine ⟨g, cap, cur, hv, hgB, ?_, r⟩
    rw [hg.block g (Array.getElem?_eq_some_iff.1 hh).1 ?_]
    · exact hh
    · rcases h2.2 with ⟨rfl, _⟩ | ⟨g2, cap2, cur2, rfl, _, hh2, _⟩
      · simp [Value.ownBlock]
      · simp only [Value.ownBlock, ne_eq, Option.some.injEq]
        rintro rfl
        rw [hh] at hh2
        simp only [Option.some.injEq, Obj.cells.injEq] at hh2
        exact he hh2.2.1
theorem own_other' {w : World} {B e e2 k k2 : Nat} {v v2 : Value} {n n2 : Nat} {xs xs2 : List Value} (h : w.ownsRow B e k v n xs) (h2 : w.ownsRow B e2 k2 v2 n2 xs2) (he : e ≠ e2) {g2 i : Nat} (hv : v2.ownBlock = some g2) (u : Value) : (w.setCell ⟨g2, i, none⟩ u).ownsRow B e k v n xs := by
  refine own_other h h2 he ?_
  rw [hv]
  exact ⟨rfl, rfl, rfl, by simp, fun k _ hk => Below.heap_setCell _ _ _ _ (fun e => hk (by rw [e]))⟩

theorem rest_ok {L : List UInt8} {p m z : Nat} (h : scanL (L.drop p) = (m, z, 0)) : restOf (bts (L.drop p)) = bts (L.drop (p + z)) := by
  unfold restOf
  rw [toList_bts, h, if_pos rfl]
  apply ext_list
  rw [toList_from, toList_bts, toList_bts, List.drop_drop]
theorem rget_ok (L : List UInt8) (p m z : Nat) (w : World) (hl : L.length ≤ 140737488355328) (h : scanL (L.drop p) = (m, z, 0)) :
    Calls Try.prog 27 #[.string (bts (L.drop p))] w fun e w' => e = .returned (.tuple #[.int .u64 m, .string (bts (L.drop (p + z))), .int .i64 0]) ∧ Below w.heap.size w w' := by
  have hg := refGet_any (bts (L.drop p)) w (by rw [size_bts, List.length_drop]; omega)
  rw [rest_ok h, toList_bts, h] at hg
  exact hg
theorem rget_no (L : List UInt8) (p c : Nat) (w : World) (hl : L.length ≤ 140737488355328) (h : scanL (L.drop p) = (0, 0, c)) (hc : c ≠ 0) :
    Calls Try.prog 27 #[.string (bts (L.drop p))] w fun e w' => e = .returned (.tuple #[.int .u64 0, .string ⟨#[]⟩, .int .i64 c]) ∧ Below w.heap.size w w' := by
  have hg := refGet_any (bts (L.drop p)) w (by rw [size_bts, List.length_drop]; omega)
  have hr : restOf (bts (L.drop p)) = ⟨#[]⟩ := by unfold restOf; rw [toList_bts, h, if_neg (by simpa using hc)]; rfl
  rw [hr, toList_bts, h] at hg
  exact hg

/-- The row of entries whose data are not there yet. -/
def ent2 (h : Nat × Nat) : Ent := (h.1, ByteArray.empty)
/-- The row of entries, some with their data. -/
def rowR (hs : List (Nat × Nat)) (done : List EntL) : List Ent := done.map entB ++ (hs.drop done.length).map ent2
theorem rowR_len {hs : List (Nat × Nat)} {done : List EntL} (h : done.length ≤ hs.length) : (rowR hs done).length = hs.length := by simp [rowR]; omega
theorem rowR_at {hs : List (Nat × Nat)} {done : List EntL} (h : done.length < hs.length) : (rowR hs done)[done.length]'(by rw [rowR_len (by omega)]; exact h) = ent2 hs[done.length] := by
  unfold rowR
  rw [List.getElem_append_right (by simp)]
  simp
theorem rowR_set {hs : List (Nat × Nat)} {done : List EntL} (h : done.length < hs.length) (e : EntL) : (rowR hs done).set done.length (entB e) = rowR hs (done ++ [e]) := by
  unfold rowR
  rw [List.set_append_right _ _ (by simp), List.length_map, Nat.sub_self, List.drop_eq_getElem_cons h, List.map_cons, List.set_cons_zero]
  simp
theorem rowR_all {hs : List (Nat × Nat)} {done : List EntL} (h : hs.length ≤ done.length) : rowR hs done = done.map entB := by
  unfold rowR
  rw [List.drop_of_length_le h]
  simp
theorem lastL_at {hs : List (Nat × Nat)} (h : 0 < hs.length) : lastL 0 hs = (hs[hs.length - 1]).1 + 1 := by
  unfold lastL
  rw [List.getLast?_eq_getElem?, List.getElem?_eq_getElem (by omega)]

set_option maxHeartbeats 4000000 in
set_option maxRecDepth 100000 in
theorem refRead_any (L : List UInt8) (w : World) (hl : L.length ≤ 140737488355328) :
    Calls Try.prog 10 #[.string (bts L)] w fun e w' => ∃ v x, ∃ c : Nat, e = .returned (.tuple #[v, .string x, .int .i64 c]) ∧ DRead (bts L) w' v x c ∧ Below w.heap.size w w' := by
  obtain ⟨c0, k0, e0, hsc⟩ : ∃ m k e, scanL (L.drop 0) = (m, k, e) := ⟨_, _, _, rfl⟩
  have hR : readE L = if e0 ≠ 0 then .error e0 else if 65536 < c0 then .error 15 else readHF L c0 [] 0 k0 := by
    unfold readE
    rw [show scanL L = (c0, k0, e0) by simpa using hsc]
  have hno := scanL_no (L.drop 0)
  rw [hsc] at hno
  by_cases he : e0 = 0
  · subst he
    rw [if_neg (by simp)] at hR
    have HR0 := hide (fun W => rget_ok L 0 c0 k0 W hl hsc)
    have hd := drop_scan hsc
    simp only [Nat.zero_add, List.drop_zero] at hd HR0
    by_cases h6 : 65536 < c0
    · rw [if_pos h6] at hR
      have hfin : readD (bts L).data.toList = .error 15 := by unfold readD; rw [toList_bts, hR]
      have HF := hide hfin
      have h6i : (65536 : Int) < (c0 : Int) := by omega
      clear hR hfin hsc hno hd
      go_enter Try.func10, Try.ntmps10
      go_wp2_with fail
      refine (unhide HR0 _).mono ?_
      rintro e w1 ⟨rfl, hb1⟩
      go_wp2
      go_ret3
      exact ⟨_, _, 15, rfl, dread_err (unhide HF) _, hb1⟩
    · rw [if_neg h6] at hR
      have HR := hide hR
      have h6i : (c0 : Int) ≤ 65536 := by omega
      obtain ⟨i0, hi, hz0, hz1, hz2⟩ := info_parts entInfo
      obtain ⟨j0, hj, hy0, hy1, hy2⟩ := info_parts u64Info
      have hk0 : k0 ≤ L.length := hd.2.2.1
      have hne : 41 ≠ 31 := by decide
      clear hR hsc hno hd
      go_enter Try.func10, Try.ntmps10
      go_wp2_with fail
      refine (unhide HR0 _).mono ?_
      rintro e w1 ⟨rfl, hb1⟩
      have HB1 := hide hb1
      clear hb1 HR0
      go_wp2
      go_loopw [6, 8, 9, 10] (fun xr xo xs xi wr => ∃ (i p : Nat) (acc : List (Nat × Nat)), xi = .int .u64 i ∧ xr = .string (bts (L.drop p)) ∧ i ≤ c0 ∧ p ≤ L.length ∧ Hid (acc.length = i ∧ lastL 0 acc ≤ 18446744073709551616) ∧ Hid (wr.ownsRow w1.heap.size 41 2 xo i (flatG cellsE (acc.map ent2))) ∧ Hid (wr.ownsRow w1.heap.size 31 1 xs i (flatG cellsU (acc.map (·.2)))) ∧ Hid (readHF L (c0 - i) acc (lastL 0 acc) p = readE L) ∧ Hid (Below w1.heap.size w1 wr)) (fun _ _ _ xi _ => c0 - (intOf xi).toNat)
      case atStart => exact ⟨0, k0, [], rfl, rfl, Nat.zero_le _, hk0, hide ⟨rfl, by rw [lastL_nil]; omega⟩, hide ⟨by simp [flatG], Or.inl ⟨rfl, rfl⟩⟩, hide ⟨by simp [flatG], Or.inl ⟨rfl, rfl⟩⟩, hide (by rw [unhide HR]; rfl), hide (Below.refl _ _)⟩
      case round =>
        obtain ⟨i, p, acc, rfl, rfl, hic, hp, HL, HO, HU, HA, HB⟩ := hrel
        obtain ⟨ao, co, hu8, hco⟩ := own_sliceG (unhide HO)
        obtain ⟨au, cu, hu9, hcu⟩ := own_sliceG (unhide HU)
        subst hu8 hu9
        by_cases hlt : i < c0
        · have hlt1 : (i : Int) < (c0 : Int) := by omega
          have hq : c0 - i = (c0 - (i + 1)) + 1 := by omega
          have hA := unhide HA
          rw [hq] at hA
          have hzr := (unhide HB).size
          obtain ⟨m, z, e, h1⟩ : ∃ m z e, scanL (L.drop p) = (m, z, e) := ⟨_, _, _, rfl⟩
          by_cases he0 : e = 0
          · subst he0
            have hd1 := drop_scan h1
            have HR1 := hide (fun W => rget_ok L p m z W hl h1)
            have hp1 := hd1.2.2.1
            have hm1 : (m : Int) ≤ 18446744073709551615 := by have := hd1.2.1; omega
            clear hd1
            obtain ⟨n, z2, e2, h2⟩ : ∃ n z2 e2, scanL (L.drop (p + z)) = (n, z2, e2) := ⟨_, _, _, rfl⟩
            by_cases hi0 : i = 0
            · have hi1 : ¬ (0 : Int) < (i : Int) := by omega
              have hl0 : lastL 0 acc = 0 := by
                have hacc : acc = [] := List.eq_nil_of_length_eq_zero (by rw [(unhide HL).1]; exact hi0)
                rw [hacc, lastL_nil]
              rw [hl0] at hA
              clear hl0 hi0
              have hbig : ¬ 18446744073709551615 < 0 + m := by omega
              go_wp2_with fail
              refine (unhide HR1 _).mono ?_
              rintro e w2 ⟨rfl, hb2⟩
              have HB2 := hide (belows' (unhide HB) hb2)
              have HO2 := hide (own_below (unhide HO) hb2)
              have HU2 := hide (own_below (unhide HU) hb2)
              clear hb2 HR1 HB HO HU HA
              by_cases he2 : e2 = 0
              · subst he2
                have hd2 := drop_scan h2
                have HR2 := hide (fun W => rget_ok L (p + z) n z2 W hl h2)
                have HST := hide (by have h := (readHF_step h1 hbig h2).symm.trans hA; rwa [Nat.zero_add] at h)
                have hp2 := hd2.2.2.1
                have hn2 : (n : Int) ≤ 18446744073709551615 := by have := hd2.2.1; omega
                clear hd2 h2 h1 hA

                go_wp2_with fail
                refine (unhide HR2 _).mono ?_
                rintro e w3 ⟨rfl, hb3⟩
                have HB3 := hide (belows' (unhide HB2) hb3)
                have hz3 : w1.heap.size ≤ w3.heap.size := (unhide HB3).size
                have HO3 := hide (own_below (own_below (unhide HO2) hb3) ((Below.refl _ w3).alloc (Nat.le_refl _) (.cells #[.int .u64 (m : Int), .string ⟨#[]⟩] 41)))
                have HU3 := hide (own_below (own_below (unhide HU2) hb3) ((Below.refl _ w3).alloc (Nat.le_refl _) (.cells #[.int .u64 (m : Int), .string ⟨#[]⟩] 41)))
                clear hb3 HB2 HO2 HU2 HR2
                go_wp2_with (at_builtin; refine wpList_append_own _ rfl _ _ 22 rfl w1.heap.size 41 i0 (.agg #[.int .u64 0, .string ByteArray.empty]) 2 24 Try.underlying22 hi hz0 hz1 hz2 rfl (by decide) _ _ _ rfl (unhide HO3) ⟨w3.heap.size, 0, none⟩ 1 1 [.int .u64 (m : Int), .string ⟨#[]⟩] rfl rfl ?c1 ?c2 ?c3 ?c4 ?c5 ?_)
                case c1 =>
                  intro j u hj
                  exact new_cells _ _ _ _ (by simp) j u hj
                case c2 => intro u hu; simp at hu; rcases hu with rfl | rfl <;> rfl
                case c3 => unfold maxLen; omega
                case c4 => omega
                case c5 => simp; omega
                intro v' w4 hown' hgrow _
                have HU4 := hide (own_below (own_other (unhide HU3) (unhide HO3) (Ne.symm hne) hgrow) ((Below.refl _ w4).alloc (Nat.le_refl _) (.cells #[.int .u64 (n : Int)] 31)))
                have HB4 := hide (below_own ((unhide HB3).alloc hz3 (.cells #[.int .u64 (m : Int), .string ⟨#[]⟩] 41)) (unhide HO3) hgrow (by simp; omega))
                have HO4 := hide (own_below hown' ((Below.refl _ w4).alloc (Nat.le_refl _) (.cells #[.int .u64 (n : Int)] 31)))
                have hz4 : w1.heap.size ≤ w4.heap.size := (unhide HB4).size
                obtain ⟨aq, cq, hvq, hcq⟩ := own_sliceG hown'
                subst hvq
                clear hown' hgrow HO3 HU3 HB3
                go_wp2_with (at_builtin; refine wpList_append_own _ rfl _ _ 35 rfl w1.heap.size 31 j0 (.int .u64 0) 1 8 Try.underlying35 hj hy0 hy1 hy2 rfl (by decide) _ _ _ rfl (unhide HU4) ⟨w4.heap.size, 0, none⟩ 1 1 [.int .u64 (n : Int)] rfl rfl ?c1 ?c2 ?c3 ?c4 ?c5 ?_)
                case c1 =>
                  intro j u hj
                  exact new_cells _ _ _ _ (by simp) j u hj
                case c2 => intro u hu; simp at hu; subst hu; rfl
                case c3 => unfold maxLen; omega
                case c4 => omega
                case c5 => simp; omega
                intro v5 w5 hown5 hgrow5 _
                have HO5 := hide (own_other (unhide HO4) (unhide HU4) hne hgrow5)
                have HB5 := hide (below_own ((unhide HB4).alloc hz4 (.cells #[.int .u64 (n : Int)] 31)) (unhide HU4) hgrow5 (by simp; omega))
                have hln : (acc ++ [(m, n)]).length = i + 1 ∧ lastL 0 (acc ++ [(m, n)]) = m + 1 := ⟨by rw [List.length_append, (unhide HL).1]; rfl, by rw [lastL_snoc]⟩
                have HO6 : Hid (w5.ownsRow w1.heap.size 41 2 (.slice aq (i + 1) cq) (i + 1) (flatG cellsE ((acc ++ [(m, n)]).map ent2))) := hide (by
                  rw [List.map_append, flatG_append]
                  exact unhide HO5)
                have HU6 : Hid (w5.ownsRow w1.heap.size 31 1 v5 (i + 1) (flatG cellsU ((acc ++ [(m, n)]).map (·.2)))) := hide (by
                  rw [List.map_append, flatG_append]
                  exact hown5)
                have HL6 := hide hln
                have hkb : m ≤ 18446744073709551615 := by omega
                clear hown5 hgrow5 hln HO4 HU4 HB4 HO5 HL
                go_wp2
                exact ⟨⟨i + 1, p + z + z2, acc ++ [(m, n)], by go_num, rfl, by omega, by omega, hide ⟨(unhide HL6).1, by rw [(unhide HL6).2]; omega⟩, HO6, HU6, hide (by rw [(unhide HL6).2]; exact unhide HST), HB5⟩, by simp [intOf]; omega⟩
              · have hno2 := scanL_no (L.drop (p + z))
                rw [h2] at hno2
                have hz0' : scanL (L.drop (p + z)) = (0, 0, e2) := by
                  rw [h2]
                  rcases hno2 with h | h | h
                  · exact absurd h he2
                  · simp only [Prod.mk.injEq] at h ⊢; exact ⟨h.1, h.2.1, trivial⟩
                  · simp only [Prod.mk.injEq] at h ⊢; exact ⟨h.1, h.2.1, trivial⟩
                have HR2 := hide (fun W => rget_no L (p + z) e2 W hl hz0' he2)
                have hfin : readD (bts L).data.toList = .error e2 := by unfold readD; rw [toList_bts, ← hA, readHF_err2 h1 hbig h2 he2]
                have HF := hide hfin
                have hne2 : ((e2 : Int) == 0) = false := by simp; omega
                clear h1 h2 hA hno2 hz0' hfin he2

                go_wp2_with fail
                refine (unhide HR2 _).mono ?_
                rintro e w3 ⟨rfl, hb3⟩
                have HB3 := hide (belows' (unhide HB1) (belows' (unhide HB2) hb3))
                clear hb3 HB2 HR2
                go_wp2
                go_ret3
                exact ⟨_, _, e2, rfl, dread_err (unhide HF) _, unhide HB3⟩
            · have hal := (unhide HL).1
              have hip : (0 : Int) < (i : Int) := by omega
              have hla := lastL_at (hs := acc) (by omega)
              have hix : acc.length - 1 < acc.length := by omega
              have hix2 : i - 1 < (acc.map ent2).length := by rw [List.length_map]; omega
              have hxm := (unhide HL).2
              rw [hla] at hA hxm
              go_wp2_with fail
              refine (unhide HR1 _).mono ?_
              rintro e w2 ⟨rfl, hb2⟩
              have HB2 := hide (belows' (unhide HB) hb2)
              have HO2 := hide (own_below (unhide HO) hb2)
              have HU2 := hide (own_below (unhide HU) hb2)
              clear hb2 HR1 HB HO HU HA
              obtain ⟨g, cp, hv1, hBg, hglt, hcell, _⟩ := ownG_at cellsE_len (c := cellsE) (l := acc.map ent2) (by rw [List.length_map, hal]; exact unhide HO2) (j := i - 1) hix2
              injection hv1 with e1 e2' e3
              subst e1
              have c0' := hcell 0 (by omega)
              have hgx : (acc.map ent2)[i - 1]'hix2 = ent2 (acc[acc.length - 1]'hix) := by
                rw [List.getElem_map]
                congr 2
                rw [hal]
              rw [hgx] at c0'
              simp only [cellsE, ent2, List.getElem?_cons_zero, Nat.add_zero] at c0'
              have HLA := hide hla
              clear e2' e3 hcell hgx hla
              generalize (acc[acc.length - 1]'hix).1 = x at c0' hA hxm HLA
              clear hal hix2
              have hxi : (x : Int) ≤ 18446744073709551615 := by omega
              by_cases hbig : 18446744073709551615 < x + 1 + m
              · have hfin : readD (bts L).data.toList = .error 7 := by unfold readD; rw [toList_bts, ← hA, readHF_code h1 hbig]
                have HF := hide hfin
                have HBB := hide (belows' (unhide HB1) (unhide HB2))
                clear h1 h2 hA hfin HO2 HU2 HL HLA
                by_cases hxe : x = 18446744073709551615
                · have hxb : ((x : Int) == 18446744073709551615) = true := by rw [hxe]; rfl
                  go_wp2
                  go_ret3
                  exact ⟨_, _, 7, rfl, dread_err (unhide HF) _, unhide HBB⟩
                · have hxb : ((x : Int) == 18446744073709551615) = false := by simp; omega
                  have hgt : (18446744073709551615 : Int) - (x : Int) - 1 < (m : Int) := by omega
                  go_wp2
                  go_ret3
                  exact ⟨_, _, 7, rfl, dread_err (unhide HF) _, unhide HBB⟩
              · have hxb : ((x : Int) == 18446744073709551615) = false := by simp; omega
                have hgt : ¬ (18446744073709551615 : Int) - (x : Int) - 1 < (m : Int) := by omega
                have hsb : (x : Int) + 1 + (m : Int) ≤ 18446744073709551615 := by omega
                by_cases he2 : e2 = 0
                · subst he2
                  have hd2 := drop_scan h2
                  have HR2 := hide (fun W => rget_ok L (p + z) n z2 W hl h2)
                  have HST := hide ((readHF_step h1 hbig h2).symm.trans hA)
                  have hp2 := hd2.2.2.1
                  have hn2 : (n : Int) ≤ 18446744073709551615 := by have := hd2.2.1; omega
                  clear hd2 h2 h1 hA

                  go_wp2_with fail
                  refine (unhide HR2 _).mono ?_
                  rintro e w3 ⟨rfl, hb3⟩
                  have HB3 := hide (belows' (unhide HB2) hb3)
                  have hz3 : w1.heap.size ≤ w3.heap.size := (unhide HB3).size
                  have HO3 := hide (own_below (own_below (unhide HO2) hb3) ((Below.refl _ w3).alloc (Nat.le_refl _) (.cells #[.int .u64 ((x : Int) + 1 + (m : Int)), .string ⟨#[]⟩] 41)))
                  have HU3 := hide (own_below (own_below (unhide HU2) hb3) ((Below.refl _ w3).alloc (Nat.le_refl _) (.cells #[.int .u64 ((x : Int) + 1 + (m : Int)), .string ⟨#[]⟩] 41)))
                  clear hb3 HB2 HO2 HU2 HR2
                  go_wp2_with (at_builtin; refine wpList_append_own _ rfl _ _ 22 rfl w1.heap.size 41 i0 (.agg #[.int .u64 0, .string ByteArray.empty]) 2 24 Try.underlying22 hi hz0 hz1 hz2 rfl (by decide) _ _ _ rfl (unhide HO3) ⟨w3.heap.size, 0, none⟩ 1 1 [.int .u64 ((x : Int) + 1 + (m : Int)), .string ⟨#[]⟩] rfl rfl ?c1 ?c2 ?c3 ?c4 ?c5 ?_)
                  case c1 =>
                    intro j u hj
                    exact new_cells _ _ _ _ (by simp) j u hj
                  case c2 => intro u hu; simp at hu; rcases hu with rfl | rfl <;> rfl
                  case c3 => unfold maxLen; omega
                  case c4 => omega
                  case c5 => simp; omega
                  intro v' w4 hown' hgrow _
                  have HU4 := hide (own_below (own_other (unhide HU3) (unhide HO3) (Ne.symm hne) hgrow) ((Below.refl _ w4).alloc (Nat.le_refl _) (.cells #[.int .u64 (n : Int)] 31)))
                  have HB4 := hide (below_own ((unhide HB3).alloc hz3 (.cells #[.int .u64 ((x : Int) + 1 + (m : Int)), .string ⟨#[]⟩] 41)) (unhide HO3) hgrow (by simp; omega))
                  have HO4 := hide (own_below hown' ((Below.refl _ w4).alloc (Nat.le_refl _) (.cells #[.int .u64 (n : Int)] 31)))
                  have hz4 : w1.heap.size ≤ w4.heap.size := (unhide HB4).size
                  obtain ⟨aq, cq, hvq, hcq⟩ := own_sliceG hown'
                  subst hvq
                  clear hown' hgrow HO3 HU3 HB3
                  go_wp2_with (at_builtin; refine wpList_append_own _ rfl _ _ 35 rfl w1.heap.size 31 j0 (.int .u64 0) 1 8 Try.underlying35 hj hy0 hy1 hy2 rfl (by decide) _ _ _ rfl (unhide HU4) ⟨w4.heap.size, 0, none⟩ 1 1 [.int .u64 (n : Int)] rfl rfl ?c1 ?c2 ?c3 ?c4 ?c5 ?_)
                  case c1 =>
                    intro j u hj
                    exact new_cells _ _ _ _ (by simp) j u hj
                  case c2 => intro u hu; simp at hu; subst hu; rfl
                  case c3 => unfold maxLen; omega
                  case c4 => omega
                  case c5 => simp; omega
                  intro v5 w5 hown5 hgrow5 _
                  have HO5 := hide (own_other (unhide HO4) (unhide HU4) hne hgrow5)
                  have HB5 := hide (below_own ((unhide HB4).alloc hz4 (.cells #[.int .u64 (n : Int)] 31)) (unhide HU4) hgrow5 (by simp; omega))
                  have hln : (acc ++ [(x + 1 + m, n)]).length = i + 1 ∧ lastL 0 (acc ++ [(x + 1 + m, n)]) = x + 1 + m + 1 := ⟨by rw [List.length_append, (unhide HL).1]; rfl, by rw [lastL_snoc]⟩
                  have HO6 : Hid (w5.ownsRow w1.heap.size 41 2 (.slice aq (i + 1) cq) (i + 1) (flatG cellsE ((acc ++ [(x + 1 + m, n)]).map ent2))) := hide (by
                    rw [List.map_append, flatG_append]
                    have h := unhide HO5
                    rw [show (x : Int) + 1 + (m : Int) = ((x + 1 + m : Nat) : Int) by omega] at h
                    exact h)
                  have HU6 : Hid (w5.ownsRow w1.heap.size 31 1 v5 (i + 1) (flatG cellsU ((acc ++ [(x + 1 + m, n)]).map (·.2)))) := hide (by
                    rw [List.map_append, flatG_append]
                    exact hown5)
                  have HL6 := hide hln
                  have hkb : x + 1 + m ≤ 18446744073709551615 := by omega
                  clear hown5 hgrow5 hln HO4 HU4 HB4 HO5 HL
                  go_wp2
                  exact ⟨⟨i + 1, p + z + z2, acc ++ [(x + 1 + m, n)], by go_num, rfl, by omega, by omega, hide ⟨(unhide HL6).1, by rw [(unhide HL6).2]; omega⟩, HO6, HU6, hide (by rw [(unhide HL6).2]; exact unhide HST), HB5⟩, by simp [intOf]; omega⟩
                · have hno2 := scanL_no (L.drop (p + z))
                  rw [h2] at hno2
                  have hz0' : scanL (L.drop (p + z)) = (0, 0, e2) := by
                    rw [h2]
                    rcases hno2 with h | h | h
                    · exact absurd h he2
                    · simp only [Prod.mk.injEq] at h ⊢; exact ⟨h.1, h.2.1, trivial⟩
                    · simp only [Prod.mk.injEq] at h ⊢; exact ⟨h.1, h.2.1, trivial⟩
                  have HR2 := hide (fun W => rget_no L (p + z) e2 W hl hz0' he2)
                  have hfin : readD (bts L).data.toList = .error e2 := by unfold readD; rw [toList_bts, ← hA, readHF_err2 h1 hbig h2 he2]
                  have HF := hide hfin
                  have hne2 : ((e2 : Int) == 0) = false := by simp; omega
                  clear h1 h2 hA hno2 hz0' hfin he2

                  go_wp2_with fail
                  refine (unhide HR2 _).mono ?_
                  rintro e w3 ⟨rfl, hb3⟩
                  have HB3 := hide (belows' (unhide HB1) (belows' (unhide HB2) hb3))
                  clear hb3 HB2 HR2
                  go_wp2
                  go_ret3
                  exact ⟨_, _, e2, rfl, dread_err (unhide HF) _, unhide HB3⟩
          · have hno1 := scanL_no (L.drop p)
            rw [h1] at hno1
            have hz0' : scanL (L.drop p) = (0, 0, e) := by
              rw [h1]
              rcases hno1 with h | h | h
              · exact absurd h he0
              · simp only [Prod.mk.injEq] at h ⊢; exact ⟨h.1, h.2.1, trivial⟩
              · simp only [Prod.mk.injEq] at h ⊢; exact ⟨h.1, h.2.1, trivial⟩
            have HR1 := hide (fun W => rget_no L p e W hl hz0' he0)
            have hfin : readD (bts L).data.toList = .error e := by unfold readD; rw [toList_bts, ← hA, readHF_err1 h1 he0]
            have HF := hide hfin
            have hne1 : ((e : Int) == 0) = false := by simp; omega
            clear h1 hA hno1 hz0' hfin he0
            go_wp2_with fail
            refine (unhide HR1 _).mono ?_
            rintro e' w2 ⟨rfl, hb2⟩
            have HB3 := hide (belows' (unhide HB1) (belows' (unhide HB) hb2))
            clear hb2 HR1 HB
            go_wp2
            go_ret3
            exact ⟨_, _, e, rfl, dread_err (unhide HF) _, unhide HB3⟩
        · have hlt1 : ¬ (i : Int) < (c0 : Int) := by omega
          have hE : readE L = .ok (acc, p) := by
            rw [← unhide HA, show c0 - i = 0 by omega, readHF]
          have hok := readE_ok hE
          have hfin : readD (bts L).data.toList = match readTF L acc [] p with
              | none => .error 5
              | some x => .ok x := by unfold readD; rw [toList_bts, hE]; rfl
          have HF := hide hfin
          have HT := hide hok.2.2.1
          have hal := (unhide HL).1
          have HAL := hide hal
          have hi6 : i ≤ 65536 := by omega
          have HO7 : Hid (wr.ownsRow w1.heap.size 41 2 (.slice ao i co) i (flatG cellsE (rowR acc []))) := hide (by simpa [rowR] using unhide HO)
          clear hE hok hfin hal HA HL HO
          go_wp2
          go_loopw [6, 17, 18, 87] (fun xr xi xn z wr => ∃ (k q : Nat) (done : List EntL), z = .int .i64 k ∧ xr = .string (bts (L.drop q)) ∧ k ≤ i ∧ q ≤ L.length ∧ Hid (done.length = k) ∧ Hid (wr.ownsRow w1.heap.size 41 2 (.slice ao i co) i (flatG cellsE (rowR acc done))) ∧ Hid (wr.ownsRow w1.heap.size 31 1 (.slice au i cu) i (flatG cellsU (acc.map (·.2)))) ∧ Hid (readTF L (acc.drop k) done q = readTF L acc [] p) ∧ Hid (Below w1.heap.size w1 wr)) (fun _ _ _ z _ => i - (intOf z).toNat)
          case atStart => exact ⟨0, p, [], rfl, rfl, Nat.zero_le _, hp, hide rfl, HO7, HU, hide (by simp), HB⟩
          case round =>
            obtain ⟨k, q, done, rfl, rfl, hk, hq, HD, HOk, HUk, HA, HB⟩ := hrel
            by_cases hlt : k < i
            · have hlt1 : (k : Int) < (i : Int) := by omega
              have hlt2 : k < acc.length := by have := unhide HAL; omega
              have hdl := unhide HD
              have hrl : (rowR acc done).length = i := by rw [rowR_len (by omega), unhide HAL]
              have hkr : k < (rowR acc done).length := by omega
              obtain ⟨g, cap', hv', hBg, hglt, hcell, hfz⟩ := ownG_at cellsE_len (c := cellsE) (by rw [hrl]; exact unhide HOk) (j := k) hkr
              obtain ⟨g2, cap2, hv2, hBg2, hglt2, hcell2, _⟩ := ownG_at cellsU_len (c := cellsU) (l := acc.map (·.2)) (by rw [List.length_map, unhide HAL]; exact unhide HUk) (j := k) (by rw [List.length_map]; exact hlt2)
              injection hv' with e1 e2 e3
              injection hv2 with e4 e5 e6
              subst e1 e4
              clear e2 e3 e5 e6
              have hget : (rowR acc done)[k]'hkr = ent2 acc[k] := by
                subst hdl
                exact rowR_at hlt2
              rw [hget] at hcell
              have c1 := hcell 1 (by omega)
              have n0 := hcell2 0 (by omega)
              have f1 := hfz (k * 2 + 1)
              have hA := unhide HA
              rw [List.drop_eq_getElem_cons hlt2] at hA
              have hnb := (unhide HT acc[k] (List.getElem_mem hlt2)).2
              obtain ⟨ky, hky⟩ : ∃ ky, ky = (acc[k]).1 := ⟨_, rfl⟩
              obtain ⟨n, hn⟩ : ∃ n, n = (acc[k]).2 := ⟨_, rfl⟩
              have hpair : acc[k] = (ky, n) := by rw [hky, hn]
              rw [List.getElem_map] at n0
              rw [hpair] at hA hnb c1 hget n0
              simp only [cellsE, cellsU, ent2, List.getElem?_cons_succ, List.getElem?_cons_zero, Nat.mul_one, Nat.add_zero] at c1 n0
              simp only [readTF] at hA
              simp only at hnb
              have hnbi : (n : Int) ≤ 18446744073709551615 := by omega
              have hdz : (bts (L.drop q)).size = L.length - q := by rw [size_bts, List.length_drop]
              clear hcell hcell2 hfz hky hn hpair
              by_cases hbig : L.length - q < n
              · rw [if_pos hbig] at hA
                have hfin : readD (bts L).data.toList = .error 5 := by rw [unhide HF, ← hA]
                have HFF := hide hfin
                have hbi : ((L.length - q : Nat) : Int) < (n : Int) := by omega
                have HBB := hide (belows' (unhide HB1) (unhide HB))
                clear hA hfin hnb hget hdl hrl HA HD HOk HUk f1 c1 hbig
                go_wp2
                go_ret3
                exact ⟨_, _, 5, rfl, dread_err (unhide HFF) _, unhide HBB⟩
              · rw [if_neg hbig] at hA
                have hbi : ¬ ((L.length - q : Nat) : Int) < (n : Int) := by omega
                have hext : (bts (L.drop q)).extract 0 n = bts ((L.drop q).take n) := by
                  apply ext_list
                  rw [toList_bts, toList_upto, toList_bts]
                have hext2 : (bts (L.drop q)).extract n (bts (L.drop q)).size = bts (L.drop (q + n)) := by
                  apply ext_list
                  rw [toList_bts, toList_from, toList_bts, List.drop_drop]
                have HX2 := hide (by rw [← hdz]; exact hext2 : (bts (L.drop q)).extract n (L.length - q) = bts (L.drop (q + n)))
                have hst := (show wr.ownsRow w1.heap.size 41 2 (.slice (some ⟨g, 0, none⟩) i co) i (flatG cellsE (rowR acc done)) from unhide HOk).stored (k * 2 + 1) (.string ((bts (L.drop q)).extract 0 n))
                have hst1 := hst.1
                rw [flatG_set cellsE_len (rowR acc done) k hkr (entB (ky, (L.drop q).take n)) 1 (by omega) (.string ((bts (L.drop q)).extract 0 n)) (by rw [hget, hext]; simp [cellsE, entB, ent2])] at hst1
                have hset : (rowR acc done).set k (entB (ky, (L.drop q).take n)) = rowR acc (done ++ [(ky, (L.drop q).take n)]) := by
                  subst hdl
                  exact rowR_set hlt2 _
                rw [hset] at hst1
                have HO9 := hide hst1
                have HU9 := hide (own_other' (i := k * 2 + 1) (unhide HUk) (unhide HOk) (Ne.symm hne) (g2 := g) rfl (.string ((bts (L.drop q)).extract 0 n)))
                have HB9 := hide ((unhide HB).setCell (p := ⟨g, k * 2 + 1, none⟩) hBg (.string ((bts (L.drop q)).extract 0 n)))
                have HA9 := hide hA
                have HD9 : Hid ((done ++ [(ky, (L.drop q).take n)]).length = k + 1) := hide (by simp [hdl])
                have hqz : q + n ≤ L.length := by omega
                clear hA hnb hget hdl hrl HA HD HOk HUk hst hst1 hset hext hext2 hbig HB
                go_wp2
                exact ⟨⟨k + 1, q + n, done ++ [(ky, (L.drop q).take n)], by go_num, congrArg Value.string (unhide HX2), by omega, by omega, HD9, HO9, HU9, HA9, HB9⟩, by simp [intOf]; omega⟩
            · have hlt1 : ¬ (k : Int) < (i : Int) := by omega
              have hfin : readD (bts L).data.toList = .ok (done, q) := by
                rw [unhide HF, ← unhide HA, List.drop_of_length_le (by have := unhide HAL; omega), readTF]
              have HFF := hide hfin
              have hown2 := unhide HOk
              rw [rowR_all (by have h1 := unhide HAL; have h2 := unhide HD; omega)] at hown2
              have hT2 : i = (done.map entB).length := by have h2 := unhide HD; simp; omega
              have hft := fit_read (s := bts L) (by rw [size_bts]; exact hl) hfin
              have hrow : RowE wr (.slice ao i co) (done.map entB) := by
                refine rowG_of_own cellsE_len (by rw [← hT2]; exact hown2) (by rw [← hT2]; omega) ?_
                intro x hx
                obtain ⟨e, he, rfl⟩ := List.mem_map.1 hx
                exact hft.1 e he
              have hext : (bts L).extract q (bts L).size = bts (L.drop q) := by
                apply ext_list
                rw [toList_bts, toList_from, toList_bts]
              have HRR := hide hrow
              have HBB := hide (belows' (unhide HB1) (unhide HB))
              have HEX := hide hext
              clear hfin hown2 hT2 HA HOk HD HUk hrow hext hft
              go_wp2
              go_ret3
              refine ⟨_, _, 0, rfl, ?_, unhide HBB⟩
              rw [← unhide HEX]
              exact dread_ok (unhide HFF) (unhide HRR)
  · rw [if_pos he] at hR
    have hfin : readD (bts L).data.toList = .error e0 := by unfold readD; rw [toList_bts, hR]
    have HF := hide hfin
    have hz0 : scanL (L.drop 0) = (0, 0, e0) := by
      rcases hno with h | h | h
      · exact absurd h he
      · rw [hsc]; simp only [Prod.mk.injEq] at h ⊢; exact ⟨h.1, h.2.1, trivial⟩
      · rw [hsc]; simp only [Prod.mk.injEq] at h ⊢; exact ⟨h.1, h.2.1, trivial⟩
    have HR0 := hide (fun W => rget_no L 0 e0 W hl hz0 he)
    rw [List.drop_zero] at HR0
    have hne : ((e0 : Int) == 0) = false := by simp; omega
    clear hR hsc hno hz0 he hfin
    go_enter Try.func10, Try.ntmps10
    go_wp2_with fail
    refine (unhide HR0 _).mono ?_
    rintro e w1 ⟨rfl, hb1⟩
    go_wp2
    go_ret3
    exact ⟨_, _, e0, rfl, dread_err (unhide HF) _, hb1⟩
end Go.Proofs.Ytmadjiiomjlnaaa
