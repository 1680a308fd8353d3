/-
  What the document's Find, Keys and Range of layer 14 do, over this seat's program.
-/
import Derived.Test.YtmadjiiomjlnaaaRda
set_option linter.unusedVariables false
namespace Go.Proofs.Ytmadjiiomjlnaaa
open Go.RowKit Go.Proofs.Num Go.Proofs.Dct

/-- What the document's Read answers, as a row. -/
theorem refRead_row (L : List UInt8) (w : World) (hl : L.length ≤ 140737488355328) :
    Calls Try.prog 10 #[.string (bts L)] w fun e w' => (∃ c : Nat, readD L = .error c ∧ c ≠ 0 ∧ e = .returned (.tuple #[.slice none 0 0, .string ⟨#[]⟩, .int .i64 (c : Int)]) ∧ Below w.heap.size w w')
      ∨ (∃ v l x, ∃ q : Nat, readD L = .ok (l, q) ∧ e = .returned (.tuple #[v, .string x, .int .i64 0]) ∧ RowE w' v (l.map entB) ∧ Below w.heap.size w w') := by
  refine (refRead_any L w hl).mono ?_
  rintro e w' ⟨v, x, c, rfl, h, hb⟩
  unfold DRead at h
  rw [toList_bts] at h
  cases hE : readD L with
  | error y =>
    rw [hE] at h
    obtain ⟨rfl, rfl, rfl⟩ := h
    exact Or.inl ⟨c, rfl, readD_err_code hE, rfl, hb⟩
  | ok y =>
    obtain ⟨l, q⟩ := y
    rw [hE] at h
    obtain ⟨h1, rfl, rfl⟩ := h
    exact Or.inr ⟨v, l, _, q, rfl, rfl, h1, hb⟩

set_option maxHeartbeats 2000000 in
set_option maxRecDepth 100000 in
theorem refFind_any (L : List UInt8) (key : Nat) (w : World) (hl : L.length ≤ 140737488355328) (hky : key ≤ 18446744073709551615) :
    Calls Try.prog 14 #[.string (bts L), .int .u64 (key : Int)] w fun e w' => e = .returned (.tuple #[.string (bts (findR L key).1), .int .i64 ((findR L key).2 : Int)]) ∧ Below w.heap.size w w' := by
  have HR0 := hide (refRead_row L w hl)
  go_enter Try.func14, Try.ntmps14
  go_wp2_with fail
  refine (unhide HR0).mono ?_
  rintro e w1 (⟨c, hE, hc, rfl, hb1⟩ | ⟨v, l, x, q, hE, rfl, hrow, hb1⟩)
  · have hne : ((c : Int) == 0) = false := by simp; omega
    have hfin : findR L key = ([], c) := by unfold findR; rw [hE]
    have HF := hide hfin
    clear hE hc hfin HR0
    go_wp2
    go_ret2
    exact ⟨by rw [unhide HF]; rfl, hb1⟩
  · have hfin : findR L key = seekE key l := by unfold findR; rw [hE]
    have HF := hide hfin
    have HB1 := hide hb1
    have HR := hide hrow
    obtain ⟨ad, cap, hv, hl4, hft, hrest⟩ := hrow
    subst hv
    have HFT := hide hft
    rw [List.length_map] at *
    obtain ⟨T, hT⟩ : ∃ T, T = l.length := ⟨_, rfl⟩
    rw [← hT] at HR hl4 ⊢
    have HTL := hide hT
    clear hE hb1 hrest hT HR0 hfin hft
    go_wp2
    go_loopw [10, 22] (fun xe z wr => ∃ k : Nat, z = .int .i64 k ∧ k ≤ T ∧ Hid (seekE key l = seekE key (l.drop k)) ∧ Hid (Below w1.heap.size w1 wr)) (fun _ z _ => T - (intOf z).toNat)
    case atStart => exact ⟨0, rfl, Nat.zero_le _, hide rfl, hide (Below.refl _ _)⟩
    case round =>
      obtain ⟨k, rfl, hk, HS, HB⟩ := hrel
      by_cases hlt : k < T
      · have hlt1 : (k : Int) < (T : Int) := by omega
        have hkl : k < l.length := by have := unhide HTL; omega
        obtain ⟨b, off, cap', hv', hblt, hcell⟩ := RowG.at cellsE_len ((unhide HR).below (unhide HB)) (j := k) (by simpa using hkl)
        injection hv' with e1 e2 e3
        subst e1
        have c0 := hcell 0 (by omega)
        have c1 := hcell 1 (by omega)
        have hfit := (unhide HFT (entB l[k]) (List.mem_map_of_mem (List.getElem_mem hkl))).1
        have hS := unhide HS
        rw [List.drop_eq_getElem_cons hkl] at hS
        simp only [List.getElem_map, cellsE, entB, List.getElem?_cons_succ, List.getElem?_cons_zero, Nat.add_zero] at c0 c1 hfit
        have hzr := (unhide HB).size
        by_cases hkey : (l[k]).1 = key
        · rw [seek_hit hkey] at hS
          rw [hkey] at c0
          have HFF := hide ((unhide HF).trans hS)
          generalize hD : bts (l[k]).2 = D at c1
          have HD := hide hD
          have HBA := hide (belows' (unhide HB1) ((unhide HB).alloc hzr (.cells #[.int .u64 (key : Int), .string D] 41)))
          clear hcell hfit e2 e3 hS HS hD hkey
          go_wp2
          go_ret2
          exact ⟨by rw [unhide HFF, ← unhide HD]; rfl, unhide HBA⟩
        · rw [seek_miss hkey] at hS
          have HSS := hide hS
          have hkb : (((l[k]).1 : Int) == (key : Int)) = false := by simp; omega
          generalize bts (l[k]).2 = D at c1
          generalize (l[k]).1 = ky at c0 hkb hfit
          have HBA := hide ((unhide HB).alloc hzr (.cells #[.int .u64 (ky : Int), .string D] 41))
          clear hcell e2 e3 hS HS hkey
          go_wp2
          exact ⟨⟨k + 1, by go_num, by omega, HSS, HBA⟩, by simp [intOf]; omega⟩
      · have hlt1 : ¬ (k : Int) < (T : Int) := by omega
        have hS := unhide HS
        rw [List.drop_of_length_le (by have := unhide HTL; omega), seek_nil] at hS
        have HFF := hide ((unhide HF).trans hS)
        have HBB := hide (belows' (unhide HB1) (unhide HB))
        clear hS HS HB
        go_wp2
        go_ret2
        exact ⟨by rw [unhide HFF]; rfl, unhide HBB⟩

set_option maxHeartbeats 2000000 in
set_option maxRecDepth 100000 in
theorem refKeys_any (L : List UInt8) (w : World) (hl : L.length ≤ 140737488355328) :
    Calls Try.prog 18 #[.string (bts L)] w fun e w' => ∃ v, ∃ c : Nat, e = .returned (.tuple #[v, .int .i64 c]) ∧ DKeys (bts L) w' v c ∧ Below w.heap.size w w' := by
  have HR0 := hide (refRead_row L w hl)
  obtain ⟨i0, hi, hz0, hz1, hz2⟩ := info_parts u64Info
  go_enter Try.func18, Try.ntmps18
  go_wp2_with fail
  refine (unhide HR0).mono ?_
  rintro e w1 (⟨c, hE, hc, rfl, hb1⟩ | ⟨v, l, x, q, hE, rfl, hrow, hb1⟩)
  · have HF := hide hE
    have HB1 := hide hb1
    clear hE hc HR0 hb1
    go_wp2
    go_loopw [7, 9, 18] (fun xl xe z wr => z = .int .i64 0 ∧ xl = .slice none 0 0 ∧ wr = w1) (fun _ _ z _ => 0)
    case atStart => exact ⟨rfl, rfl, rfl⟩
    case round =>
      obtain ⟨rfl, rfl, hwr⟩ := hrel
      rw [hwr]
      clear hwr
      go_wp2
      go_ret2
      exact ⟨_, c, rfl, dkeys_err (by rw [toList_bts]; exact unhide HF) _, unhide HB1⟩
  · have HF := hide hE
    have HB1 := hide hb1
    have HR := hide hrow
    obtain ⟨ad, cap, hv, hl4, hft, hrest⟩ := hrow
    subst hv
    have HFT := hide hft
    rw [List.length_map] at *
    obtain ⟨T, hT⟩ : ∃ T, T = l.length := ⟨_, rfl⟩
    rw [← hT] at HR hl4 ⊢
    have HTL := hide hT
    clear hE hb1 hrest hT HR0 hft
    go_wp2
    go_loopw [7, 9, 18] (fun xl xe z wr => ∃ k : Nat, z = .int .i64 k ∧ k ≤ T ∧ Hid (wr.ownsRow w1.heap.size 31 1 xl k (flatG cellsU ((keysE l).take k))) ∧ Hid (Below w1.heap.size w1 wr)) (fun _ _ z _ => T - (intOf z).toNat)
    case atStart => exact ⟨0, rfl, Nat.zero_le _, hide ⟨by simp [flatG], Or.inl ⟨rfl, rfl⟩⟩, hide (Below.refl _ _)⟩
    case round =>
      obtain ⟨k, rfl, hk, HO, HB⟩ := hrel
      obtain ⟨ao, co, hu8, hco⟩ := own_sliceG (unhide HO)
      subst hu8
      by_cases hlt : k < T
      · have hlt1 : (k : Int) < (T : Int) := by omega
        have hkl : k < l.length := by have := unhide HTL; omega
        obtain ⟨b, off, cap', hv', hblt, hcell⟩ := RowG.at cellsE_len ((unhide HR).below (unhide HB)) (j := k) (by simpa using hkl)
        injection hv' with e1 e2 e3
        subst e1
        have c0 := hcell 0 (by omega)
        have c1 := hcell 1 (by omega)
        have hnx := flatU_next l k hkl
        simp only [List.getElem_map, cellsE, entB, List.getElem?_cons_succ, List.getElem?_cons_zero, Nat.add_zero] at c0 c1
        generalize (l[k]).1 = ky at c0 hnx
        generalize bts (l[k]).2 = D at c1
        have HNX := hide hnx
        have hzr := (unhide HB).size
        have HB3 := hide ((Below.refl _ wr).alloc (Nat.le_refl _) (.cells #[.int .u64 (ky : Int), .string D] 41))
        have HOW := hide (own_below (unhide HO) ((unhide HB3).alloc (by simp) (.cells #[.int .u64 (ky : Int)] 31)))
        clear hcell hnx e2 e3
        go_wp2_with (at_builtin; refine wpList_append_own _ rfl _ _ 35 rfl w1.heap.size 31 i0 (.int .u64 0) 1 8 Try.underlying35 hi hz0 hz1 hz2 rfl (by decide) _ _ _ rfl (unhide HOW) ⟨wr.heap.size + 1, 0, none⟩ 1 1 [.int .u64 (ky : Int)] rfl rfl ?c1 ?c2 ?c3 ?c4 ?c5 ?_)
        case c1 =>
          intro j u hj
          exact new_cells _ _ _ _ (by simp) j u hj
        case c2 => intro u hu; simp at hu; subst hu; rfl
        case c3 => unfold maxLen; omega
        case c4 => omega
        case c5 => simp; omega
        intro v' w4 hown' hgrow _
        have HB4 := hide (below_own ((unhide HB).trans (((unhide HB3).alloc (by simp) (.cells #[.int .u64 (ky : Int)] 31)).mono hzr)) (unhide HOW) hgrow (by simp; omega))
        rw [← unhide HNX] at hown'
        have HO4 := hide hown'
        clear hown' hgrow HOW HO HB HB3
        go_wp2
        exact ⟨⟨k + 1, by go_num, by omega, HO4, HB4⟩, by simp [intOf]; omega⟩
      · have hlt1 : ¬ (k : Int) < (T : Int) := by omega
        have hke : k = T := by omega
        have hown := unhide HO
        rw [List.take_of_length_le (by have := unhide HTL; simp [keysE]; omega)] at hown
        have hlen : k = (keysE l).length := by have := unhide HTL; simp [keysE]; omega
        have hrow : RowU wr (.slice ao k co) (keysE l) := by
          refine rowG_of_own cellsU_len (by rw [← hlen]; exact hown) (by rw [← hlen]; omega) ?_
          intro x hx
          obtain ⟨e, he, rfl⟩ := List.mem_map.1 hx
          exact (unhide HFT (entB e) (List.mem_map_of_mem he)).1
        have HRR := hide hrow
        have HBB := hide (belows' (unhide HB1) (unhide HB))
        clear hown hlen hrow HO HB hke
        go_wp2
        go_ret2
        exact ⟨_, 0, rfl, dkeys_ok (by rw [toList_bts]; exact unhide HF) (unhide HRR), unhide HBB⟩

set_option maxHeartbeats 2000000 in
set_option maxRecDepth 100000 in
theorem refRange_any (L : List UInt8) (f t : Nat) (w : World) (hl : L.length ≤ 140737488355328) (hf : f ≤ 18446744073709551615) (ht : t ≤ 18446744073709551615) :
    Calls Try.prog 16 #[.string (bts L), .int .u64 (f : Int), .int .u64 (t : Int)] w fun e w' => ∃ v, ∃ c : Nat, e = .returned (.tuple #[v, .int .i64 c]) ∧ DRange (bts L) f t w' v c ∧ Below w.heap.size w w' := by
  have HR0 := hide (refRead_row L w hl)
  obtain ⟨i0, hi, hz0, hz1, hz2⟩ := info_parts entInfo
  go_enter Try.func16, Try.ntmps16
  go_wp2_with fail
  refine (unhide HR0).mono ?_
  rintro e w1 (⟨c, hE, hc, rfl, hb1⟩ | ⟨v, l, x, q, hE, rfl, hrow, hb1⟩)
  · have HF := hide hE
    have HB1 := hide hb1
    clear hE hc HR0 hb1
    go_wp2
    go_loopw [11, 13, 22] (fun xl xe z wr => z = .int .i64 0 ∧ xl = .slice none 0 0 ∧ wr = w1) (fun _ _ z _ => 0)
    case atStart => exact ⟨rfl, rfl, rfl⟩
    case round =>
      obtain ⟨rfl, rfl, hwr⟩ := hrel
      rw [hwr]
      clear hwr
      go_wp2
      go_ret2
      exact ⟨_, c, rfl, drange_err (by rw [toList_bts]; exact unhide HF) _, unhide HB1⟩
  · have HF := hide hE
    have HB1 := hide hb1
    have HR := hide hrow
    obtain ⟨ad, cap, hv, hl4, hft, hrest⟩ := hrow
    subst hv
    have HFT := hide hft
    rw [List.length_map] at *
    obtain ⟨T, hT⟩ : ∃ T, T = l.length := ⟨_, rfl⟩
    rw [← hT] at HR hl4 ⊢
    have HTL := hide hT
    clear hE hb1 hrest hT HR0 hft
    go_wp2
    go_loopw [11, 13, 22] (fun xl xe z wr => ∃ k n : Nat, z = .int .i64 k ∧ k ≤ T ∧ n ≤ k ∧ Hid (n = (upB f t l k).length) ∧ Hid (wr.ownsRow w1.heap.size 41 2 xl n (flatG cellsE (upB f t l k))) ∧ Hid (Below w1.heap.size w1 wr)) (fun _ _ z _ => T - (intOf z).toNat)
    case atStart => exact ⟨0, 0, rfl, Nat.zero_le _, Nat.le_refl _, hide (by simp [upB]), hide ⟨by simp [flatG, upB], Or.inl ⟨rfl, rfl⟩⟩, hide (Below.refl _ _)⟩
    case round =>
      obtain ⟨k, n, rfl, hk, hnk, HN, HO, HB⟩ := hrel
      obtain ⟨ao, co, hu8, hco⟩ := own_sliceG (unhide HO)
      subst hu8
      by_cases hlt : k < T
      · have hlt1 : (k : Int) < (T : Int) := by omega
        have hkl : k < l.length := by have := unhide HTL; omega
        obtain ⟨b, off, cap', hv', hblt, hcell⟩ := RowG.at cellsE_len ((unhide HR).below (unhide HB)) (j := k) (by simpa using hkl)
        injection hv' with e1 e2 e3
        subst e1
        have c0 := hcell 0 (by omega)
        have c1 := hcell 1 (by omega)
        have hfit := (unhide HFT (entB l[k]) (List.mem_map_of_mem (List.getElem_mem hkl))).1
        have hzr := (unhide HB).size
        simp only [List.getElem_map, cellsE, entB, List.getElem?_cons_succ, List.getElem?_cons_zero, Nat.add_zero] at c0 c1 hfit
        by_cases hin : f ≤ (l[k]).1 ∧ (l[k]).1 ≤ t
        · have hnx := upB_in (f := f) (t := t) hkl (by unfold inB; simp [hin.1, hin.2])
          have hflat : flatG cellsE (upB f t l (k + 1)) = flatG cellsE (upB f t l k) ++ [.int .u64 ((l[k]).1 : Int), .string (bts (l[k]).2)] := by
            rw [hnx, flatG_append, flatG_one]; rfl
          have hlen : n + 1 = (upB f t l (k + 1)).length := by rw [hnx, List.length_append, ← unhide HN]; rfl
          generalize (l[k]).1 = ky at c0 hflat hfit hin
          generalize bts (l[k]).2 = D at c1 hflat
          have HNX := hide hflat
          have HLN := hide hlen
          have hin1 : (f : Int) ≤ (ky : Int) := by omega
          have hin2 : (ky : Int) ≤ (t : Int) := by omega
          have HB3 := hide ((Below.refl _ wr).alloc (Nat.le_refl _) (.cells #[.int .u64 (ky : Int), .string D] 41))
          have HOW := hide (own_below (unhide HO) ((unhide HB3).alloc (by simp) (.cells #[.int .u64 (ky : Int), .string D] 41)))
          clear hcell hnx e2 e3 hflat hlen hin
          go_wp2_with (at_builtin; refine wpList_append_own _ rfl _ _ 22 rfl w1.heap.size 41 i0 (.agg #[.int .u64 0, .string ByteArray.empty]) 2 24 Try.underlying22 hi hz0 hz1 hz2 rfl (by decide) _ _ _ rfl (unhide HOW) ⟨wr.heap.size + 1, 0, none⟩ 1 1 [.int .u64 (ky : Int), .string D] rfl rfl ?c1 ?c2 ?c3 ?c4 ?c5 ?_)
          case c1 =>
            intro j u hj
            exact new_cells _ _ _ _ (by simp) j u hj
          case c2 => intro u hu; simp at hu; rcases hu with rfl | rfl <;> rfl
          case c3 => unfold maxLen; omega
          case c4 => omega
          case c5 => simp; omega
          intro v' w4 hown' hgrow _
          have HB4 := hide (below_own ((unhide HB).trans (((unhide HB3).alloc (by simp) (.cells #[.int .u64 (ky : Int), .string D] 41)).mono hzr)) (unhide HOW) hgrow (by simp; omega))
          rw [← unhide HNX] at hown'
          have HO4 := hide hown'
          clear hown' hgrow HOW HO HB HB3
          go_wp2
          exact ⟨⟨k + 1, n + 1, by go_num, by omega, by omega, HLN, HO4, HB4⟩, by simp [intOf]; omega⟩
        · have hnx := upB_out (f := f) (t := t) hkl (by unfold inB; rw [← Bool.not_eq_true]; simpa using hin)
          have HN9 := hide (by rw [hnx]; exact unhide HN : n = (upB f t l (k + 1)).length)
          have HO9 := hide (own_below (unhide HO) ((Below.refl _ wr).alloc (Nat.le_refl _) (.cells #[.int .u64 ((l[k]).1 : Int), .string (bts (l[k]).2)] 41)))
          rw [← hnx] at HO9
          have HBA := hide ((unhide HB).alloc hzr (.cells #[.int .u64 ((l[k]).1 : Int), .string (bts (l[k]).2)] 41))
          generalize bts (l[k]).2 = D at c1 HO9 HBA
          generalize (l[k]).1 = ky at c0 hin hfit HO9 HBA
          clear hcell e2 e3 hnx HN HO HB
          by_cases hin1 : f ≤ ky
          · have h1 : (f : Int) ≤ (ky : Int) := by omega
            have h2 : ¬ (ky : Int) ≤ (t : Int) := by omega
            clear hin
            go_wp2
            exact ⟨⟨k + 1, n, by go_num, by omega, by omega, HN9, HO9, HBA⟩, by simp [intOf]; omega⟩
          · have h1 : ¬ (f : Int) ≤ (ky : Int) := by omega
            clear hin
            go_wp2
            exact ⟨⟨k + 1, n, by go_num, by omega, by omega, HN9, HO9, HBA⟩, by simp [intOf]; omega⟩
      · have hlt1 : ¬ (k : Int) < (T : Int) := by omega
        have hall : upB f t l k = (l.filter (inB f t)).map entB := by
          unfold upB
          rw [List.take_of_length_le (by have := unhide HTL; omega)]
        have hown := unhide HO
        have hn := unhide HN
        rw [hall] at hown hn
        have hrow : RowE wr (.slice ao n co) ((l.filter (inB f t)).map entB) := by
          refine rowG_of_own cellsE_len (by rw [← hn]; exact hown) (by rw [← hn]; omega) ?_
          intro x hx
          obtain ⟨e, he, rfl⟩ := List.mem_map.1 hx
          exact unhide HFT (entB e) (List.mem_map_of_mem (List.mem_filter.1 he).1)
        have HRR := hide hrow
        have HBB := hide (belows' (unhide HB1) (unhide HB))
        clear hown hrow HO HB hn hall HN
        go_wp2
        go_ret2
        exact ⟨_, 0, rfl, drange_ok (by rw [toList_bts]; exact unhide HF) (unhide HRR), unhide HBB⟩
end Go.Proofs.Ytmadjiiomjlnaaa
