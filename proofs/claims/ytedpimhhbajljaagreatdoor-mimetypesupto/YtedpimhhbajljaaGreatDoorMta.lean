/-
  What the document's small, Like, All and Find of layer 8 do, over the seat of mime.
-/
import Derived.Test.YtedpimhhbajljaaGreatDoorMsf
import Derived.Test.YtedpimhhbajljaaGreatDoorByt
set_option linter.unusedVariables false
namespace Go.Proofs.YtedpimhhbajljaaGreatDoor
open Go.RowKit Go.Proofs.Hed

set_option maxHeartbeats 1000000 in
set_option maxRecDepth 100000 in
theorem refSmall_l (L : List UInt8) (w : World) (hs : L.length ≤ 1099511627776) :
    Calls Tryz.prog 66 #[.string (bts L)] w fun e w' => e = .returned (.string (bts (L.map smB))) ∧ Below w.heap.size w w' := by
  have hsb := size_bts L
  have kc := fun (w : World) => run_bytes_of_string (P := Tryz.prog) w 9 63 5 (bts L) Tryz.underlying9 Tryz.underlying63 Tryz.underlying5
  rw [hsb] at kc
  go_enter Tryz.func66, Tryz.ntmps66
  go_upto_region 2 with (fail)
  have HB := hide (bytes_new w L (grownCap w L.length 0 5))
  have bN : Below w.heap.size w (w.alloc (.cells (bytesRow (bts L) (grownCap w L.length 0 5)) 5 ((bytesRow (bts L) (grownCap w L.length 0 5)).size, (bytesRow (bts L) (grownCap w L.length 0 5)).size + 1))).drew := ((Below.refl _ w).alloc (Nat.le_refl _) _).drew
  obtain ⟨W, hW⟩ : ∃ W, W = (w.alloc (.cells (bytesRow (bts L) (grownCap w L.length 0 5)) 5 ((bytesRow (bts L) (grownCap w L.length 0 5)).size, (bytesRow (bts L) (grownCap w L.length 0 5)).size + 1))).drew := ⟨_, rfl⟩
  rw [← hW] at HB bN ⊢
  clear hW kc
  generalize grownCap w L.length 0 5 = cap
  obtain ⟨B, hB⟩ : ∃ B, B = w.heap.size := ⟨_, rfl⟩
  rw [← hB] at HB bN ⊢
  have HBE := hide hB
  clear hB hsb
  go_wp2
  go_loopw [4, 5, 10] (fun x y z wr => ∃ k : Nat, z = .int .i64 k ∧ k ≤ L.length ∧ Bytes wr B (greF smB k L) ∧ Below B w wr) (fun _ _ z _ => L.length - (intOf z).toNat)
  case atStart => exact ⟨0, rfl, Nat.zero_le _, by simpa [greF] using unhide HB, bN⟩
  case round =>
    obtain ⟨k, rfl, hk, hby, hbw⟩ := hrel
    by_cases hlt : k < L.length
    · have hcc := hby.cell k (by rw [greF_len]; exact hlt)
      rw [greF_at smB k L hlt] at hcc
      have hfz := hby.free k (by rw [greF_len]; exact hlt)
      have hlt' : (k : Int) < (L.length : Int) := by omega
      have hc := L[k].toNat_lt
      by_cases h12 : 65 ≤ L[k].toNat ∧ L[k].toNat ≤ 90
      · have hup : ((L[k].toNat : Int) + 32) = ((smB L[k]).toNat : Int) := by
          unfold smB
          rw [if_pos h12]
          simp; omega
        have hn := hby.set k (by rw [greF_len]; exact hlt) (smB L[k])
        rw [← greF_next smB k L hlt, ← hup] at hn
        have HN := hide hn
        have HB2 := hide (hbw.setCell (p := ⟨B, k, none⟩) (Nat.le_refl _) (.int .u8 ((L[k].toNat : Int) + 32)))
        have h1 := h12.1
        have h2 := h12.2
        clear hn hup h12 hby hbw
        generalize L[k].toNat = c at hcc HN HB2 h1 h2 hc
        go_wp2
        exact ⟨⟨k + 1, by go_num, by omega, unhide HN, unhide HB2⟩, by simp [intOf]; omega⟩
      · have hup : smB L[k] = L[k] := by unfold smB; rw [if_neg h12]
        have HN := hide (show Bytes wr B (greF smB (k + 1) L) by rw [greF_same smB k L hlt hup]; exact hby)
        have HB2 := hide hbw
        clear hup hby hbw
        generalize L[k].toNat = c at hcc h12 hc
        by_cases h1 : 65 ≤ c
        · have h2 : ¬ c ≤ 90 := fun x => h12 ⟨h1, x⟩
          clear h12
          go_wp2
          exact ⟨⟨k + 1, by go_num, by omega, unhide HN, unhide HB2⟩, by simp [intOf]; omega⟩
        · clear h12
          go_wp2
          exact ⟨⟨k + 1, by go_num, by omega, unhide HN, unhide HB2⟩, by simp [intOf]; omega⟩
    · have hlt' : ¬ (k : Int) < (L.length : Int) := by omega
      rw [greF_all smB L k (by omega)] at hby
      have hcs : ∀ j (hj : j < (L.map smB).length), wr.cell? (Addr.add ⟨B, 0, none⟩ j) = some (.int .u8 ((L.map smB)[j].toNat : Int)) := by
        intro j hj
        have hadd : Addr.add ⟨B, 0, none⟩ j = ⟨B, j, none⟩ := by simp only [Addr.add, Nat.zero_add]; split <;> simp_all
        rw [hadd]
        exact hby.cell j hj
      have hcv := run_convert_bytes_back (P := Tryz.prog) wr 63 9 5 ⟨B, 0, none⟩ cap (L.map smB) Tryz.underlying63 Tryz.underlying5 Tryz.underlying9 hcs
      rw [List.length_map, show ({ data := (L.map smB).toArray } : ByteArray) = bts (L.map smB) from rfl] at hcv
      have HB2 := hide hbw
      clear hcs hby hbw
      obtain ⟨x, hx⟩ : ∃ x, x = bts (L.map smB) := ⟨_, rfl⟩
      rw [← hx] at hcv
      have HX := hide hx
      clear hx
      go_wp2
      go_ret
      exact ⟨by rw [← unhide HX]; rfl, by rw [← unhide HBE]; exact unhide HB2⟩

theorem refSmall_any (s : ByteArray) (w : World) (hs : s.size ≤ 1099511627776) :
    Calls Tryz.prog 66 #[.string s] w fun e w' => e = .returned (.string (bts (s.data.toList.map smB))) ∧ Below w.heap.size w w' := by
  have h := refSmall_l s.data.toList w (by rw [sizeL]; exact hs)
  rw [bts_toList] at h
  exact h


set_option maxHeartbeats 1000000 in
theorem refLike_any (s g : ByteArray) (w : World) (hs : s.size ≤ 1099511627776) (hg : g.size ≤ 1099511627776) :
    Calls Tryz.prog 46 #[.string s, .string g] w fun e w' => e = .returned (.bool (decide (smL s.data.toList = smL g.data.toList))) ∧ Below w.heap.size w w' := by
  have H1 := hide (refSmall_any s w hs)
  have H2 := hide (fun W => refSmall_any g W hg)
  have hd : decide (smL s.data.toList = smL g.data.toList) = decide (bts (s.data.toList.map smB) = bts (g.data.toList.map smB)) := by
    congr 1
    apply propext
    constructor
    · intro h; unfold smL at h; rw [h]
    · intro h
      have := congrArg (fun b : ByteArray => b.data.toList) h
      simpa [toList_bts, smL] using this
  rw [hd, ← beqS]
  clear hd
  generalize bts (s.data.toList.map smB) = x at H1 ⊢
  generalize bts (g.data.toList.map smB) = y at H2 ⊢
  go_enter Tryz.func46, Tryz.ntmps46
  go_wp2_with fail
  refine (unhide H1).mono ?_
  rintro e w1 ⟨rfl, b1⟩
  have HB1 := hide b1
  clear b1
  go_wp2_with fail
  refine (unhide H2 _).mono ?_
  rintro e w2 ⟨rfl, b2⟩
  have HB2 := hide (belows' (unhide HB1) b2)
  clear b2
  go_wp2
  go_ret
  exact ⟨rfl, unhide HB2⟩

set_option maxHeartbeats 1000000 in
set_option maxRecDepth 100000 in
/-- The document's All. -/
theorem refAll_any (v : Value) (l : List Fld) (nm : ByteArray) (w : World) (h : RowF w v l) (hn : nm.size ≤ 16777216) :
    Calls Tryz.prog 21 #[v, .string nm] w fun e w' => ∃ v', e = .returned v' ∧ RowS w' v' (allL nm l) ∧ Below w.heap.size w w' := by
  obtain ⟨i0, hi, hz0, hz1, hz2⟩ := info_parts strInfo
  obtain ⟨a, cap, rfl, hl, hfit, hc⟩ := h
  have HC := hide hc
  have HF := hide hfit
  clear hc hfit
  go_enter Tryz.func21, Tryz.ntmps21
  go_wp2
  go_loopw [5, 10] (fun x z wr => ∃ (k : Nat) (acc : List ByteArray), z = .int .i64 k ∧ k ≤ l.length ∧ acc.length ≤ k ∧ Hid (acc = allL nm (l.take k)) ∧ Hid (wr.ownsRow w.heap.size 9 1 x acc.length (cellsS acc)) ∧ Hid (Below w.heap.size w wr)) (fun _ z _ => l.length - (intOf z).toNat)
  case atStart => exact ⟨0, [], rfl, Nat.zero_le _, Nat.le_refl _, hide (by simp [allL]), hide ⟨rfl, Or.inl ⟨rfl, rfl⟩⟩, hide (Below.refl _ _)⟩
  case round =>
    obtain ⟨k, acc, rfl, hk, hacc, HE, HO, HB⟩ := hrel
    by_cases hlt : k < l.length
    · have hlt1 : (k : Int) < (l.length : Int) := by omega
      have hx : ∃ b off, a = some ⟨b, off, none⟩ ∧ b < w.heap.size ∧ wr.cell? ⟨b, off + k * 2, none⟩ = some (.string l[k].1) ∧ wr.cell? ⟨b, off + k * 2 + 1, none⟩ = some (.string l[k].2) := by
        rcases unhide HC with h | ⟨b, off, ha, hb, hcj⟩
        · subst h; simp at hlt
        · obtain ⟨c0, c1⟩ := row_cells hcj hlt
          exact ⟨b, off, ha, hb, ((unhide HB).cell (p := ⟨b, off + k * 2, none⟩) hb).trans c0, ((unhide HB).cell (p := ⟨b, off + k * 2 + 1, none⟩) hb).trans c1⟩
      obtain ⟨b, off, rfl, hb, c0, c1⟩ := hx
      have hzr := (unhide HB).size
      have hf := unhide HF l[k] (List.getElem_mem hlt)
      have he : allL nm (l.take (k + 1)) = allL nm (l.take k) ++ (if called nm l[k] then [l[k].2] else []) := by
        unfold allL
        rw [List.take_succ_eq_append_getElem hlt, List.filter_append, List.map_append]
        cases h : called nm l[k] <;> simp [h]
      have HLK : Hid (∀ W, Calls Tryz.prog 46 #[.string l[k].1, .string nm] W fun e w' => e = .returned (.bool (called nm l[k])) ∧ Below W.heap.size W w') := hide (fun W => refLike_any l[k].1 nm W (by have := hf.1; omega) (by omega))
      have HBX := hide (Blk.new wr 40 #[.string l[k].1, .string l[k].2])
      have HBA := hide ((unhide HB).alloc hzr (.cells #[.string l[k].1, .string l[k].2] 40))
      have HOA := hide ((unhide HO).alloc (.cells #[.string l[k].1, .string l[k].2] 40))
      rw [← unhide HE] at he
      cases hm : called nm l[k] with
      | true =>
        rw [hm] at he HLK
        simp only [if_true] at he
        have HFN := hide he
        generalize l[k].1 = x at c0 HLK HBA HOA HBX
        generalize l[k].2 = y at c1 HBA HFN HOA HBX
        clear he hm hf HE
        go_wp2_with fail
        refine (unhide HLK _).mono ?_
        rintro e w3 ⟨rfl, b3⟩
        have hb3 : Below w.heap.size w w3 := (unhide HBA).trans (b3.mono (by simp; omega))
        have hown := own_keep (w := World.alloc wr (.cells #[.string x, .string y] 40)) (unhide HOA) b3
        have d1 : w3.cell? ⟨wr.heap.size, 1, none⟩ = some (.string y) := (Blk.cell ((unhide HBX).below b3) 1).trans rfl
        have hz3 := hb3.size
        have HB3 := hide hb3
        clear b3 hb3
        go_wp2_with (at_builtin; refine wpList_append_own _ rfl _ _ 43 rfl w.heap.size 9 i0 (.string ByteArray.empty) 1 16 Tryz.underlying43 hi hz0 hz1 hz2 rfl (by decide) _ _ _ rfl (hown.alloc _) ⟨w3.heap.size, 0, none⟩ 1 1 [.string y] rfl rfl (one_str _ _ _) (by intro u hu; simp at hu; subst hu; rfl) (by unfold maxLen; omega) (by omega) (by simp; omega) ?_)
        intro v' w4 hown4 hgrow _
        rw [cellsS_snoc] at hown4
        have HB4 := hide (own_up hown hgrow (unhide HB3) hz3)
        have HO4 := hide hown4
        clear hgrow hown4 hown
        go_wp2
        exact ⟨⟨k + 1, acc ++ [y], by go_num, by omega, by simp; omega, by rw [unhide HFN]; exact hide rfl, by simpa using HO4, HB4⟩, by simp [intOf]; omega⟩
      | false =>
        rw [hm] at he HLK
        simp only [Bool.false_eq_true, if_false, List.append_nil] at he
        have HFN := hide he
        generalize l[k].1 = x at c0 HLK HBA HOA
        generalize l[k].2 = y at c1 HBA HOA
        clear he hm hf HE HBX
        go_wp2_with fail
        refine (unhide HLK _).mono ?_
        rintro e w2 ⟨rfl, b2⟩
        have HB2 := hide ((unhide HBA).trans (b2.mono (by simp; omega)))
        have HO2 := hide (own_keep (w := World.alloc wr (.cells #[.string x, .string y] 40)) (unhide HOA) b2)
        clear b2
        go_wp2
        exact ⟨⟨k + 1, acc, by go_num, by omega, by omega, by rw [unhide HFN]; exact hide rfl, HO2, HB2⟩, by simp [intOf]; omega⟩
    · have hlt1 : ¬ (k : Int) < (l.length : Int) := by omega
      have he := unhide HE
      rw [List.take_of_length_le (by omega)] at he
      have HFN := hide he
      have hrow := rowS_of_own (unhide HO) (by omega) (by
        intro s hs
        rw [he] at hs
        unfold allL at hs
        rw [List.mem_map] at hs
        obtain ⟨f, hf, rfl⟩ := hs
        have := (unhide HF f (List.mem_filter.mp hf).1).2
        omega)
      have HR := hide hrow
      clear he HE hrow
      go_wp2
      go_ret
      exact ⟨_, rfl, by rw [← unhide HFN]; exact unhide HR, unhide HB⟩

theorem find_all (nm : ByteArray) : ∀ l : List Fld, findV nm l = match allL nm l with | [] => .tuple #[.string ⟨#[]⟩, .int .i64 3] | s :: _ => .tuple #[.string s, .int .i64 0]
  | [] => rfl
  | f :: r => by
    have ih := find_all nm r
    unfold findV allL
    cases h : called nm f
    · simp only [Bool.false_eq_true, if_false, List.filter_cons, h]
      exact ih
    · simp [h]

set_option maxHeartbeats 1000000 in
theorem refFind_any (v : Value) (l : List Fld) (nm : ByteArray) (w : World) (h : RowF w v l) (hn : nm.size ≤ 16777216) :
    Calls Tryz.prog 7 #[v, .string nm] w fun e w' => e = .returned (findV nm l) ∧ Below w.heap.size w w' := by
  have HA := hide (refAll_any v l nm w h hn)
  obtain ⟨ad, cap, hv, _⟩ := h
  subst hv
  go_enter Tryz.func7, Tryz.ntmps7
  go_wp2_with fail
  refine (unhide HA).mono ?_
  clear HA
  rintro e w1 ⟨va, rfl, hra, hb⟩
  have HB := hide hb
  clear hb
  cases hal : allL nm l with
  | nil =>
    rw [hal] at hra
    obtain ⟨aa, ca, hva, _⟩ := hra
    subst hva
    have HAL := hide hal
    clear hal
    go_wp2
    go_ret2
    exact ⟨by rw [find_all, unhide HAL]; rfl, unhide HB⟩
  | cons s r =>
    rw [hal] at hra
    obtain ⟨aa, ca, hva, h63, _, hc⟩ := hra
    rcases hc with hc | ⟨b, off, rfl, hb, hc⟩
    · cases hc
    subst hva
    have c0 := hc 0 (by simp)
    simp only [Nat.add_zero, List.getElem_cons_zero] at c0
    have hp : (0 : Int) < ((s :: r).length : Int) := by simp
    generalize (s :: r).length = n at hp
    have hn0 : ((n : Int) == 0) = false := by rw [beq_eq_false_iff_ne]; omega
    have HAL := hide hal
    clear hc hal h63
    go_wp2
    go_ret2
    exact ⟨by rw [find_all, unhide HAL]; rfl, unhide HB⟩
end Go.Proofs.YtedpimhhbajljaaGreatDoor
