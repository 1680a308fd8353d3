/-
  The walk of missivelaw10.DateBack, over this seat's program.
-/
import Derived.Test.YtegkcjbbnfnljaaDoorDbm
import Derived.Test.YtegkcjbbnfnljaaDoorByt
import Derived.Test.YtegkcjbbnfnljaaDoorWtx
set_option linter.unusedVariables false
namespace Go.Proofs.YtegkcjbbnfnljaaDoor
open Go.RowKit Go.Proofs.Dcl

set_option maxHeartbeats 4000000 in
set_option maxRecDepth 100000 in
theorem dateBack_walk (y m d n : Int) (w : World) (ht : LTab w) :
    Calls Tryd.prog 6 #[.int .i64 y, .int .i64 m, .int .i64 d, .int .i64 n] w fun e w' => e = .returned (.bool true) ∧ Below w.heap.size w w' := by
  have HT := hide ht
  have HDS := hide (days_any w ht)
  clear ht
  go_enter Tryd.func6, Tryd.ntmps6
  go_wp2_with fail
  refine (unhide HDS).mono ?_
  clear HDS
  rintro e W1 ⟨rfl, hb1⟩
  have HTX := hide (texts_any W1 ((unhide HT).below hb1))
  have HB1 := hide hb1
  clear hb1
  go_wp2_with fail
  refine (unhide HTX).mono ?_
  clear HTX
  rintro e W2 ⟨rfl, hb⟩
  have HB2 := hide (belowsD (unhide HB1) hb)
  clear hb HB1
  have HDA := hide (day_any y m d W2 ((unhide HT).below (unhide HB2)))
  cases hv : vldB y m d
  · rw [dayV_f hv] at HDA
    clear hv
    go_wp2_with fail
    refine (unhide HDA).mono ?_
    clear HDA
    rintro e W2 ⟨rfl, rfl⟩
    have HCI := hide (civil_any n W2 ((unhide HT).below (unhide HB2)))
    go_wp2_with fail
    refine (unhide HCI).mono ?_
    clear HCI
    rintro e W4 ⟨v, rfl, hc, hb⟩
    have HBB := hide (belowsD (unhide HB2) hb)
    have HTB := hide ((unhide HT).below (unhide HBB))
    clear hb HB2
    cases hd : dayB n
    · obtain rfl := hc.no hd
      have HWN := hide (write_no n W4 hd)
      simp only [bts] at HWN
      clear hc hd
      go_wp2_with fail
      refine (unhide HWN).mono ?_
      clear HWN
      rintro e W4 ⟨rfl, rfl⟩
      go_wp2
      go_ret
      exact ⟨by simp, unhide HBB⟩
    obtain ⟨y2, m2, d2, hv2, hn2⟩ := day_exists hd
    obtain rfl := civ_known hc hv2 hn2
    have hlen := dayT_len y2 m2 d2 (by have := vld_iff.1 hv2; omega) (by have := vld_iff.1 hv2; omega)
    have HWR := hide (fun W (h : LTab W) => write_yes y2 m2 d2 n W h hv2 hn2)
    clear hc hd
    have HDAY := hide (fun W (h : LTab W) => day_any (y2 : Int) (m2 : Int) (d2 : Int) W h)
    rw [dayV_t hv2, hn2] at HDAY
    have HPA := hide (fun W (h : LTab W) => parse_any (bts (dayT y2 m2 d2)) W h (by rw [size_bts, hlen]; split <;> decide))
    rw [toList_bts, parse_day y2 m2 d2 hv2, hn2] at HPA
    simp only [numV] at HPA
    have HMA := hide (fun W (h : LTab W) => mail_any ([120, 44, 32] ++ (dayT y2 m2 d2).map dsh ++ [32, 49, 58, 50]) W h (by simp only [List.length_append, List.length_map, hlen, List.length_cons, List.length_nil]; split <;> decide) (ix_all _ (day_ascii y2 m2 d2 hv2) (by simp only [List.length_append, List.length_map, hlen, List.length_cons, List.length_nil]; split <;> decide)))
    rw [mail_day y2 m2 d2 hv2, hn2] at HMA
    simp only [numV] at HMA
    have hl11 : (dayT y2 m2 d2).length ≤ 11 := by rw [hlen]; split <;> omega
    clear hv2 hn2 hlen
    generalize dayT y2 m2 d2 = D at HWR HPA HMA hl11
    go_wp2_with fail
    refine (unhide HWR _ (unhide HTB)).mono ?_
    clear HWR HTB
    rintro e W6 ⟨rfl, hb⟩
    have HB6 := hide (belowsD (unhide HBB) hb)
    have HT6 := hide ((unhide HT).below (unhide HB6))
    clear hb HBB
    go_wp2_with fail
    refine (unhide HDAY _ (unhide HT6)).mono ?_
    clear HDAY
    rintro e W6 ⟨rfl, rfl⟩
    go_wp2_with fail
    refine (unhide HPA _ (unhide HT6)).mono ?_
    clear HPA HT6
    rintro e W7 ⟨rfl, hb⟩
    have HB7 := hide (belowsD (unhide HB6) hb)
    clear hb HB6
    have hsb := size_bts D
    have kc := fun (w : World) => run_bytes_of_string (P := Tryd.prog) w 9 40 5 (bts D) Tryd.underlying9 Tryd.underlying40 Tryd.underlying5
    rw [hsb] at kc
    go_upto_region 16 with (fail)
    have HBY := hide (bytes_new W7 D (grownCap W7 D.length 0 5))
    have bN : Below W7.heap.size W7 (W7.alloc (.cells (bytesRow (bts D) (grownCap W7 D.length 0 5)) 5 ((bytesRow (bts D) (grownCap W7 D.length 0 5)).size, (bytesRow (bts D) (grownCap W7 D.length 0 5)).size + 1))).drew := ((Below.refl _ W7).alloc (Nat.le_refl _) _).drew
    obtain ⟨W, hW⟩ : ∃ W, W = (W7.alloc (.cells (bytesRow (bts D) (grownCap W7 D.length 0 5)) 5 ((bytesRow (bts D) (grownCap W7 D.length 0 5)).size, (bytesRow (bts D) (grownCap W7 D.length 0 5)).size + 1))).drew := ⟨_, rfl⟩
    rw [← hW] at HBY bN ⊢
    clear hW kc
    generalize grownCap W7 D.length 0 5 = cap
    obtain ⟨B, hB⟩ : ∃ B, B = W7.heap.size := ⟨_, rfl⟩
    rw [← hB] at HBY bN ⊢
    have HBE := hide hB
    have HBN := hide bN
    clear hB hsb bN
    go_wp2
    go_loopw [26, 104] (fun x z wr => ∃ k : Nat, z = .int .i64 k ∧ k ≤ D.length ∧ Bytes wr B (greF dsh k D) ∧ Below B W7 wr) (fun _ z _ => D.length - (intOf z).toNat)
    case atStart => exact ⟨0, rfl, Nat.zero_le _, by simpa [greF] using unhide HBY, unhide HBN⟩
    case round =>
      obtain ⟨k, rfl, hk, hby, hbw⟩ := hrel
      by_cases hlt : k < D.length
      · have hcc := hby.cell k (by rw [greF_len]; exact hlt)
        rw [greF_at dsh k D hlt] at hcc
        have hfz := hby.free k (by rw [greF_len]; exact hlt)
        have hlt' : (k : Int) < (D.length : Int) := by omega
        by_cases h45 : D[k] = 45
        · have hn := hby.set k (by rw [greF_len]; exact hlt) (dsh D[k])
          rw [← greF_next dsh k D hlt, h45, show ((dsh 45).toNat : Int) = 32 from rfl] at hn
          have HN := hide hn
          have HB2 := hide (hbw.setCell (p := ⟨B, k, none⟩) (Nat.le_refl _) (.int .u8 32))
          rw [h45, show (((45 : UInt8).toNat : Nat) : Int) = 45 from rfl] at hcc
          clear hn h45 hby hbw
          go_wp2
          exact ⟨⟨k + 1, by go_num, by omega, unhide HN, unhide HB2⟩, by simp [intOf]; omega⟩
        · have hup : dsh D[k] = D[k] := by unfold dsh; rw [if_neg h45]
          have HN := hide (show Bytes wr B (greF dsh (k + 1) D) by rw [greF_same dsh k D hlt hup]; exact hby)
          have HB2 := hide hbw
          have hne : ((D[k].toNat : Int) == 45) = false := by
            rw [beq_eq_false_iff_ne]
            intro e
            apply h45
            apply UInt8.toNat_inj.1
            have : (45 : UInt8).toNat = 45 := rfl
            omega
          clear hup hby hbw h45
          go_wp2
          exact ⟨⟨k + 1, by go_num, by omega, unhide HN, unhide HB2⟩, by simp [intOf]; omega⟩
      · have hlt' : ¬ (k : Int) < (D.length : Int) := by omega
        rw [greF_all dsh D k (by omega)] at hby
        have hcs : ∀ j (hj : j < (D.map dsh).length), wr.cell? (Addr.add ⟨B, 0, none⟩ j) = some (.int .u8 ((D.map dsh)[j].toNat : Int)) := by
          intro j hj
          have hadd : Addr.add ⟨B, 0, none⟩ j = ⟨B, j, none⟩ := by simp only [Addr.add, Nat.zero_add]; split <;> simp_all
          rw [hadd]
          exact hby.cell j hj
        have hcv := run_convert_bytes_back (P := Tryd.prog) wr 40 9 5 ⟨B, 0, none⟩ cap (D.map dsh) Tryd.underlying40 Tryd.underlying5 Tryd.underlying9 hcs
        rw [List.length_map, show ({ data := (D.map dsh).toArray } : ByteArray) = bts (D.map dsh) from rfl] at hcv
        have HBW := hide (belowsD (unhide HB7) (by rw [← unhide HBE]; exact hbw))
        have hxl : (bts (D.map dsh)).size = D.length := by rw [size_bts, List.length_map]
        clear hcs hby hbw
        obtain ⟨x, hx⟩ : ∃ x, x = bts (D.map dsh) := ⟨_, rfl⟩
        rw [← hx] at hcv hxl
        have HX := hide hx
        have HM2 := hide (unhide HMA wr ((unhide HT).below (unhide HBW)))
        have hcat : bts ([120, 44, 32] ++ D.map dsh ++ [32, 49, 58, 50]) = (⟨#[120, 44, 32]⟩ ++ x ++ ⟨#[32, 49, 58, 50]⟩ : ByteArray) := by
          rw [hx]
          apply ext_list
          rw [toList_bts]
          simp [bts]
        rw [hcat] at HM2
        clear hcat
        clear hx HMA
        go_wp2_with fail
        refine (unhide HM2).mono ?_
        clear HM2
        rintro e W9 ⟨rfl, hb⟩
        have HB9 := hide (belowsD (unhide HBW) hb)
        clear hb HBW
        go_wp2
        go_ret
        exact ⟨by simp, unhide HB9⟩

  · rw [dayV_t hv] at HDA
    have HCK := hide (fun W (h : LTab W) => civil_any (num y m d) W h)
    have HV := hide hv
    clear hv
    go_wp2_with fail
    refine (unhide HDA).mono ?_
    clear HDA
    rintro e W2 ⟨rfl, rfl⟩
    go_wp2_with fail
    refine (unhide HCK _ ((unhide HT).below (unhide HB2))).mono ?_
    clear HCK
    rintro e W3 ⟨v, rfl, hc, hb⟩
    obtain rfl := civ_known hc (unhide HV) rfl
    have HB3 := hide (belowsD (unhide HB2) hb)
    clear hb HB2 hc HV
    have HCI := hide (civil_any n W3 ((unhide HT).below (unhide HB3)))
    go_wp2_with fail
    refine (unhide HCI).mono ?_
    clear HCI
    rintro e W4 ⟨v, rfl, hc, hb⟩
    have HBB := hide (belowsD (unhide HB3) hb)
    have HTB := hide ((unhide HT).below (unhide HBB))
    clear hb HB3
    cases hd : dayB n
    · obtain rfl := hc.no hd
      have HWN := hide (write_no n W4 hd)
      simp only [bts] at HWN
      clear hc hd
      go_wp2_with fail
      refine (unhide HWN).mono ?_
      clear HWN
      rintro e W4 ⟨rfl, rfl⟩
      go_wp2
      go_ret
      exact ⟨by simp, unhide HBB⟩
    obtain ⟨y2, m2, d2, hv2, hn2⟩ := day_exists hd
    obtain rfl := civ_known hc hv2 hn2
    have hlen := dayT_len y2 m2 d2 (by have := vld_iff.1 hv2; omega) (by have := vld_iff.1 hv2; omega)
    have HWR := hide (fun W (h : LTab W) => write_yes y2 m2 d2 n W h hv2 hn2)
    clear hc hd
    have HDAY := hide (fun W (h : LTab W) => day_any (y2 : Int) (m2 : Int) (d2 : Int) W h)
    rw [dayV_t hv2, hn2] at HDAY
    have HPA := hide (fun W (h : LTab W) => parse_any (bts (dayT y2 m2 d2)) W h (by rw [size_bts, hlen]; split <;> decide))
    rw [toList_bts, parse_day y2 m2 d2 hv2, hn2] at HPA
    simp only [numV] at HPA
    have HMA := hide (fun W (h : LTab W) => mail_any ([120, 44, 32] ++ (dayT y2 m2 d2).map dsh ++ [32, 49, 58, 50]) W h (by simp only [List.length_append, List.length_map, hlen, List.length_cons, List.length_nil]; split <;> decide) (ix_all _ (day_ascii y2 m2 d2 hv2) (by simp only [List.length_append, List.length_map, hlen, List.length_cons, List.length_nil]; split <;> decide)))
    rw [mail_day y2 m2 d2 hv2, hn2] at HMA
    simp only [numV] at HMA
    have hl11 : (dayT y2 m2 d2).length ≤ 11 := by rw [hlen]; split <;> omega
    clear hv2 hn2 hlen
    generalize dayT y2 m2 d2 = D at HWR HPA HMA hl11
    go_wp2_with fail
    refine (unhide HWR _ (unhide HTB)).mono ?_
    clear HWR HTB
    rintro e W6 ⟨rfl, hb⟩
    have HB6 := hide (belowsD (unhide HBB) hb)
    have HT6 := hide ((unhide HT).below (unhide HB6))
    clear hb HBB
    go_wp2_with fail
    refine (unhide HDAY _ (unhide HT6)).mono ?_
    clear HDAY
    rintro e W6 ⟨rfl, rfl⟩
    go_wp2_with fail
    refine (unhide HPA _ (unhide HT6)).mono ?_
    clear HPA HT6
    rintro e W7 ⟨rfl, hb⟩
    have HB7 := hide (belowsD (unhide HB6) hb)
    clear hb HB6
    have hsb := size_bts D
    have kc := fun (w : World) => run_bytes_of_string (P := Tryd.prog) w 9 40 5 (bts D) Tryd.underlying9 Tryd.underlying40 Tryd.underlying5
    rw [hsb] at kc
    go_upto_region 16 with (fail)
    have HBY := hide (bytes_new W7 D (grownCap W7 D.length 0 5))
    have bN : Below W7.heap.size W7 (W7.alloc (.cells (bytesRow (bts D) (grownCap W7 D.length 0 5)) 5 ((bytesRow (bts D) (grownCap W7 D.length 0 5)).size, (bytesRow (bts D) (grownCap W7 D.length 0 5)).size + 1))).drew := ((Below.refl _ W7).alloc (Nat.le_refl _) _).drew
    obtain ⟨W, hW⟩ : ∃ W, W = (W7.alloc (.cells (bytesRow (bts D) (grownCap W7 D.length 0 5)) 5 ((bytesRow (bts D) (grownCap W7 D.length 0 5)).size, (bytesRow (bts D) (grownCap W7 D.length 0 5)).size + 1))).drew := ⟨_, rfl⟩
    rw [← hW] at HBY bN ⊢
    clear hW kc
    generalize grownCap W7 D.length 0 5 = cap
    obtain ⟨B, hB⟩ : ∃ B, B = W7.heap.size := ⟨_, rfl⟩
    rw [← hB] at HBY bN ⊢
    have HBE := hide hB
    have HBN := hide bN
    clear hB hsb bN
    go_wp2
    go_loopw [26, 104] (fun x z wr => ∃ k : Nat, z = .int .i64 k ∧ k ≤ D.length ∧ Bytes wr B (greF dsh k D) ∧ Below B W7 wr) (fun _ z _ => D.length - (intOf z).toNat)
    case atStart => exact ⟨0, rfl, Nat.zero_le _, by simpa [greF] using unhide HBY, unhide HBN⟩
    case round =>
      obtain ⟨k, rfl, hk, hby, hbw⟩ := hrel
      by_cases hlt : k < D.length
      · have hcc := hby.cell k (by rw [greF_len]; exact hlt)
        rw [greF_at dsh k D hlt] at hcc
        have hfz := hby.free k (by rw [greF_len]; exact hlt)
        have hlt' : (k : Int) < (D.length : Int) := by omega
        by_cases h45 : D[k] = 45
        · have hn := hby.set k (by rw [greF_len]; exact hlt) (dsh D[k])
          rw [← greF_next dsh k D hlt, h45, show ((dsh 45).toNat : Int) = 32 from rfl] at hn
          have HN := hide hn
          have HB2 := hide (hbw.setCell (p := ⟨B, k, none⟩) (Nat.le_refl _) (.int .u8 32))
          rw [h45, show (((45 : UInt8).toNat : Nat) : Int) = 45 from rfl] at hcc
          clear hn h45 hby hbw
          go_wp2
          exact ⟨⟨k + 1, by go_num, by omega, unhide HN, unhide HB2⟩, by simp [intOf]; omega⟩
        · have hup : dsh D[k] = D[k] := by unfold dsh; rw [if_neg h45]
          have HN := hide (show Bytes wr B (greF dsh (k + 1) D) by rw [greF_same dsh k D hlt hup]; exact hby)
          have HB2 := hide hbw
          have hne : ((D[k].toNat : Int) == 45) = false := by
            rw [beq_eq_false_iff_ne]
            intro e
            apply h45
            apply UInt8.toNat_inj.1
            have : (45 : UInt8).toNat = 45 := rfl
            omega
          clear hup hby hbw h45
          go_wp2
          exact ⟨⟨k + 1, by go_num, by omega, unhide HN, unhide HB2⟩, by simp [intOf]; omega⟩
      · have hlt' : ¬ (k : Int) < (D.length : Int) := by omega
        rw [greF_all dsh D k (by omega)] at hby
        have hcs : ∀ j (hj : j < (D.map dsh).length), wr.cell? (Addr.add ⟨B, 0, none⟩ j) = some (.int .u8 ((D.map dsh)[j].toNat : Int)) := by
          intro j hj
          have hadd : Addr.add ⟨B, 0, none⟩ j = ⟨B, j, none⟩ := by simp only [Addr.add, Nat.zero_add]; split <;> simp_all
          rw [hadd]
          exact hby.cell j hj
        have hcv := run_convert_bytes_back (P := Tryd.prog) wr 40 9 5 ⟨B, 0, none⟩ cap (D.map dsh) Tryd.underlying40 Tryd.underlying5 Tryd.underlying9 hcs
        rw [List.length_map, show ({ data := (D.map dsh).toArray } : ByteArray) = bts (D.map dsh) from rfl] at hcv
        have HBW := hide (belowsD (unhide HB7) (by rw [← unhide HBE]; exact hbw))
        have hxl : (bts (D.map dsh)).size = D.length := by rw [size_bts, List.length_map]
        clear hcs hby hbw
        obtain ⟨x, hx⟩ : ∃ x, x = bts (D.map dsh) := ⟨_, rfl⟩
        rw [← hx] at hcv hxl
        have HX := hide hx
        have HM2 := hide (unhide HMA wr ((unhide HT).below (unhide HBW)))
        have hcat : bts ([120, 44, 32] ++ D.map dsh ++ [32, 49, 58, 50]) = (⟨#[120, 44, 32]⟩ ++ x ++ ⟨#[32, 49, 58, 50]⟩ : ByteArray) := by
          rw [hx]
          apply ext_list
          rw [toList_bts]
          simp [bts]
        rw [hcat] at HM2
        clear hcat
        clear hx HMA
        go_wp2_with fail
        refine (unhide HM2).mono ?_
        clear HM2
        rintro e W9 ⟨rfl, hb⟩
        have HB9 := hide (belowsD (unhide HBW) hb)
        clear hb HBW
        go_wp2
        go_ret
        exact ⟨by simp, unhide HB9⟩


end Go.Proofs.YtegkcjbbnfnljaaDoor
