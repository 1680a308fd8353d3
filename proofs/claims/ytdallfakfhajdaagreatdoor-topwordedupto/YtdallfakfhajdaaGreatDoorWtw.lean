/-
  What missivetop.TopWorded does, over this seat's program: it answers true.
-/
import Derived.Test.YtdallfakfhajdaaGreatDoorBnd3
import Derived.Test.YtdallfakfhajdaaGreatDoorLtq
import Derived.Test.YtdallfakfhajdaaGreatDoorBnd7
import Derived.Test.YtdallfakfhajdaaGreatDoorBnd13
import Derived.Test.YtdallfakfhajdaaGreatDoorByt
import Derived.Test.YtdallfakfhajdaaGreatDoorBnd14
set_option linter.unusedVariables false
namespace Go.Proofs.YtdallfakfhajdaaGreatDoor
open Go.RowKit Go.Proofs.Enc Go.Proofs.Rns Go.Proofs.Dcl Go.Proofs.Hed

theorem wordT_last (base : Bool) (t : List UInt8) : (wordT base t).getLast? = some 61 := by rw [wordT_eq]; simp [List.getLast?_append, List.getLast?_cons]
theorem wordT_head (base : Bool) (t r : List UInt8) : (wordT base t ++ r).head? = some 61 := by rw [wordT_eq]; simp
theorem jw_last (base : Bool) : ∀ (sp : Bool) (ts : List (List UInt8)), ts ≠ [] → (jw base sp ts).getLast? = some 61
  | sp, [], h => absurd rfl h
  | sp, t :: r, _ => by
    rw [jw]
    cases r with
    | nil => simp [jw, List.getLast?_append, wordT_last]
    | cons a b =>
      have := jw_last base true (a :: b) (by simp)
      rw [List.getLast?_append, List.getLast?_append, this]
      simp
theorem jw_vl (base : Bool) (ts : List (List UInt8)) : isVl (jw base false ts) = true := by
  have h1 := jw_pl base false ts
  have hall : (jw base false ts).all (fun c => c != 10 && c != 13) = true := List.all_eq_true.2 fun c hc => by
    have h2 := h1 c hc
    have e1 : c ≠ 10 := fun e => by rw [e] at h2; revert h2; decide
    have e2 : c ≠ 13 := fun e => by rw [e] at h2; revert h2; decide
    simp [e1, e2]
  cases ts with
  | nil => rfl
  | cons t r =>
    have hl := jw_last base false (t :: r) (by simp)
    have hh : (jw base false (t :: r)).head? = some 61 := by simp only [jw]; exact wordT_head base t _
    unfold isVl
    rw [hall, hl]
    cases hj : jw base false (t :: r) with
    | nil => rw [hj] at hh; cases hh
    | cons a b =>
      rw [hj] at hh
      obtain rfl := Option.some.inj hh
      show ((true && !isB 61) && !isB 61) = true
      decide
def dvL (D : List UInt8) : List UInt8 := ([120, 44, 32] ++ D).map dsh
theorem dvL_eq (D : List UInt8) : dvL D = [120, 44, 32] ++ D.map dsh := by
  unfold dvL
  rw [List.map_append]
  rfl
theorem dv_vl (y m d : Nat) (hv : vldB y m d = true) : isVl (dvL (dayT y m d)) = true := by
  rw [dvL_eq]
  have ha := day_ascii2 y m d hv
  obtain ⟨y1, y2, m1, m2, d1, d2⟩ := vld_iff.1 hv
  have d3 := dim_le y m
  have hm : m - 1 < 12 := by omega
  obtain ⟨_, hnb, hna⟩ := name_map (m - 1) hm
  have hdgr : ∀ n, n < 10 → 48 ≤ (dg n).toNat := fun n h => by rw [dg_nat n h]; omega
  have htwr : ∀ n, n < 100 → ∀ c ∈ twoL n, 48 ≤ c.toNat := by
    intro n hn c hc
    simp only [twoL, List.mem_cons, List.not_mem_nil, or_false] at hc
    rcases hc with rfl | rfl
    · exact hdgr _ (by omega)
    · exact hdgr _ (by omega)
  have hnm : ∀ k, k < 12 → ∀ c ∈ nmL k, 48 ≤ c.toNat := by
    intro k hk
    have : k = 0 ∨ k = 1 ∨ k = 2 ∨ k = 3 ∨ k = 4 ∨ k = 5 ∨ k = 6 ∨ k = 7 ∨ k = 8 ∨ k = 9 ∨ k = 10 ∨ k = 11 := by omega
    rcases this with rfl | rfl | rfl | rfl | rfl | rfl | rfl | rfl | rfl | rfl | rfl | rfl <;> decide +kernel
  rw [day_map y m d hv]
  have hall : ([120, 44, 32] ++ ((if 10 ≤ d then twoL d else [dg d]) ++ 32 :: (nmL (m - 1) ++ 32 :: (twoL (y / 100) ++ twoL (y % 100))))).all (fun c => c != 10 && c != 13) = true := List.all_eq_true.2 fun c hc => by
    have h48 : 32 ≤ c.toNat := by
      simp only [List.mem_append, List.mem_cons, List.not_mem_nil, or_false] at hc
      rcases hc with (rfl | rfl | rfl) | h | rfl | h | rfl | h | h <;> first | decide | skip
      · split at h
        · have := htwr d (by omega) c h; omega
        · simp only [List.mem_cons, List.not_mem_nil, or_false] at h
          subst h
          have := hdgr d (by omega); omega
      · have := hnm _ hm c h; omega
      · have := htwr _ (by omega) c h; omega
      · have := htwr _ (by omega) c h; omega
    have e1 : c ≠ 10 := fun e => by rw [e] at h48; revert h48; decide
    have e2 : c ≠ 13 := fun e => by rw [e] at h48; revert h48; decide
    simp [e1, e2]
  have hlast : ([120, 44, 32] ++ ((if 10 ≤ d then twoL d else [dg d]) ++ 32 :: (nmL (m - 1) ++ 32 :: (twoL (y / 100) ++ twoL (y % 100))))).getLast? = some (dg (y % 100 % 10)) := by
    simp [List.getLast?_append, List.getLast?_cons, twoL]
  unfold isVl
  rw [hall, hlast]
  have h1 := dg_bl (y % 100 % 10) (by omega)
  unfold blB at h1
  have h2 : isB (dg (y % 100 % 10)) = false := by
    unfold isB
    simpa using h1
  simp only [List.cons_append, h2]
  decide
def subjB : ByteArray := ⟨#[83, 117, 98, 106, 101, 99, 116]⟩
def dateB : ByteArray := ⟨#[68, 97, 116, 101]⟩
theorem called_ss (s : ByteArray) : called ⟨#[115, 117, 98, 106, 101, 99, 116]⟩ (subjB, s) = true := show decide (smL subjB.data.toList = smL (⟨#[115, 117, 98, 106, 101, 99, 116]⟩ : ByteArray).data.toList) = true by decide
theorem called_ds (s : ByteArray) : called ⟨#[100, 97, 116, 101]⟩ (subjB, s) = false := show decide (smL subjB.data.toList = smL (⟨#[100, 97, 116, 101]⟩ : ByteArray).data.toList) = false by decide
theorem called_dd (s : ByteArray) : called ⟨#[100, 97, 116, 101]⟩ (dateB, s) = true := show decide (smL dateB.data.toList = smL (⟨#[100, 97, 116, 101]⟩ : ByteArray).data.toList) = true by decide
theorem find_subj (s x : ByteArray) : findV ⟨#[115, 117, 98, 106, 101, 99, 116]⟩ [(subjB, s), (dateB, x)] = .tuple #[.string s, .int .i64 0] := by
  unfold findV
  rw [if_pos (called_ss s)]
theorem find_date (s x : ByteArray) : findV ⟨#[100, 97, 116, 101]⟩ [(subjB, s), (dateB, x)] = .tuple #[.string x, .int .i64 0] := by
  unfold findV
  rw [if_neg (by rw [called_ds]; simp)]
  unfold findV
  rw [if_pos (called_dd x)]

set_option maxHeartbeats 4000000 in
set_option maxRecDepth 100000 in
theorem topWorded_walk (a : Option Addr) (cap : Nat) (l : List Int) (base : Bool) (day : Int) (w : World) (ht : TabW w) (hlt : LTab w) (hv : RowI w (.slice a l.length cap) l) (hc : l.length ≤ cap) (hl : l.length ≤ 1048576) :
    Calls Tryz.prog 8 #[.slice a l.length cap, .bool base, .int .i64 day] w fun e w' => e = .returned (.bool true) ∧ Below w.heap.size w w' := by
  have HT := hide ht
  have HLT := hide hlt
  have HV := hide hv
  have HBG := hide (begins_any w)
  have HE := hide (fun W (h : TabW W) (h2 : RowI W (.slice a l.length cap) l) => encodeW_any a cap l base W h.tab.toRTab h2 hc (by omega))
  clear ht hlt hv
  go_enter Tryz.func8, Tryz.ntmps8
  go_wp2_with fail
  refine (unhide HBG).mono ?_
  rintro e w1 ⟨rfl, b1⟩
  have HT1 := hide ((unhide HT).below b1)
  have HL1 := hide ((unhide HLT).below b1)
  have HV1 := hide ((unhide HV).below b1)
  have HB1 := hide b1
  clear b1 HT HLT HV HBG
  rcases encW_cases base l with he | ⟨hi, he⟩
  · rw [he] at HE
    clear he
    go_wp2_with fail
    refine (unhide HE _ (unhide HT1) (unhide HV1)).mono ?_
    rintro e w2 ⟨rfl, b2⟩
    have HL2 := hide ((unhide HL1).below b2)
    have HB2 := hide (belows' (unhide HB1) b2)
    clear b2 HE
    cases hd : dayB day
    · have HW := hide (write_no day w2 hd)
      clear hd
      go_wp2_with fail
      refine (unhide HW).mono ?_
      rintro e w3 ⟨rfl, h3⟩
      subst h3
      go_wp2
      go_ret
      exact ⟨rfl, unhide HB2⟩
    · obtain ⟨y, m, d, hv, hn⟩ := day_exists hd
      have HW := hide (write_yes y m d day w2 (unhide HL2) hv hn)
      clear hd hv hn
      generalize bts (dayT y m d) = T at HW
      go_wp2_with fail
      refine (unhide HW).mono ?_
      rintro e w3 ⟨rfl, b3⟩
      have HB3 := hide (belows' (unhide HB2) b3)
      clear b3
      go_wp2
      go_ret
      exact ⟨rfl, unhide HB3⟩
  · rw [he] at HE
    clear he
    have hlen := enc_len_le base l
    have hpw := pcW_jw base (chunks l)
    have hvl := jw_vl base (chunks l)
    obtain ⟨s, hs⟩ : ∃ s, s = bts (jw base false (chunks l)) := ⟨_, rfl⟩
    have hsl : s.data.toList = jw base false (chunks l) := by rw [hs, toList_bts]
    have hss : s.size ≤ 15500000 := by rw [← sizeL, hsl]; omega
    rw [← hs] at HE
    rw [← hsl] at hpw hvl
    have HD := hide (fun W (h : TabW W) => decode_word s W h.tab h.err h.max (by omega))
    have hfl : (pcW s.data.toList).flatMap (·.1) = (chunks l).flatMap lettersL := by rw [hpw, wds_flat]
    rw [hfl] at HD
    have HIS : Hid (∀ n ∈ (chunks l).flatMap lettersL, isL (n : Int) = true) := hide (fun n hn => by
      obtain ⟨t, _, ht⟩ := List.mem_flatMap.1 hn
      exact lettersL_is t n ht)
    have HBK := hide (chunks_back hi)
    have HVL := hide hvl
    clear hlen hpw hs hsl hfl hi hvl
    go_wp2_with fail
    refine (unhide HE _ (unhide HT1) (unhide HV1)).mono ?_
    rintro e w2 ⟨rfl, b2⟩
    have HL2 := hide ((unhide HL1).below b2)
    have HT2 := hide ((unhide HT1).below b2)
    have HV2 := hide ((unhide HV1).below b2)
    have HB2 := hide (belows' (unhide HB1) b2)
    clear b2 HE HL1 HT1 HV1 HB1
    cases hd : dayB day
    · have HW := hide (write_no day w2 hd)
      clear hd
      go_wp2_with fail
      refine (unhide HW).mono ?_
      rintro e w3 ⟨rfl, h3⟩
      subst h3
      go_wp2
      go_ret
      exact ⟨rfl, unhide HB2⟩
    · obtain ⟨y, m, d, hv, hn⟩ := day_exists hd
      have hlen := dayT_len y m d (by have := vld_iff.1 hv; omega) (by have := vld_iff.1 hv; omega)
      have HW := hide (write_yes y m d day w2 (unhide HL2) hv hn)
      have HMA := hide (fun W (h : LTab W) => mail_any (dvL (dayT y m d)) W h (by rw [dvL_eq]; simp only [List.length_append, List.length_map, hlen, List.length_cons, List.length_nil]; split <;> decide) (ix_all2 _ (by rw [dvL_eq]; exact day_ascii2 y m d hv) (by rw [dvL_eq]; simp only [List.length_append, List.length_map, hlen, List.length_cons, List.length_nil]; split <;> decide)))
      rw [show mailR (dvL (dayT y m d)) = some day by rw [dvL_eq, mail_day2 y m d hv, hn]] at HMA
      simp only [numV] at HMA
      have HDV := hide (dv_vl y m d hv)
      have hl11 : (dayT y m d).length ≤ 11 := by rw [hlen]; split <;> omega
      clear hd hv hn hlen
      generalize dayT y m d = T at HW HMA HDV hl11
      obtain ⟨D, hD⟩ : ∃ D, D = [120, 44, 32] ++ T := ⟨_, rfl⟩
      have hcat : (⟨#[120, 44, 32]⟩ ++ bts T : ByteArray) = bts D := by rw [hD]; apply ext_list; rw [toList_bts]; simp [bts]
      have hDl : D.length ≤ 14 := by rw [hD]; simp; omega
      have hdv : dvL T = D.map dsh := by rw [hD]; rfl
      rw [hdv] at HMA HDV
      have hTs : (bts T).size ≤ 11 := by rw [size_bts]; exact hl11
      clear hD hdv hl11
      generalize bts T = tb at HW hcat hTs
      go_wp2_with fail
      refine (unhide HW).mono ?_
      rintro e W7 ⟨rfl, b3⟩
      have HL7 := hide ((unhide HL2).below b3)
      have HT7 := hide ((unhide HT2).below b3)
      have HV7 := hide ((unhide HV2).below b3)
      have HB7 := hide (belows' (unhide HB2) b3)
      clear b3 HL2 HT2 HV2 HB2 HW
      have hsb := size_bts D
      have kc := fun (w : World) => run_bytes_of_string (P := Tryz.prog) w 9 36 5 (bts D) Tryz.underlying9 Tryz.underlying36 Tryz.underlying5
      rw [hsb] at kc
      go_upto_region 8 with (fail)
      have HBY := hide (bytes_new W7 D (grownCap W7 D.length 0 5))
      have bN : Below W7.heap.size W7 (W7.alloc (.cells (bytesRow (bts D) (grownCap W7 D.length 0 5)) 5 ((bytesRow (bts D) (grownCap W7 D.length 0 5)).size, (bytesRow (bts D) (grownCap W7 D.length 0 5)).size + 1))).drew := ((Below.refl _ W7).alloc (Nat.le_refl _) _).drew
      obtain ⟨W, hW⟩ : ∃ W, W = (W7.alloc (.cells (bytesRow (bts D) (grownCap W7 D.length 0 5)) 5 ((bytesRow (bts D) (grownCap W7 D.length 0 5)).size, (bytesRow (bts D) (grownCap W7 D.length 0 5)).size + 1))).drew := ⟨_, rfl⟩
      rw [← hW] at HBY bN ⊢
      clear hW kc
      generalize grownCap W7 D.length 0 5 = cap2
      obtain ⟨B, hB⟩ : ∃ B, B = W7.heap.size := ⟨_, rfl⟩
      rw [← hB] at HBY bN ⊢
      have HBE := hide hB
      have HBN := hide bN
      clear hB hsb bN hcat
      go_wp2
      go_loopw [12, 47] (fun x z wr => ∃ k : Nat, z = .int .i64 k ∧ k ≤ D.length ∧ Bytes wr B (greF dsh k D) ∧ Below B W7 wr) (fun _ z _ => D.length - (intOf z).toNat)
      case atStart => exact ⟨0, rfl, Nat.zero_le _, by simpa [greF] using unhide HBY, unhide HBN⟩
      case round =>
        obtain ⟨k, rfl, hk, hby, hbw⟩ := hrel
        by_cases hlt : k < D.length
        · have hcc := hby.cell k (by rw [greF_len]; exact hlt)
          rw [greF_at dsh k D hlt] at hcc
          have hfz := hby.free k (by rw [greF_len]; exact hlt)
          have hlt' : (k : Int) < (D.length : Int) := by omega
          by_cases h45 : D[k] = 45
          · have hn := hby.set k (by rw [greF_len]; exact hlt) (dsh D[k])
            rw [← greF_next dsh k D hlt, h45, show ((dsh 45).toNat : Int) = 32 from rfl] at hn
            have HN := hide hn
            have HB2 := hide (hbw.setCell (p := ⟨B, k, none⟩) (Nat.le_refl _) (.int .u8 32))
            rw [h45, show (((45 : UInt8).toNat : Nat) : Int) = 45 from rfl] at hcc
            clear hn h45 hby hbw
            go_wp2
            exact ⟨⟨k + 1, by go_num, by omega, unhide HN, unhide HB2⟩, by simp [intOf]; omega⟩
          · have hup : dsh D[k] = D[k] := by unfold dsh; rw [if_neg h45]
            have HN := hide (show Bytes wr B (greF dsh (k + 1) D) by rw [greF_same dsh k D hlt hup]; exact hby)
            have HB2 := hide hbw
            have hne : ((D[k].toNat : Int) == 45) = false := by
              rw [beq_eq_false_iff_ne]
              intro e
              apply h45
              apply UInt8.toNat_inj.1
              have : (45 : UInt8).toNat = 45 := rfl
              omega
            clear hup hby hbw h45
            go_wp2
            exact ⟨⟨k + 1, by go_num, by omega, unhide HN, unhide HB2⟩, by simp [intOf]; omega⟩
        · have hlt' : ¬ (k : Int) < (D.length : Int) := by omega
          rw [greF_all dsh D k (by omega)] at hby
          have hcs : ∀ j (hj : j < (D.map dsh).length), wr.cell? (Addr.add ⟨B, 0, none⟩ j) = some (.int .u8 ((D.map dsh)[j].toNat : Int)) := by
            intro j hj
            have hadd : Addr.add ⟨B, 0, none⟩ j = ⟨B, j, none⟩ := by simp only [Addr.add, Nat.zero_add]; split <;> simp_all
            rw [hadd]
            exact hby.cell j hj
          have hcv := run_convert_bytes_back (P := Tryz.prog) wr 36 9 5 ⟨B, 0, none⟩ cap2 (D.map dsh) Tryz.underlying36 Tryz.underlying5 Tryz.underlying9 hcs
          rw [List.length_map, show ({ data := (D.map dsh).toArray } : ByteArray) = bts (D.map dsh) from rfl] at hcv
          have hbw' : Below W7.heap.size W7 wr := by rw [← unhide HBE]; exact hbw
          have HB8 := hide (belows' (unhide HB7) hbw')
          have HT8 := hide ((unhide HT7).below hbw')
          have HL8 := hide ((unhide HL7).below hbw')
          have HV8 := hide ((unhide HV7).below hbw')
          have hxz : (bts (D.map dsh)).size ≤ 14 := by rw [size_bts, List.length_map]; exact hDl
          have hxl : (bts (D.map dsh)).data.toList = D.map dsh := toList_bts _
          rw [← hxl] at HDV
          clear hcs hby hbw hbw' HB7 HT7 HL7 HV7 hxl
          generalize bts (D.map dsh) = x at hcv hxz HDV HMA
          -- the header
          have hfit : ∀ f ∈ [(subjB, s), (dateB, x)], Fits f := by
            intro f hf
            simp only [List.mem_cons, List.not_mem_nil, or_false] at hf
            rcases hf with rfl | rfl
            · exact ⟨by show subjB.size ≤ 16777216; decide, by show s.size ≤ _; omega⟩
            · exact ⟨by show dateB.size ≤ 16777216; decide, by show x.size ≤ _; omega⟩
          have HRF := hide (rowF_lit wr [(subjB, s), (dateB, x)] #[.string subjB, .string s, .string dateB, .string x] rfl (by show 2 ≤ 4194304; omega) hfit)
          have HWR := hide (hwrite_any _ _ _ (unhide HRF))
          have hok : ([(subjB, s), (dateB, x)].map lst).all okF = true := by
            simp only [List.map_cons, List.map_nil, List.all_cons, List.all_nil, Bool.and_true, Bool.and_eq_true]
            exact ⟨by unfold okF lst; rw [Bool.and_eq_true]; exact ⟨by show isNm subjB.data.toList = true; decide, unhide HVL⟩, by unfold okF lst; rw [Bool.and_eq_true]; exact ⟨by show isNm dateB.data.toList = true; decide, unhide HDV⟩⟩
          have hwr : writeR ([(subjB, s), (dateB, x)].map lst) = (textL [10] ([(subjB, s), (dateB, x)].map lst), 0) := by
            unfold writeR
            rw [if_pos hok, if_pos (by show 2 ≤ 1024; omega)]
          rw [hwr] at HWR
          have hpt := parse_text (e := [10]) (Or.inl rfl) ([(subjB, s), (dateB, x)].map lst) hok []
          rw [List.append_nil] at hpt
          have hfl := flat_le [(subjB, s), (dateB, x)]
          have hsf : sumF [(subjB, s), (dateB, x)] ≤ 15600000 := by
            have e1 : subjB.size = 7 := rfl
            have e2 : dateB.size = 4 := rfl
            simp only [sumF]
            omega
          have HPA := hide (fun W => parse_any (bts (textL [10] ([(subjB, s), (dateB, x)].map lst))) W (by rw [size_bts]; omega))
          rw [toList_bts, hpt] at HPA
          clear hpt hfl hsf hwr hok hfit
          generalize bts (textL [10] ([(subjB, s), (dateB, x)].map lst)) = htx at HWR HPA
          go_wp2_with fail
          refine (unhide HWR).mono ?_
          rintro e W9 ⟨rfl, b9'⟩
          have b9 : Below wr.heap.size wr W9 := belows' ((Below.refl _ wr).alloc (Nat.le_refl _) _) b9'
          have HB9 := hide (belows' (unhide HB8) b9)
          have HT9 := hide ((unhide HT8).below b9)
          have HL9 := hide ((unhide HL8).below b9)
          have HV9 := hide ((unhide HV8).below b9)
          clear b9 b9' HB8 HT8 HL8 HV8 HWR HRF hcv
          go_wp2_with fail
          refine (unhide HPA _).mono ?_
          rintro e W10 ⟨vm, fm, rfl, hrm, hm, b10⟩
          have hml : fm = [(subjB, s), (dateB, x)] := back_flds (by rw [hm, List.take_of_length_le (by show 2 ≤ 1024; omega)])
          subst hml
          have HRM := hide hrm
          have HB10 := hide (belows' (unhide HB9) b10)
          have HT10 := hide ((unhide HT9).below b10)
          have HL10 := hide ((unhide HL9).below b10)
          have HV10 := hide ((unhide HV9).below b10)
          clear hrm hm b10 HPA HB9 HT9 HL9 HV9
          have HF1 := hide (fun W (h : RowF W vm [(subjB, s), (dateB, x)]) => find_any vm _ ⟨#[115, 117, 98, 106, 101, 99, 116]⟩ W h (by decide))
          rw [find_subj] at HF1
          have HF2 := hide (fun W (h : RowF W vm [(subjB, s), (dateB, x)]) => find_any vm _ ⟨#[100, 97, 116, 101]⟩ W h (by decide))
          rw [find_date] at HF2
          go_wp2_with fail
          refine (unhide HF1 _ (unhide HRM)).mono ?_
          rintro e W11 ⟨rfl, b11⟩
          have HRM11 := hide ((unhide HRM).below b11)
          have HB11 := hide (belows' (unhide HB10) b11)
          have HT11 := hide ((unhide HT10).below b11)
          have HL11 := hide ((unhide HL10).below b11)
          have HV11 := hide ((unhide HV10).below b11)
          clear b11 HF1 HRM HB10 HT10 HL10 HV10
          go_wp2_with fail
          refine (unhide HF2 _ (unhide HRM11)).mono ?_
          rintro e W12 ⟨rfl, b12⟩
          have HB12 := hide (belows' (unhide HB11) b12)
          have HT12 := hide ((unhide HT11).below b12)
          have HL12 := hide ((unhide HL11).below b12)
          have HV12 := hide ((unhide HV11).below b12)
          clear b12 HF2 HRM11 HB11 HT11 HL11 HV11
          go_wp2_with fail
          refine (unhide HMA _ (unhide HL12)).mono ?_
          rintro e W13 ⟨rfl, b13⟩
          have HB13 := hide (belows' (unhide HB12) b13)
          have HT13 := hide ((unhide HT12).below b13)
          have HV13 := hide ((unhide HV12).below b13)
          clear b13 HMA HB12 HT12 HL12 HV12
          have hdd : ((day : Int) == day) = true := by simp
          go_wp2_with fail
          refine (unhide HD _ (unhide HT13)).mono ?_
          rintro e W14 ⟨v14, rfl, o14, b14⟩
          have HO := hide (own_rowI o14 (unhide HIS))
          rw [unhide HBK] at HO
          have HLS := hide (letters_top _ _ _ _ W14 (unhide HO) ((unhide HV13).below b14) (by omega))
          rw [decide_eq_true rfl] at HLS
          have HB14 := hide (belows' (unhide HB13) b14)
          clear o14 b14 HD HB13 HT13 HV13
          go_wp2_with fail
          refine (unhide HLS).mono ?_
          rintro e W15 ⟨rfl, b15⟩
          have HB15 := hide (belows' (unhide HB14) b15)
          clear b15
          go_wp2
          go_ret
          exact ⟨by first | rfl | simp, unhide HB15⟩
end Go.Proofs.YtdallfakfhajdaaGreatDoor
