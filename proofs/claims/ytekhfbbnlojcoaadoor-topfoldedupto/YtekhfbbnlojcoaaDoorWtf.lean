/-
  The walk of missivetop.TopFolded, over this seat's program.
-/
import Derived.Test.YtekhfbbnlojcoaaDoorWtm
import Derived.Deep.RegionHeld3
set_option linter.unusedVariables false
namespace Go.Proofs.YtekhfbbnlojcoaaDoor
open Go.RowKit Go.Proofs.Hed Go.Proofs.Rns Go.Proofs.Fol Go.Proofs.Kmp

theorem sumF_at : ∀ (l : List Fld) (k : Nat) (h : k < l.length), l[k].1.size + l[k].2.size ≤ sumF l
  | f :: r, 0, _ => by simp only [sumF, List.getElem_cons_zero]; omega
  | f :: r, k + 1, h => by
    have := sumF_at r k (by simpa using h)
    simp only [sumF, List.getElem_cons_succ]
    omega
theorem own_slice {w : World} {B e : Nat} {v : Value} {n : Nat} {xs : List Value} (h : w.ownsRow B e 1 v n xs) : ∃ a cap, v = .slice a n cap ∧ n ≤ cap := by
  rcases h.2 with ⟨hv, h0⟩ | ⟨g, cap, cur, hv, hg, hh, hn', _⟩
  · exact ⟨none, 0, by rw [hv, h0], by omega⟩
  · exact ⟨_, cap, hv, hn'⟩
/-- Whether a text is among others. -/
def anyV (val : ByteArray) (l : List ByteArray) : Bool := l.any fun y => decide (y = val)
theorem anyV_of {val : ByteArray} {l : List ByteArray} (h : val ∈ l) : anyV val l = true := by
  unfold anyV
  rw [List.any_eq_true]
  exact ⟨val, h, by simp⟩
theorem range64 {n : Int} (h : (Lit.int .i64 n).wf = true) : -9223372036854775808 ≤ n ∧ n ≤ 9223372036854775807 := by
  simpa [Lit.wf, IntKind.min, IntKind.max, IntKind.signed, IntKind.bits] using h

set_option maxHeartbeats 8000000 in
set_option maxRecDepth 100000 in
theorem topFolded_walk (v : Value) (l : List Fld) (at0 fr0 to0 : Int) (w : World) (ht : RTab w) (h : RowF w v l) (wa : (Lit.int .i64 at0).wf = true) (wf : (Lit.int .i64 fr0).wf = true) (wt : (Lit.int .i64 to0).wf = true) (hsum : sumF l ≤ 1048576) :
    Calls Tryd.prog 4 #[v, .int .i64 at0, .int .i64 fr0, .int .i64 to0] w fun e w' => e = .returned (.bool true) ∧ Below w.heap.size w w' := by
  have HBG := hide (begins_any w)
  have HT := hide ht
  have HR := hide h
  have HSUM := hide hsum
  have HWT := hide (range64 wt)
  obtain ⟨ad, cap, hv, _, _, hcc⟩ := h
  have HCC := hide hcc
  subst hv
  clear hsum ht wa wf wt hcc
  go_enter Tryd.func4, Tryd.ntmps4
  go_wp2_with fail
  refine (unhide HBG).mono ?_
  clear HBG
  rintro e W1 ⟨rfl, hb1⟩
  have HB1 := hide hb1
  have HR1 := hide ((unhide HR).below hb1)
  clear hb1 HR
  have HW := hide (write_any _ l W1 (unhide HR1))
  obtain ⟨t, k, htk⟩ : ∃ t k, writeR (l.map lst) = (t, k) := ⟨_, _, rfl⟩
  rw [htk] at HW
  have HTK := hide htk
  clear htk
  go_wp2_with fail
  refine (unhide HW).mono ?_
  clear HW
  rintro e W2 ⟨rfl, hb2⟩
  have HB2 := hide (belows' (unhide HB1) hb2)
  have HR2 := hide ((unhide HR1).below hb2)
  clear hb2 HB1 HR1
  by_cases hk : k = 0
  · obtain ⟨ok1, ok2, ok3⟩ := write_ok (L := l.map lst) (by rw [unhide HTK]; exact hk)
    rw [unhide HTK] at ok3
    simp only at ok3
    have htl := flat_le l
    rw [← ok3] at htl
    have hpt := parse_text (e := [10]) (Or.inl rfl) (l.map lst) ok1 []
    rw [← ok3, List.append_nil] at hpt
    have HPA := hide (fun W => parse_any (bts t) W (by rw [size_bts]; have := unhide HSUM; omega))
    rw [toList_bts, hpt] at HPA
    have HOK := hide ok2
    subst hk
    clear ok1 ok2 ok3 htl hpt
    go_wp2_with fail
    refine (unhide HPA _).mono ?_
    clear HPA
    rintro e W3 ⟨vm, m, rfl, hrm, hm, hb3⟩
    have hml : m = l := back_flds (by rw [hm, List.take_of_length_le (unhide HOK)])
    subst hml
    have HB3 := hide (belows' (unhide HB2) hb3)
    have HRM := hide hrm
    obtain ⟨am, cm, hvm, _⟩ := hrm
    subst hvm
    clear hb3 hm HB2 HR2 HOK HTK
    by_cases ha : 0 ≤ at0 ∧ at0 < (m.length : Int)
    · obtain ⟨k, hk⟩ : ∃ k : Nat, at0 = (k : Int) := ⟨at0.toNat, by omega⟩
      subst hk
      have hkl : k < m.length := by omega
      have hkl1 : (k : Int) < (m.length : Int) := ha.2
      have hge1 : decide (m.length ≤ k) = false := by simp; omega
      have hge2 : decide ((m.length : Int) ≤ (k : Int)) = false := by simp; omega
      obtain ⟨b, off, had, hb, hcells⟩ : ∃ b off, ad = some ⟨b, off, none⟩ ∧ b < w.heap.size ∧ (∀ W, Below w.heap.size w W → W.cell? ⟨b, off + k * 2, none⟩ = some (.string m[k].1) ∧ W.cell? ⟨b, off + k * 2 + 1, none⟩ = some (.string m[k].2)) := by
        rcases unhide HCC with h | ⟨b, off, ha, hb, hcj⟩
        · subst h; simp at hkl
        · obtain ⟨c0, c1⟩ := row_cells hcj hkl
          exact ⟨b, off, ha, hb, fun W hW => ⟨(hW.cell (p := ⟨b, off + k * 2, none⟩) hb).trans c0, (hW.cell (p := ⟨b, off + k * 2 + 1, none⟩) hb).trans c1⟩⟩
      subst had
      have hfound := found_sw hkl
      have hsz := sumF_at m k hkl
      have hL := sizeL m[k].1
      have hVS := sizeL m[k].2
      obtain ⟨nm, hnm⟩ : ∃ nm, nm = m[k].1 := ⟨_, rfl⟩
      obtain ⟨val, hval⟩ : ∃ val, val = m[k].2 := ⟨_, rfl⟩
      rw [← hnm] at hcells hfound hsz hL
      rw [← hval] at hcells hfound hsz hVS
      obtain ⟨L, hLe⟩ : ∃ L, L = nm.data.toList := ⟨_, rfl⟩
      rw [← hLe] at hfound hL
      have hnmb : nm = bts L := by rw [hLe, bts_toList]
      subst hnmb
      obtain ⟨vs, hvs⟩ : ∃ vs, vs = allL (bts (L.map swB)) m := ⟨_, rfl⟩
      rw [← hvs] at hfound
      have HALL := hide (fun W (h : RowF W (.slice am m.length cm) m) => all_any _ m (bts (L.map swB)) W h (by rw [size_bts, List.length_map]; have := unhide HSUM; rw [size_bts] at hsz; omega))
      rw [← hvs] at HALL
      have hLs : L.length ≤ 1048576 := by have := unhide HSUM; rw [size_bts] at hsz; omega
      have hvals : val.size ≤ 1048576 := by have := unhide HSUM; omega
      have HFOUND := hide hfound
      have HCELLS := hide hcells
      have HVS := hide hVS
      have c0 := (unhide HCELLS W3 (unhide HB3)).1
      have c1 := (unhide HCELLS W3 (unhide HB3)).2
      have hsb := size_bts L
      have kc := fun (w : World) => run_bytes_of_string (P := Tryd.prog) w 9 34 5 (bts L) Tryd.underlying9 Tryd.underlying34 Tryd.underlying5
      rw [hsb] at kc
      clear hcells hfound hsz hL hnm hval hLe hvs hVS HCC HSUM ha
      go_upto_region 8 with (fail)
      try simp only [hge1]
      clear hge1 hge2
      have HB := hide (bytes_new W3 L (grownCap W3 L.length 0 5))
      have bN : Below W3.heap.size W3 (W3.alloc (.cells (bytesRow (bts L) (grownCap W3 L.length 0 5)) 5 ((bytesRow (bts L) (grownCap W3 L.length 0 5)).size, (bytesRow (bts L) (grownCap W3 L.length 0 5)).size + 1))).drew := ((Below.refl _ W3).alloc (Nat.le_refl _) _).drew
      obtain ⟨W, hW⟩ : ∃ W, W = (W3.alloc (.cells (bytesRow (bts L) (grownCap W3 L.length 0 5)) 5 ((bytesRow (bts L) (grownCap W3 L.length 0 5)).size, (bytesRow (bts L) (grownCap W3 L.length 0 5)).size + 1))).drew := ⟨_, rfl⟩
      rw [← hW] at HB bN ⊢
      clear hW kc c0 c1
      generalize grownCap W3 L.length 0 5 = capb
      obtain ⟨B, hB⟩ : ∃ B, B = W3.heap.size := ⟨_, rfl⟩
      rw [← hB] at HB bN ⊢
      have HBE := hide hB
      clear hB hsb
      go_wp2
      go_loopw [14, 15, 53] (fun x y z wr => ∃ k : Nat, z = .int .i64 k ∧ k ≤ L.length ∧ Bytes wr B (greF swB k L) ∧ Below B W3 wr) (fun _ _ z _ => L.length - (intOf z).toNat)
      case atStart => exact ⟨0, rfl, Nat.zero_le _, by simpa [greF] using unhide HB, bN⟩
      case round =>
        obtain ⟨j, rfl, hj, hby, hbw⟩ := hrel
        by_cases hlt : j < L.length
        · have hcc := hby.cell j (by rw [greF_len]; exact hlt)
          rw [greF_at swB j L hlt] at hcc
          have hfz := hby.free j (by rw [greF_len]; exact hlt)
          have hlt' : (j : Int) < (L.length : Int) := by omega
          have hc := L[j].toNat_lt
          by_cases h12 : 97 ≤ L[j].toNat ∧ L[j].toNat ≤ 122
          · have hup := sw_small h12
            have hn := hby.set j (by rw [greF_len]; exact hlt) (swB L[j])
            rw [← greF_next swB j L hlt, hup] at hn
            have HN := hide hn
            have HB2 := hide (hbw.setCell (p := ⟨B, j, none⟩) (Nat.le_refl _) (.int .u8 ((L[j].toNat : Int) - 32)))
            have h1 := h12.1
            have h2 := h12.2
            clear hn hup h12 hby hbw
            generalize L[j].toNat = c at hcc HN HB2 h1 h2 hc
            go_wp2
            exact ⟨⟨j + 1, by go_num, by omega, unhide HN, unhide HB2⟩, by simp [intOf]; omega⟩
          · by_cases h34 : 65 ≤ L[j].toNat ∧ L[j].toNat ≤ 90
            · have hup := sw_great h34
              have hn := hby.set j (by rw [greF_len]; exact hlt) (swB L[j])
              rw [← greF_next swB j L hlt, hup] at hn
              have HN := hide hn
              have HB2 := hide (hbw.setCell (p := ⟨B, j, none⟩) (Nat.le_refl _) (.int .u8 ((L[j].toNat : Int) + 32)))
              have h1 := h34.1
              have h2 := h34.2
              have h3 : ¬ 97 ≤ L[j].toNat := by omega
              clear hn hup h12 h34 hby hbw
              generalize L[j].toNat = c at hcc HN HB2 h1 h2 h3 hc
              go_wp2
              exact ⟨⟨j + 1, by go_num, by omega, unhide HN, unhide HB2⟩, by simp [intOf]; omega⟩
            · have hup := sw_none h12 h34
              have HN := hide (show Bytes wr B (greF swB (j + 1) L) by rw [greF_same swB j L hlt hup]; exact hby)
              have HB2 := hide hbw
              clear hup hby hbw
              generalize L[j].toNat = c at hcc h12 h34 hc
              by_cases h1 : 97 ≤ c
              · have h2 : ¬ c ≤ 122 := fun x => h12 ⟨h1, x⟩
                have h3 : 65 ≤ c := by omega
                have h4 : ¬ c ≤ 90 := by omega
                clear h12 h34
                go_wp2
                exact ⟨⟨j + 1, by go_num, by omega, unhide HN, unhide HB2⟩, by simp [intOf]; omega⟩
              · by_cases h3 : 65 ≤ c
                · have h4 : ¬ c ≤ 90 := fun x => h34 ⟨h3, x⟩
                  clear h12 h34
                  go_wp2
                  exact ⟨⟨j + 1, by go_num, by omega, unhide HN, unhide HB2⟩, by simp [intOf]; omega⟩
                · clear h12 h34
                  go_wp2
                  exact ⟨⟨j + 1, by go_num, by omega, unhide HN, unhide HB2⟩, by simp [intOf]; omega⟩
        · have hlt' : ¬ (j : Int) < (L.length : Int) := by omega
          rw [greF_all swB L j (by omega)] at hby
          have hcs : ∀ j (hj : j < (L.map swB).length), wr.cell? (Addr.add ⟨B, 0, none⟩ j) = some (.int .u8 ((L.map swB)[j].toNat : Int)) := by
            intro j hj
            have hadd : Addr.add ⟨B, 0, none⟩ j = ⟨B, j, none⟩ := by simp only [Addr.add, Nat.zero_add]; split <;> simp_all
            rw [hadd]
            exact hby.cell j hj
          have hcv := run_convert_bytes_back (P := Tryd.prog) wr 34 9 5 ⟨B, 0, none⟩ capb (L.map swB) Tryd.underlying34 Tryd.underlying5 Tryd.underlying9 hcs
          rw [List.length_map, show ({ data := (L.map swB).toArray } : ByteArray) = bts (L.map swB) from rfl] at hcv
          have hbw3 : Below W3.heap.size W3 wr := by rw [← unhide HBE]; exact hbw
          have HB4 := hide (belows' (unhide HB3) hbw3)
          have HRM4 := hide ((unhide HRM).below hbw3)
          clear hcs hby hbw hbw3 HB bN HB3 HRM HBE
          obtain ⟨x, hx⟩ : ∃ x, x = bts (L.map swB) := ⟨_, rfl⟩
          rw [← hx] at hcv HALL
          clear hx
          go_wp2_with fail
          refine (unhide HALL _ (unhide HRM4)).mono ?_
          clear HALL HRM4 hcv
          rintro e W5 ⟨va, rfl, hra, hb5⟩
          have HB5 := hide (belows' (unhide HB4) hb5)
          obtain ⟨aa, ca, hva, hvl, _, hvc⟩ := hra
          have HVC := hide hvc
          subst hva
          clear hb5 HB4 hvc
          go_wp2
          go_loopw [17, 19, 87] (fun x y z wr => ∃ j : Nat, z = .int .i64 j ∧ x = .bool (anyV val (vs.take j)) ∧ j ≤ vs.length ∧ Hid (Below W5.heap.size W5 wr)) (fun _ _ z _ => vs.length - (intOf z).toNat)
          case atStart => exact ⟨0, rfl, by simp [anyV], Nat.zero_le _, hide (Below.refl _ _)⟩
          case round =>
            obtain ⟨j, rfl, rfl, hj, HB6⟩ := hrel
            by_cases hlt : j < vs.length
            · have hlt' : (j : Int) < (vs.length : Int) := by omega
              obtain ⟨b', off', haa, hcy⟩ : ∃ b off, aa = some ⟨b, off, none⟩ ∧ wr.cell? ⟨b, off + j, none⟩ = some (.string vs[j]) := by
                rcases unhide HVC with h | ⟨b, off, ha, hb, hcj⟩
                · subst h; simp at hlt
                · exact ⟨b, off, ha, ((unhide HB6).cell (p := ⟨b, off + j, none⟩) hb).trans (hcj j hlt)⟩
              subst haa
              have c1 := (unhide HCELLS _ (belows' (unhide HB5) (unhide HB6))).2
              have hnx : anyV val (vs.take (j + 1)) = (anyV val (vs.take j) || decide (vs[j] = val)) := by
                unfold anyV
                rw [List.take_succ_eq_append_getElem hlt, List.any_append]
                simp
              have HNX := hide hnx
              have hbe := beqS vs[j] val
              generalize vs[j] = y at hcy HNX hbe
              obtain ⟨q, hq⟩ : ∃ q, q = anyV val (vs.take j) := ⟨_, rfl⟩
              rw [← hq] at HNX ⊢
              clear hnx hq
              cases q with
              | true =>
                clear hbe
                go_wp2
                exact ⟨⟨j + 1, by go_num, by rw [unhide HNX]; rfl, by omega, HB6⟩, by simp [intOf]; omega⟩
              | false =>
                generalize decide (y = val) = z at HNX hbe
                go_wp2
                exact ⟨⟨j + 1, by go_num, by rw [unhide HNX]; simp, by omega, HB6⟩, by simp [intOf]; omega⟩
            · have hlt' : ¬ (j : Int) < (vs.length : Int) := by omega
              have hq : anyV val (vs.take j) = true := by rw [List.take_of_length_le (by omega)]; exact anyV_of (unhide HFOUND)
              rw [hq]
              have hbx := belows' (unhide HB5) (unhide HB6)
              have c1 := (unhide HCELLS _ hbx).2
              have HLT := hide (letters_any val wr ((unhide HT).below hbx) (by omega))
              have HBX := hide hbx
              have hll := lettersL_len val.data.toList
              rw [sizeL] at hll
              have hnI : (ints (lettersL val.data.toList)).length = (lettersL val.data.toList).length := by simp [ints]
              clear hq hbx HB5 HB6 HVC HFOUND
              go_wp2_with fail
              refine (unhide HLT).mono ?_
              clear HLT c1
              rintro e W7 ⟨vl, rfl, hown, hb7⟩
              have hRI := own_rowI hown (lettersL_is _)
              obtain ⟨al, capl, hvl, hcapl⟩ := own_slice hown
              subst hvl
              have HB7 := hide (belows' (unhide HBX) hb7)
              have HTXT := hide (fun W (hW : Below w.heap.size w W) => text_any val W ((unhide HT).below hW) hvals)
              have c1 := (unhide HCELLS _ (unhide HB7)).2
              rw [← hnI] at hll hcapl hRI ⊢
              generalize ints (lettersL val.data.toList) = I at hll hcapl hRI HTXT ⊢
              have HRI := hide hRI
              clear hown hb7 HBX hnI hRI
              by_cases h1 : fr0 < 0
              · go_wp2
                go_ret
                exact ⟨rfl, unhide HB7⟩
              by_cases h2 : to0 < fr0
              · go_wp2
                go_ret
                exact ⟨rfl, unhide HB7⟩
              by_cases h3 : (I.length : Int) < to0
              · go_wp2
                go_ret
                exact ⟨rfl, unhide HB7⟩
              obtain ⟨f, hf⟩ : ∃ f : Nat, fr0 = (f : Int) := ⟨fr0.toNat, by omega⟩
              obtain ⟨g, hg⟩ : ∃ g : Nat, to0 = (g : Int) := ⟨to0.toNat, by omega⟩
              subst hf hg
              have hfg : f ≤ g := by omega
              have hgI : g ≤ I.length := by omega
              have hcr := fun W => cut_run al I.length capl f g hfg (by omega) W
              have HSUB := hide (cut_rowI (unhide HRI) hfg hgI hcapl)
              have hcl := cutI_len I (f := f) hgI
              have HHAS := hide (cut_fold I f g)
              generalize sliced al f g capl 1 = vsub at hcr HSUB
              have HFA := hide (fun W (hW : Below W7.heap.size W7 W) => fold_any (.slice al I.length capl) I W ((unhide HRI).below hW) (by omega))
              have HFB := hide (fun W (hW : Below W7.heap.size W7 W) => fold_any vsub (cutI I f g) W ((unhide HSUB).below hW) (by omega))
              have hla : (I.map oneL).length ≤ 2097152 := by rw [List.length_map]; omega
              have hlb : ((cutI I f g).map oneL).length ≤ 2097152 := by rw [List.length_map]; omega
              generalize (cutI I f g).map oneL = FB at HFB HHAS hlb
              generalize I.map oneL = FA at HFA HHAS HTXT hla
              have HHS := hide (fun W va vb (ha : RowI W va FA) (hb : RowI W vb FB) => has_any va vb FA FB W ha hb hla hlb)
              rw [unhide HHAS] at HHS
              have HX := hide (fun W (hW : Below W7.heap.size W7 W) => (unhide HCELLS W (belows' (unhide HB7) hW)).2)
              have HD : Hid (Below W7.heap.size W7 W7.drew) := hide ⟨rfl, rfl, rfl, Nat.le_refl _, fun _ _ => rfl⟩
              clear HHAS hla hlb hcl HSUB HRI h1 h2 hcapl hll hLs hvals HCELLS HT
              go_wp2
              go_region_held3 (fun w' => w'.cell? ⟨b, off + k * 2 + 1, none⟩ = some (.string val)) (first | exact unhide HX _ bT | exact unhide HX _ bH | exact unhide HX _ bB | exact unhide HX _ bA | exact unhide HX _ (unhide HD)) (first
                | (go_at_call_of 14 (Value.slice al I.length capl); refine (unhide HFA _ (by exact unhide HD)).mono ?_; rintro e wA ⟨va, rfl, rA, sA⟩; have bA := belows' (unhide HD) sA)
                | (go_at_call_of 14 vsub; refine (unhide HFB _ (by first | exact bT | exact bA)).mono ?_; rintro e wB ⟨vb, rfl, rB, sB⟩; first | (have bB := belows' bT sB; have rA' := rT.below sB) | (have bB := belows' bA sB; have rA' := rA.below sB))
                | (go_at_call 13; refine (unhide HHS _ _ _ (by exact rA') (by exact rB)).mono ?_; rintro e wH ⟨rfl, sH⟩; have bH := belows' bB sH; have xH := unhide HX wH bH)
                | (go_at_call 15; refine (unhide HTXT _ (by exact belows' (unhide HB7) bH)).mono ?_; rintro e wT ⟨vt, rfl, rT, sT⟩; have bT := belows' bH sT))
              all_goals
                have HBZ := hide (belows' (unhide HB7) bH)
                go_simp
                go_wp2
                go_ret
                exact ⟨rfl, unhide HBZ⟩
    · by_cases h1 : at0 < 0
      · go_wp2
        go_ret
        exact ⟨rfl, unhide HB3⟩
      · have h2 : (m.length : Int) ≤ at0 := by omega
        go_wp2
        go_ret
        exact ⟨rfl, unhide HB3⟩
  · have htn : t = [] := by
      have := write_not (L := l.map lst) (by rw [unhide HTK]; exact hk)
      rw [unhide HTK] at this
      exact this
    have HPA := hide (fun W => parse_any (bts t) W (by rw [size_bts, htn]; simp))
    have hk' : (k != 0) = true := by simpa using hk
    have hk2 : (k == 0) = false := by simpa using hk
    clear HTK htn
    go_wp2_with fail
    refine (unhide HPA _).mono ?_
    clear HPA
    rintro e W3 ⟨vm, m, rfl, hrm, hm, hb3⟩
    have HB3 := hide (belows' (unhide HB2) hb3)
    obtain ⟨am, cm, hvm, _⟩ := hrm
    subst hvm
    clear hb3 hm HB2
    generalize (parseL (bts t).data.toList).2 = pn
    go_wp2
    go_ret
    exact ⟨rfl, unhide HB3⟩
end Go.Proofs.YtekhfbbnlojcoaaDoor
