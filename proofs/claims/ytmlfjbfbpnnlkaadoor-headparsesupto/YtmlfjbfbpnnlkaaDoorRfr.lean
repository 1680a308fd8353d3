/-
  The walk of the document's Parse of layer 8, over this seat's program.
-/
import Derived.Test.YtmlfjbfbpnnlkaaDoorRfp
set_option linter.unusedVariables false
namespace Go.Proofs.YtmlfjbfbpnnlkaaDoor
open Go.RowKit Go.Proofs.Hed

/-- How much the fields hold, with k bytes read. -/
def SInv (acc : List Fld) (k : Nat) : Prop := acc.length ≤ k ∧ ∀ f ∈ acc, f.1.size ≤ k ∧ f.2.size ≤ k

theorem own_slice2 {w : World} {B e z : Nat} {v : Value} {n : Nat} {xs : List Value} (h : w.ownsRow B e z v n xs) : ∃ a cap, v = .slice a n cap ∧ n ≤ cap := by
  rcases h.2 with ⟨hv, h0⟩ | ⟨g, cap, cur, hv, hg, hh, hn', _⟩
  · exact ⟨none, 0, by rw [hv, h0], by omega⟩
  · exact ⟨_, cap, hv, hn'⟩
theorem own_at {w : World} {B : Nat} {v : Value} {acc : List Fld} (h : w.ownsRow B 41 2 v acc.length (flatF acc)) {j : Nat} (hj : j < acc.length) :
    ∃ g cap, v = .slice (some ⟨g, 0, none⟩) acc.length cap ∧ B ≤ g ∧ w.cell? ⟨g, j * 2 + 1, none⟩ = some (.string acc[j].2) ∧ w.frozen? ⟨g, j * 2 + 1, none⟩ = false := by
  rcases h.2 with ⟨hv, h0⟩ | ⟨g, cap, cur, hv, hg, hh, hn', hm, hs, ht⟩
  · omega
  · refine ⟨g, cap, hv, hg, ?_, ?_⟩
    · have h1 := (flatF_get acc j hj).2
      rw [← ht, List.getElem?_take, if_pos (by omega)] at h1
      simp only [World.cell?, hh]
      simpa using h1
    · unfold World.frozen?
      simp only [hh]
      simp
theorem set_flatF (acc : List Fld) {j : Nat} (hj : j < acc.length) (y : ByteArray) : (flatF acc).set (j * 2 + 1) (.string y) = flatF (acc.set j (acc[j].1, y)) := by
  induction acc generalizing j with
  | nil => simp at hj
  | cons f r ih =>
    cases j with
    | zero => simp [flatF, cellsF]
    | succ j =>
      have := ih (j := j) (by simpa using hj)
      rw [flatF_cons, List.set_cons_succ, flatF_cons]
      simp only [List.getElem_cons_succ]
      rw [← this, List.set_append_right _ _ (by simp [cellsF]; omega)]
      congr 2
      simp [cellsF]
      omega

/-- A field whose value is trimmed. -/
def trB (f : Fld) : Fld := (f.1, bts (trimL f.2.data.toList))
/-- The first i trimmed. -/
def trk (i : Nat) (acc : List Fld) : List Fld := (acc.take i).map trB ++ acc.drop i
theorem trk_len (i : Nat) (acc : List Fld) : (trk i acc).length = acc.length := by simp [trk]; omega
theorem trk_at (i : Nat) (acc : List Fld) (h : i < acc.length) : (trk i acc)[i]'(by rw [trk_len]; exact h) = acc[i] := by
  unfold trk
  rw [List.getElem_append_right (by simp; omega)]
  simp [List.length_take, Nat.min_eq_left (Nat.le_of_lt h)]
theorem trk_next (i : Nat) (acc : List Fld) (h : i < acc.length) : (trk i acc).set i (trB acc[i]) = trk (i + 1) acc := by
  unfold trk
  have hl : ((acc.take i).map trB).length = i := by simp; omega
  rw [List.set_append_right _ _ (by omega), hl, Nat.sub_self, List.drop_eq_getElem_cons h, List.set_cons_zero, List.take_succ_eq_append_getElem h, List.map_append]
  simp
theorem trk_take {n : Nat} {acc : List Fld} (h : n ≤ acc.length) : (trk n acc).take n = (acc.take n).map trB := by
  unfold trk
  rw [List.take_append_of_le_length (by simp; omega), List.take_of_length_le (by simp; omega)]
theorem rowF_take {w : World} {a : Option Addr} {m cap cap2 n : Nat} {l : List Fld} (h : RowF w (.slice a m cap) l) (hn : n ≤ l.length) : RowF w (.slice a n cap2) (l.take n) := by
  obtain ⟨a', cap', hv, h4, hf, hc⟩ := h
  injection hv with h1 h2 h3
  subst h1
  have hl : (l.take n).length = n := by rw [List.length_take]; omega
  refine ⟨a, cap2, by rw [hl], by omega, fun f hm => hf f (List.mem_of_mem_take hm), ?_⟩
  rcases hc with hc | ⟨b, off, ha, hb, hcj⟩
  · left; subst hc; simp
  · right
    refine ⟨b, off, ha, hb, fun j u hj => hcj j u ?_⟩
    rw [flatF_take, List.getElem?_take] at hj
    split at hj
    · exact hj
    · cases hj
theorem parse_out {L : List UInt8} {acc : List Fld} {K n : Nat} (h : PEnd L (acc.map lst) K) (hn : n = min acc.length 1024) : ((acc.take n).map trB).map lst = (parseL L).1.take 1024 ∧ (parseL L).2 = K := by
  unfold PEnd at h
  rw [h]
  refine ⟨?_, rfl⟩
  have e : ∀ f : Fld, lst (trB f) = trF (lst f) := fun f => by simp [lst, trB, trF, toList_bts]
  simp only [List.map_take, List.map_map]
  rw [hn]
  have : (acc.map (trF ∘ lst)).take 1024 = (acc.map (trF ∘ lst)).take (min acc.length 1024) := by
    by_cases h2 : acc.length ≤ 1024
    · rw [Nat.min_eq_left h2, List.take_of_length_le (by simp; omega), List.take_of_length_le (by simp)]
    · rw [Nat.min_eq_right (by omega)]
  rw [this]
  congr 1

set_option maxHeartbeats 4000000 in
set_option maxRecDepth 100000 in
/-- The document's Parse. -/
theorem refParse_any (s : ByteArray) (w : World) (hs : s.size ≤ 1048576) :
    Calls Tryd.prog 10 #[.string s] w fun e w' => ∃ v l, e = .returned (.tuple #[v, .int .i64 ((parseL s.data.toList).2 : Int)]) ∧ RowF w' v l ∧ l.map lst = (parseL s.data.toList).1.take 1024 ∧ Below w.heap.size w w' := by
  obtain ⟨i0, hi, hz0, hz1, hz2⟩ := info_parts fldInfo
  have hsl := sizeL s
  have hb0 := bts_toList s
  obtain ⟨L, hL⟩ : ∃ L, L = s.data.toList := ⟨_, rfl⟩
  rw [← hL] at hsl hb0 ⊢
  clear hL
  subst hb0
  rw [size_bts] at hs
  clear hsl
  go_enter Tryd.func10, Tryd.ntmps10
  go_wp2
  go_loopw [4, 5, 6, 7, 8] (fun o r x y n wr => ∃ (k : Nat) (acc : List Fld), r = .string (bts (L.drop k)) ∧ k ≤ L.length ∧ Hid (PInv L (acc.map lst) k) ∧ Hid (SInv acc k) ∧ Hid (wr.ownsRow w.heap.size 41 2 o acc.length (flatF acc)) ∧ Hid (Below w.heap.size w wr)) (fun _ r _ _ _ _ => strSz r)
  case atStart => exact ⟨0, [], by rw [List.drop_zero], Nat.zero_le _, hide (Or.inl ⟨rfl, rfl⟩), hide ⟨Nat.le_refl _, by simp⟩, hide ⟨rfl, Or.inl ⟨rfl, rfl⟩⟩, hide (Below.refl _ _)⟩
  case round =>
    obtain ⟨k, acc, rfl, hk, HI, HS, HO, HB⟩ := hrel
    have hem := empty_size (bts (L.drop k))
    rw [size_bts, List.length_drop] at hem
    by_cases hr : L.length - k = 0
    · rw [decide_eq_true hr] at hem
      have hnil : L.drop k = [] := List.drop_of_length_le (by omega)
      have hend := p_stop (j := 0) (unhide HI) (fun _ => by rw [hnil]; rfl) (by rw [hnil]; exact parseL_end rfl)
      rw [Nat.add_zero] at hend
      have HE := hide hend
      obtain ⟨ad, cap, hu4, hcp⟩ := own_slice2 (unhide HO)
      subst hu4
      have HOt := HO
      have HBt := HB
      have HSf := HS
      clear hend hnil hr HI HS
      have hal : acc.length ≤ 1048576 := by have := (unhide HSf).1; omega
      by_cases hbig : acc.length ≤ 1024
      · have hb1 : ¬ (1024 : Int) < (acc.length : Int) := by omega
        go_wp2
        go_loopw [9, 62] (fun x z wr => ∃ i : Nat, z = .int .i64 i ∧ i ≤ acc.length ∧ Hid (wr.ownsRow w.heap.size 41 2 (.slice ad acc.length cap) (trk i acc).length (flatF (trk i acc))) ∧ Hid (Below w.heap.size w wr)) (fun _ z _ => acc.length - (intOf z).toNat)
        case atStart => exact ⟨0, rfl, Nat.zero_le _, hide (by have h := unhide HOt; simpa [trk] using h), HBt⟩
        case round =>
          obtain ⟨i, rfl, hi1, HOi, HBi⟩ := hrel
          by_cases hlt : i < acc.length
          · have hlt1 : (i : Int) < (acc.length : Int) := by omega
            have hia : i < acc.length := by omega
            have hit : i < (trk i acc).length := by rw [trk_len]; exact hia
            obtain ⟨g, cap2, hv2, hg, hc1, hf1⟩ := own_at (unhide HOi) hit
            injection hv2 with e1 e2 e3
            subst e1
            rw [trk_at i acc hia] at hc1
            have HTRM := hide (refTrim_any acc[i].2 wr (by have := ((unhide HSf).2 acc[i] (List.getElem_mem hia)).2; omega))
            have hst := (show wr.ownsRow w.heap.size 41 2 (.slice (some ⟨g, 0, none⟩) (trk i acc).length cap) (trk i acc).length (flatF (trk i acc)) by have h := unhide HOi; rwa [← e2] at h ⊢).stored (i * 2 + 1) (.string (bts (trimL acc[i].2.data.toList)))
            have hst1 := hst.1
            rw [set_flatF _ hit, trk_at i acc hia, show (acc[i].1, bts (trimL acc[i].2.data.toList)) = trB acc[i] from rfl, trk_next i acc hia] at hst1
            have HO9 : Hid ((wr.setCell ⟨g, i * 2 + 1, none⟩ (.string (bts (trimL acc[i].2.data.toList)))).ownsRow w.heap.size 41 2 (.slice (some ⟨g, 0, none⟩) acc.length cap) (trk (i + 1) acc).length (flatF (trk (i + 1) acc))) := hide (by rw [trk_len] at hst1 ⊢; exact hst1)
            have HB9 := hide ((unhide HBi).setCell (p := ⟨g, i * 2 + 1, none⟩) hg (.string (bts (trimL acc[i].2.data.toList))))
            obtain ⟨y, hy⟩ : ∃ y, y = acc[i].2 := ⟨_, rfl⟩
            rw [← hy] at hc1 HTRM HO9 HB9
            generalize bts (trimL y.data.toList) = ty at HTRM HO9 HB9
            clear hst hst1 hy hit e2 e3 HOi HBi HOt HBt
            go_wp2_with fail
            refine (unhide HTRM).mono ?_
            rintro e w5 ⟨rfl, rfl⟩
            clear HTRM
            go_wp2
            exact ⟨⟨i + 1, by go_num, by omega, HO9, HB9⟩, by simp [intOf]; omega⟩
          · have hlt1 : ¬ (i : Int) < (acc.length : Int) := by omega
            have hin : i = acc.length := by omega
            subst hin
            obtain ⟨po1, po2⟩ := parse_out (n := acc.length) (unhide HE) (by omega)
            have HPO := hide (And.intro po1 po2)
            have hrow := rowF_of_own (unhide HOi) (by rw [trk_len]; omega) (by
              intro f hf
              unfold trk at hf
              rcases List.mem_append.mp hf with h | h
              · rw [List.mem_map] at h
                obtain ⟨f0, h0, rfl⟩ := h
                have := (unhide HSf).2 f0 (List.mem_of_mem_take h0)
                have h5 := trimL_len f0.2.data.toList
                rw [sizeL] at h5
                exact ⟨by show f0.1.size ≤ _; omega, by show (bts (trimL f0.2.data.toList)).size ≤ _; rw [size_bts]; omega⟩
              · have := (unhide HSf).2 f (List.mem_of_mem_drop h)
                exact ⟨by omega, by omega⟩)
            have hrow2 := rowF_take (n := acc.length) (cap2 := cap) hrow (by rw [trk_len]; omega)
            rw [trk_take (by omega)] at hrow2
            have HR := hide hrow2
            have hbs : (bts (L.drop k)).size = L.length - k := by rw [size_bts, List.length_drop]
            have hbL : (bts L).size = L.length := size_bts L
            have vv : (L.length : Int) - ((L.length - k : Nat) : Int) = ((k : Nat) : Int) := by omega
            have HVV := hide vv
            clear hrow hrow2 po1 po2 HOi HOt vv
            go_wp2
            go_ret2
            refine ⟨.slice ad acc.length cap, ?_, (acc.take acc.length).map trB, unhide HR, (unhide HPO).1, unhide HBi⟩
            show Ending.returned (.tuple #[.slice ad acc.length cap, .int .i64 ((L.length : Int) - ((L.length - k : Nat) : Int))]) = _
            rw [unhide HVV, (unhide HPO).2]
      · have hb1 : (1024 : Int) < (acc.length : Int) := by omega
        have hcap : (1024 : Int) ≤ (cap : Int) := by omega
        go_wp2
        go_loopw [9, 62] (fun x z wr => ∃ i : Nat, z = .int .i64 i ∧ i ≤ 1024 ∧ Hid (wr.ownsRow w.heap.size 41 2 (.slice ad acc.length cap) (trk i acc).length (flatF (trk i acc))) ∧ Hid (Below w.heap.size w wr)) (fun _ z _ => 1024 - (intOf z).toNat)
        case atStart => exact ⟨0, rfl, Nat.zero_le _, hide (by have h := unhide HOt; simpa [trk] using h), HBt⟩
        case round =>
          obtain ⟨i, rfl, hi1, HOi, HBi⟩ := hrel
          by_cases hlt : i < 1024
          · have hlt1 : (i : Int) < (1024 : Int) := by omega
            have hia : i < acc.length := by omega
            have hit : i < (trk i acc).length := by rw [trk_len]; exact hia
            obtain ⟨g, cap2, hv2, hg, hc1, hf1⟩ := own_at (unhide HOi) hit
            injection hv2 with e1 e2 e3
            subst e1
            rw [trk_at i acc hia] at hc1
            have HTRM := hide (refTrim_any acc[i].2 wr (by have := ((unhide HSf).2 acc[i] (List.getElem_mem hia)).2; omega))
            have hst := (show wr.ownsRow w.heap.size 41 2 (.slice (some ⟨g, 0, none⟩) (trk i acc).length cap) (trk i acc).length (flatF (trk i acc)) by have h := unhide HOi; rwa [← e2] at h ⊢).stored (i * 2 + 1) (.string (bts (trimL acc[i].2.data.toList)))
            have hst1 := hst.1
            rw [set_flatF _ hit, trk_at i acc hia, show (acc[i].1, bts (trimL acc[i].2.data.toList)) = trB acc[i] from rfl, trk_next i acc hia] at hst1
            have HO9 : Hid ((wr.setCell ⟨g, i * 2 + 1, none⟩ (.string (bts (trimL acc[i].2.data.toList)))).ownsRow w.heap.size 41 2 (.slice (some ⟨g, 0, none⟩) acc.length cap) (trk (i + 1) acc).length (flatF (trk (i + 1) acc))) := hide (by rw [trk_len] at hst1 ⊢; exact hst1)
            have HB9 := hide ((unhide HBi).setCell (p := ⟨g, i * 2 + 1, none⟩) hg (.string (bts (trimL acc[i].2.data.toList))))
            obtain ⟨y, hy⟩ : ∃ y, y = acc[i].2 := ⟨_, rfl⟩
            rw [← hy] at hc1 HTRM HO9 HB9
            generalize bts (trimL y.data.toList) = ty at HTRM HO9 HB9
            clear hst hst1 hy hit e2 e3 HOi HBi HOt HBt
            go_wp2_with fail
            refine (unhide HTRM).mono ?_
            rintro e w5 ⟨rfl, rfl⟩
            clear HTRM
            go_wp2
            exact ⟨⟨i + 1, by go_num, by omega, HO9, HB9⟩, by simp [intOf]; omega⟩
          · have hlt1 : ¬ (i : Int) < (1024 : Int) := by omega
            have hin : i = 1024 := by omega
            subst hin
            obtain ⟨po1, po2⟩ := parse_out (n := 1024) (unhide HE) (by omega)
            have HPO := hide (And.intro po1 po2)
            have hrow := rowF_of_own (unhide HOi) (by rw [trk_len]; omega) (by
              intro f hf
              unfold trk at hf
              rcases List.mem_append.mp hf with h | h
              · rw [List.mem_map] at h
                obtain ⟨f0, h0, rfl⟩ := h
                have := (unhide HSf).2 f0 (List.mem_of_mem_take h0)
                have h5 := trimL_len f0.2.data.toList
                rw [sizeL] at h5
                exact ⟨by show f0.1.size ≤ _; omega, by show (bts (trimL f0.2.data.toList)).size ≤ _; rw [size_bts]; omega⟩
              · have := (unhide HSf).2 f (List.mem_of_mem_drop h)
                exact ⟨by omega, by omega⟩)
            have hrow2 := rowF_take (n := 1024) (cap2 := cap) hrow (by rw [trk_len]; omega)
            rw [trk_take (by omega)] at hrow2
            have HR := hide hrow2
            have hbs : (bts (L.drop k)).size = L.length - k := by rw [size_bts, List.length_drop]
            have hbL : (bts L).size = L.length := size_bts L
            have vv : (L.length : Int) - ((L.length - k : Nat) : Int) = ((k : Nat) : Int) := by omega
            have HVV := hide vv
            clear hrow hrow2 po1 po2 HOi HOt vv
            go_wp2
            go_ret2
            refine ⟨.slice ad 1024 cap, ?_, (acc.take 1024).map trB, unhide HR, (unhide HPO).1, unhide HBi⟩
            show Ending.returned (.tuple #[.slice ad 1024 cap, .int .i64 ((L.length : Int) - ((L.length - k : Nat) : Int))]) = _
            rw [unhide HVV, (unhide HPO).2]
    · rw [decide_eq_false hr] at hem
      have HLN := hide (fun W => refLine_any (bts (L.drop k)) W (by rw [size_bts, List.length_drop]; omega))
      rw [toList_bts] at HLN
      have hrne : L.drop k ≠ [] := by intro h; have := congrArg List.length h; rw [List.length_drop] at this; simp at this; omega
      have hn1 := lineN_pos hrne
      have hn2 := lineN_le (L.drop k)
      have hn3 := lineOf_len (L.drop k)
      rw [List.length_drop] at hn2
      rw [List.drop_drop] at HLN
      obtain ⟨ln, hln⟩ : ∃ ln, ln = lineOf (L.drop k) := ⟨_, rfl⟩
      obtain ⟨m, hm⟩ : ∃ m, m = lineN (L.drop k) := ⟨_, rfl⟩
      rw [← hln, ← hm] at HLN
      rw [← hm] at hn1 hn2 hn3
      rw [← hln] at hn3
      have heml := empty_size (bts ln)
      rw [size_bts] at heml
      have HLNE := hide hln
      have HM := hide hm
      have HRNE := hide hrne
      clear hln hm hrne hr
      go_wp2_with fail
      refine (unhide HLN _).mono ?_
      clear HLN
      rintro e w1 ⟨rfl, b1⟩
      have HB1 := hide (belows' (unhide HB) b1)
      have HO1 := hide (own_keep (unhide HO) b1)
      clear b1 HB HO
      by_cases hl0 : ln.length = 0
      · rw [decide_eq_true hl0] at heml
        have hlnil : ln = [] := List.eq_nil_of_length_eq_zero hl0
        have hend := p_stop (j := m) (unhide HI) (fun _ => by rw [← unhide HLNE, hlnil]; rfl) (by rw [unhide HM]; exact parseL_end (by rw [← unhide HLNE, hlnil]))
        have HE := hide hend
        obtain ⟨ad, cap, hu4, hcp⟩ := own_slice2 (unhide HO1)
        subst hu4
        have HOt := HO1
        have HBt := HB1
        have HSf := HS
        clear hend hlnil hl0 HI HS HLNE HM
        have hal : acc.length ≤ 1048576 := by have := (unhide HSf).1; omega
        by_cases hbig : acc.length ≤ 1024
        · have hb1 : ¬ (1024 : Int) < (acc.length : Int) := by omega
          go_wp2
          go_loopw [9, 62] (fun x z wr => ∃ i : Nat, z = .int .i64 i ∧ i ≤ acc.length ∧ Hid (wr.ownsRow w.heap.size 41 2 (.slice ad acc.length cap) (trk i acc).length (flatF (trk i acc))) ∧ Hid (Below w.heap.size w wr)) (fun _ z _ => acc.length - (intOf z).toNat)
          case atStart => exact ⟨0, rfl, Nat.zero_le _, hide (by have h := unhide HOt; simpa [trk] using h), HBt⟩
          case round =>
            obtain ⟨i, rfl, hi1, HOi, HBi⟩ := hrel
            by_cases hlt : i < acc.length
            · have hlt1 : (i : Int) < (acc.length : Int) := by omega
              have hia : i < acc.length := by omega
              have hit : i < (trk i acc).length := by rw [trk_len]; exact hia
              obtain ⟨g, cap2, hv2, hg, hc1, hf1⟩ := own_at (unhide HOi) hit
              injection hv2 with e1 e2 e3
              subst e1
              rw [trk_at i acc hia] at hc1
              have HTRM := hide (refTrim_any acc[i].2 wr (by have := ((unhide HSf).2 acc[i] (List.getElem_mem hia)).2; omega))
              have hst := (show wr.ownsRow w.heap.size 41 2 (.slice (some ⟨g, 0, none⟩) (trk i acc).length cap) (trk i acc).length (flatF (trk i acc)) by have h := unhide HOi; rwa [← e2] at h ⊢).stored (i * 2 + 1) (.string (bts (trimL acc[i].2.data.toList)))
              have hst1 := hst.1
              rw [set_flatF _ hit, trk_at i acc hia, show (acc[i].1, bts (trimL acc[i].2.data.toList)) = trB acc[i] from rfl, trk_next i acc hia] at hst1
              have HO9 : Hid ((wr.setCell ⟨g, i * 2 + 1, none⟩ (.string (bts (trimL acc[i].2.data.toList)))).ownsRow w.heap.size 41 2 (.slice (some ⟨g, 0, none⟩) acc.length cap) (trk (i + 1) acc).length (flatF (trk (i + 1) acc))) := hide (by rw [trk_len] at hst1 ⊢; exact hst1)
              have HB9 := hide ((unhide HBi).setCell (p := ⟨g, i * 2 + 1, none⟩) hg (.string (bts (trimL acc[i].2.data.toList))))
              obtain ⟨y, hy⟩ : ∃ y, y = acc[i].2 := ⟨_, rfl⟩
              rw [← hy] at hc1 HTRM HO9 HB9
              generalize bts (trimL y.data.toList) = ty at HTRM HO9 HB9
              clear hst hst1 hy hit e2 e3 HOi HBi HOt HBt
              go_wp2_with fail
              refine (unhide HTRM).mono ?_
              rintro e w5 ⟨rfl, rfl⟩
              clear HTRM
              go_wp2
              exact ⟨⟨i + 1, by go_num, by omega, HO9, HB9⟩, by simp [intOf]; omega⟩
            · have hlt1 : ¬ (i : Int) < (acc.length : Int) := by omega
              have hin : i = acc.length := by omega
              subst hin
              obtain ⟨po1, po2⟩ := parse_out (n := acc.length) (unhide HE) (by omega)
              have HPO := hide (And.intro po1 po2)
              have hrow := rowF_of_own (unhide HOi) (by rw [trk_len]; omega) (by
                intro f hf
                unfold trk at hf
                rcases List.mem_append.mp hf with h | h
                · rw [List.mem_map] at h
                  obtain ⟨f0, h0, rfl⟩ := h
                  have := (unhide HSf).2 f0 (List.mem_of_mem_take h0)
                  have h5 := trimL_len f0.2.data.toList
                  rw [sizeL] at h5
                  exact ⟨by show f0.1.size ≤ _; omega, by show (bts (trimL f0.2.data.toList)).size ≤ _; rw [size_bts]; omega⟩
                · have := (unhide HSf).2 f (List.mem_of_mem_drop h)
                  exact ⟨by omega, by omega⟩)
              have hrow2 := rowF_take (n := acc.length) (cap2 := cap) hrow (by rw [trk_len]; omega)
              rw [trk_take (by omega)] at hrow2
              have HR := hide hrow2
              have hbs : (bts (L.drop (k + m))).size = L.length - (k + m) := by rw [size_bts, List.length_drop]
              have hbL : (bts L).size = L.length := size_bts L
              have vv : (L.length : Int) - ((L.length - (k + m) : Nat) : Int) = (((k + m) : Nat) : Int) := by omega
              have HVV := hide vv
              clear hrow hrow2 po1 po2 HOi HOt vv
              go_wp2
              go_ret2
              refine ⟨.slice ad acc.length cap, ?_, (acc.take acc.length).map trB, unhide HR, (unhide HPO).1, unhide HBi⟩
              show Ending.returned (.tuple #[.slice ad acc.length cap, .int .i64 ((L.length : Int) - ((L.length - (k + m) : Nat) : Int))]) = _
              rw [unhide HVV, (unhide HPO).2]
        · have hb1 : (1024 : Int) < (acc.length : Int) := by omega
          have hcap : (1024 : Int) ≤ (cap : Int) := by omega
          go_wp2
          go_loopw [9, 62] (fun x z wr => ∃ i : Nat, z = .int .i64 i ∧ i ≤ 1024 ∧ Hid (wr.ownsRow w.heap.size 41 2 (.slice ad acc.length cap) (trk i acc).length (flatF (trk i acc))) ∧ Hid (Below w.heap.size w wr)) (fun _ z _ => 1024 - (intOf z).toNat)
          case atStart => exact ⟨0, rfl, Nat.zero_le _, hide (by have h := unhide HOt; simpa [trk] using h), HBt⟩
          case round =>
            obtain ⟨i, rfl, hi1, HOi, HBi⟩ := hrel
            by_cases hlt : i < 1024
            · have hlt1 : (i : Int) < (1024 : Int) := by omega
              have hia : i < acc.length := by omega
              have hit : i < (trk i acc).length := by rw [trk_len]; exact hia
              obtain ⟨g, cap2, hv2, hg, hc1, hf1⟩ := own_at (unhide HOi) hit
              injection hv2 with e1 e2 e3
              subst e1
              rw [trk_at i acc hia] at hc1
              have HTRM := hide (refTrim_any acc[i].2 wr (by have := ((unhide HSf).2 acc[i] (List.getElem_mem hia)).2; omega))
              have hst := (show wr.ownsRow w.heap.size 41 2 (.slice (some ⟨g, 0, none⟩) (trk i acc).length cap) (trk i acc).length (flatF (trk i acc)) by have h := unhide HOi; rwa [← e2] at h ⊢).stored (i * 2 + 1) (.string (bts (trimL acc[i].2.data.toList)))
              have hst1 := hst.1
              rw [set_flatF _ hit, trk_at i acc hia, show (acc[i].1, bts (trimL acc[i].2.data.toList)) = trB acc[i] from rfl, trk_next i acc hia] at hst1
              have HO9 : Hid ((wr.setCell ⟨g, i * 2 + 1, none⟩ (.string (bts (trimL acc[i].2.data.toList)))).ownsRow w.heap.size 41 2 (.slice (some ⟨g, 0, none⟩) acc.length cap) (trk (i + 1) acc).length (flatF (trk (i + 1) acc))) := hide (by rw [trk_len] at hst1 ⊢; exact hst1)
              have HB9 := hide ((unhide HBi).setCell (p := ⟨g, i * 2 + 1, none⟩) hg (.string (bts (trimL acc[i].2.data.toList))))
              obtain ⟨y, hy⟩ : ∃ y, y = acc[i].2 := ⟨_, rfl⟩
              rw [← hy] at hc1 HTRM HO9 HB9
              generalize bts (trimL y.data.toList) = ty at HTRM HO9 HB9
              clear hst hst1 hy hit e2 e3 HOi HBi HOt HBt
              go_wp2_with fail
              refine (unhide HTRM).mono ?_
              rintro e w5 ⟨rfl, rfl⟩
              clear HTRM
              go_wp2
              exact ⟨⟨i + 1, by go_num, by omega, HO9, HB9⟩, by simp [intOf]; omega⟩
            · have hlt1 : ¬ (i : Int) < (1024 : Int) := by omega
              have hin : i = 1024 := by omega
              subst hin
              obtain ⟨po1, po2⟩ := parse_out (n := 1024) (unhide HE) (by omega)
              have HPO := hide (And.intro po1 po2)
              have hrow := rowF_of_own (unhide HOi) (by rw [trk_len]; omega) (by
                intro f hf
                unfold trk at hf
                rcases List.mem_append.mp hf with h | h
                · rw [List.mem_map] at h
                  obtain ⟨f0, h0, rfl⟩ := h
                  have := (unhide HSf).2 f0 (List.mem_of_mem_take h0)
                  have h5 := trimL_len f0.2.data.toList
                  rw [sizeL] at h5
                  exact ⟨by show f0.1.size ≤ _; omega, by show (bts (trimL f0.2.data.toList)).size ≤ _; rw [size_bts]; omega⟩
                · have := (unhide HSf).2 f (List.mem_of_mem_drop h)
                  exact ⟨by omega, by omega⟩)
              have hrow2 := rowF_take (n := 1024) (cap2 := cap) hrow (by rw [trk_len]; omega)
              rw [trk_take (by omega)] at hrow2
              have HR := hide hrow2
              have hbs : (bts (L.drop (k + m))).size = L.length - (k + m) := by rw [size_bts, List.length_drop]
              have hbL : (bts L).size = L.length := size_bts L
              have vv : (L.length : Int) - ((L.length - (k + m) : Nat) : Int) = (((k + m) : Nat) : Int) := by omega
              have HVV := hide vv
              clear hrow hrow2 po1 po2 HOi HOt vv
              go_wp2
              go_ret2
              refine ⟨.slice ad 1024 cap, ?_, (acc.take 1024).map trB, unhide HR, (unhide HPO).1, unhide HBi⟩
              show Ending.returned (.tuple #[.slice ad 1024 cap, .int .i64 ((L.length : Int) - ((L.length - (k + m) : Nat) : Int))]) = _
              rw [unhide HVV, (unhide HPO).2]
      · rw [decide_eq_false hl0] at heml
        have HNM := hide (fun W => refNamed_any (bts ln) W (by rw [size_bts]; omega))
        rw [toList_bts] at HNM
        obtain ⟨nn, hnn⟩ : ∃ nn, nn = (nmdF ln).getD [] := ⟨_, rfl⟩
        rw [← hnn] at HNM
        have HNN := hide hnn
        clear hnn
        go_wp2_with fail
        refine (unhide HNM _).mono ?_
        rintro e w2 ⟨rfl, rfl⟩
        clear HNM
        have hsz : (bts ln).size = ln.length := size_bts ln
        have hpos : 0 < (bts ln).size := by omega
        have hpos1 : (0 : Int) < ((bts ln).size : Int) := by omega
        have HBL := hide (refBlank_any (bts ln)[0] w2)
        have hgo : isB (bts ln)[0] = goesOn ln := by
          cases ln with
          | nil => simp at hl0
          | cons c r => rfl
        rw [hgo] at HBL
        obtain ⟨gb, hgb⟩ : ∃ gb, gb = goesOn ln := ⟨_, rfl⟩
        rw [← hgb] at HBL
        have HGB := hide hgb
        obtain ⟨ad, cap, hu4, hcp⟩ := own_slice2 (unhide HO1)
        have hemn := empty_size (bts nn)
        rw [size_bts] at hemn
        clear hgb hgo
        by_cases hcase : gb = true ∧ 0 < acc.length
        · obtain ⟨hg1, ha1⟩ := hcase
          subst hg1
          obtain ⟨j, hj⟩ : ∃ j, acc.length = j + 1 := ⟨acc.length - 1, by omega⟩
          obtain ⟨g, cap2, hv2, hg, hc1, hf1⟩ := own_at (unhide HO1) (j := j) (by omega)
          have hjl : j < acc.length := by omega
          have hsz2 := ((unhide HS).2 acc[j] (List.getElem_mem hjl)).2
          have hsz1 := ((unhide HS).2 acc[j] (List.getElem_mem hjl)).1
          have hacc : acc = acc.take j ++ [acc[j]] := by
            rw [← List.take_succ_eq_append_getElem hjl, List.take_of_length_le (by omega)]
          have hnew : acc.set j (acc[j].1, acc[j].2 ++ bts ln) = acc.take j ++ [(acc[j].1, acc[j].2 ++ bts ln)] := by
            rw [List.set_eq_take_append_cons_drop, if_pos hjl, List.drop_of_length_le (by omega)]
          have hpi := unhide HI
          rw [hacc, List.map_append, List.map_cons, List.map_nil] at hpi
          have hpg := p_go hpi (by rw [← unhide HLNE]; exact (unhide HGB).symm)
          rw [← unhide HLNE, ← unhide HM] at hpg
          have HI2 : Hid (PInv L ((acc.set j (acc[j].1, acc[j].2 ++ bts ln)).map lst) (k + m)) := hide (by
            rw [hnew, List.map_append, List.map_cons, List.map_nil]
            have e : lst (acc[j].1, acc[j].2 ++ bts ln) = (acc[j].1.data.toList, acc[j].2.data.toList ++ ln) := by simp [lst, bts]
            rw [e]
            exact hpg)
          have HS2 : Hid (SInv (acc.set j (acc[j].1, acc[j].2 ++ bts ln)) (k + m)) := hide (by
            refine ⟨by rw [List.length_set]; have := (unhide HS).1; omega, fun f hf => ?_⟩
            rcases List.mem_or_eq_of_mem_set hf with h | h
            · have := (unhide HS).2 f h
              exact ⟨by omega, by omega⟩
            · rw [h]
              show acc[j].1.size ≤ k + m ∧ (acc[j].2 ++ bts ln).size ≤ k + m
              rw [ByteArray.size_append, size_bts]
              exact ⟨by omega, by omega⟩)
          rw [hv2] at hu4
          have hst := (show w2.ownsRow w.heap.size 41 2 (.slice (some ⟨g, 0, none⟩) acc.length cap2) acc.length (flatF acc) by rw [← hv2]; exact unhide HO1).stored (j * 2 + 1) (.string (acc[j].2 ++ bts ln))
          have hst1 := hst.1
          rw [set_flatF acc hjl] at hst1
          have HO2 : Hid ((w2.setCell ⟨g, j * 2 + 1, none⟩ (.string (acc[j].2 ++ bts ln))).ownsRow w.heap.size 41 2 (.slice (some ⟨g, 0, none⟩) acc.length cap2) (acc.set j (acc[j].1, acc[j].2 ++ bts ln)).length (flatF (acc.set j (acc[j].1, acc[j].2 ++ bts ln)))) := hide (by rw [List.length_set]; exact hst1)
          have HB2 := hide ((unhide HB1).setCell (p := ⟨g, j * 2 + 1, none⟩) hg (.string (acc[j].2 ++ bts ln)))
          have v1 : (acc.length : Int) - 1 = (j : Int) := by omega
          have v2 : (j : Int) < (acc.length : Int) := by omega
          have v3 : (0 : Int) < (acc.length : Int) := by omega
          have v4 : 0 < acc.length := by omega
          have v5 : wrap64 (j : Int) = (j : Int) := by have := (unhide HS).1; unfold wrap64; omega
          have HL2 : Hid (acc.length = (acc.set j (acc[j].1, acc[j].2 ++ bts ln)).length) := hide (by rw [List.length_set])
          have hszn : acc[j].2.size + (bts ln).size ≤ 4194304 := by rw [hsz]; omega
          obtain ⟨acc2, hacc2⟩ : ∃ acc2, acc2 = acc.set j (acc[j].1, acc[j].2 ++ bts ln) := ⟨_, rfl⟩
          rw [← hacc2] at HI2 HS2 HO2 HL2
          obtain ⟨y, hy⟩ : ∃ y, y = acc[j].2 := ⟨_, rfl⟩
          rw [← hy] at hc1 HO2 HB2 hszn
          subst hv2
          clear hst hst1 hpg hpi hnew hacc hsz1 hsz2 hacc2 hy HO1 HB1 HI HS hu4 hcp hj ha1 hemn
          go_wp2_with fail
          refine (unhide HBL).mono ?_
          rintro e w3 ⟨rfl, rfl⟩
          clear HBL
          go_wp2
          exact ⟨⟨k + m, acc2, by first | rfl | rw [List.drop_drop], by omega, HI2, HS2, HO2, HB2⟩, by simp only [strSz]; rw [size_bts, size_bts, List.length_drop, List.length_drop]; omega⟩
        · have hnot : gb = true → acc.length = 0 := by intro h; by_cases h2 : acc.length = 0; exact h2; exact absurd ⟨h, by omega⟩ hcase
          clear hcase
          obtain ⟨hg2, HPN⟩ : (∀ _ : nn.length = 0, Hid (PEnd L (acc.map lst) (k + 0))) ∧ (nn.length ≠ 0 → ∃ v, Hid (PInv L (acc.map lst ++ [(nn, v)]) (k + m)) ∧ ln.drop (nn.length + 1) = v ∧ nn.length + 1 ≤ ln.length) := by
            have hlne : lineOf (L.drop k) ≠ [] := by rw [← unhide HLNE]; intro h; rw [h] at hl0; exact hl0 rfl
            constructor
            · intro h0
              have hnil : (nmdF (lineOf (L.drop k))).getD [] = [] := by rw [← unhide HLNE, ← unhide HNN]; exact List.eq_nil_of_length_eq_zero h0
              refine hide (p_stop (unhide HI) ?_ (parse_no hlne hnil))
              intro hne
              rw [← unhide HLNE, ← unhide HGB]
              cases hgb2 : gb with
              | false => rfl
              | true => exact absurd (List.eq_nil_of_length_eq_zero (hnot hgb2)) (by intro h; apply hne; rw [h]; rfl)
            · intro h0
              obtain ⟨v, h1, h2, h3, h4⟩ := nmd_some (l := ln) (by rw [← unhide HNN]; intro h; rw [h] at h0; exact h0 rfl)
              rw [← unhide HNN] at h1 h2 h4
              have hcl := colon_len h1
              have hp := p_new (unhide HI) (by rw [← unhide HLNE]; exact h3) hlne (by rw [← unhide HLNE]; exact h1) h2
              rw [← unhide HM] at hp
              exact ⟨v, hide hp, h4, by omega⟩
          by_cases hn0 : nn.length = 0
          · have HE := hg2 hn0
            rw [decide_eq_true hn0] at hemn
            clear hg2 HPN HI
            rw [Nat.add_zero] at HE
            have HOt := HO1
            have HBt := HB1
            have HSf := HS
            subst hu4
            have hal : acc.length ≤ 1048576 := by have := (unhide HSf).1; omega
            cases hgc : gb with
            | true =>
              have hac := hnot hgc
              have hac0 : ¬ (0 : Int) < (acc.length : Int) := by omega
              have hac1 : ¬ 0 < acc.length := by omega
              rw [hgc] at HBL
              have HAC := hide hac
              clear hnot hgc hac
              have hb1 : ¬ (1024 : Int) < (acc.length : Int) := by omega
              go_wp2_with fail
              refine (unhide HBL).mono ?_
              rintro e w3 ⟨rfl, rfl⟩
              clear HBL
              go_wp2
              go_loopw [9, 62] (fun x z wr => ∃ i : Nat, z = .int .i64 i ∧ i ≤ acc.length ∧ Hid (wr.ownsRow w.heap.size 41 2 (.slice ad acc.length cap) (trk i acc).length (flatF (trk i acc))) ∧ Hid (Below w.heap.size w wr)) (fun _ z _ => acc.length - (intOf z).toNat)
              case atStart => exact ⟨0, rfl, Nat.zero_le _, hide (by have h := unhide HOt; simpa [trk] using h), HBt⟩
              case round =>
                obtain ⟨i, rfl, hi1, HOi, HBi⟩ := hrel
                by_cases hlt : i < acc.length
                · exact absurd (unhide HAC) (by omega)
                · have hlt1 : ¬ (i : Int) < (acc.length : Int) := by omega
                  have hin : i = acc.length := by omega
                  subst hin
                  obtain ⟨po1, po2⟩ := parse_out (n := acc.length) (unhide HE) (by omega)
                  have HPO := hide (And.intro po1 po2)
                  have hrow := rowF_of_own (unhide HOi) (by rw [trk_len]; omega) (by
                    intro f hf
                    unfold trk at hf
                    rcases List.mem_append.mp hf with h | h
                    · rw [List.mem_map] at h
                      obtain ⟨f0, h0, rfl⟩ := h
                      have := (unhide HSf).2 f0 (List.mem_of_mem_take h0)
                      have h5 := trimL_len f0.2.data.toList
                      rw [sizeL] at h5
                      exact ⟨by show f0.1.size ≤ _; omega, by show (bts (trimL f0.2.data.toList)).size ≤ _; rw [size_bts]; omega⟩
                    · have := (unhide HSf).2 f (List.mem_of_mem_drop h)
                      exact ⟨by omega, by omega⟩)
                  have hrow2 := rowF_take (n := acc.length) (cap2 := cap) hrow (by rw [trk_len]; omega)
                  rw [trk_take (by omega)] at hrow2
                  have HR := hide hrow2
                  have hbs : (bts (L.drop k)).size = L.length - k := by rw [size_bts, List.length_drop]
                  have hbL : (bts L).size = L.length := size_bts L
                  have vv : (L.length : Int) - ((L.length - k : Nat) : Int) = ((k : Nat) : Int) := by omega
                  have HVV := hide vv
                  clear hrow hrow2 po1 po2 HOi HOt vv
                  go_wp2
                  go_ret2
                  refine ⟨.slice ad acc.length cap, ?_, (acc.take acc.length).map trB, unhide HR, (unhide HPO).1, unhide HBi⟩
                  show Ending.returned (.tuple #[.slice ad acc.length cap, .int .i64 ((L.length : Int) - ((L.length - k : Nat) : Int))]) = _
                  rw [unhide HVV, (unhide HPO).2]
            | false =>
              rw [hgc] at HBL
              clear hnot hgc
              by_cases hbig : acc.length ≤ 1024
              · have hb1 : ¬ (1024 : Int) < (acc.length : Int) := by omega
                go_wp2_with fail
                refine (unhide HBL).mono ?_
                rintro e w3 ⟨rfl, rfl⟩
                clear HBL
                go_wp2
                go_loopw [9, 62] (fun x z wr => ∃ i : Nat, z = .int .i64 i ∧ i ≤ acc.length ∧ Hid (wr.ownsRow w.heap.size 41 2 (.slice ad acc.length cap) (trk i acc).length (flatF (trk i acc))) ∧ Hid (Below w.heap.size w wr)) (fun _ z _ => acc.length - (intOf z).toNat)
                case atStart => exact ⟨0, rfl, Nat.zero_le _, hide (by have h := unhide HOt; simpa [trk] using h), HBt⟩
                case round =>
                  obtain ⟨i, rfl, hi1, HOi, HBi⟩ := hrel
                  by_cases hlt : i < acc.length
                  · have hlt1 : (i : Int) < (acc.length : Int) := by omega
                    have hia : i < acc.length := by omega
                    have hit : i < (trk i acc).length := by rw [trk_len]; exact hia
                    obtain ⟨g, cap2, hv2, hg, hc1, hf1⟩ := own_at (unhide HOi) hit
                    injection hv2 with e1 e2 e3
                    subst e1
                    rw [trk_at i acc hia] at hc1
                    have HTRM := hide (refTrim_any acc[i].2 wr (by have := ((unhide HSf).2 acc[i] (List.getElem_mem hia)).2; omega))
                    have hst := (show wr.ownsRow w.heap.size 41 2 (.slice (some ⟨g, 0, none⟩) (trk i acc).length cap) (trk i acc).length (flatF (trk i acc)) by have h := unhide HOi; rwa [← e2] at h ⊢).stored (i * 2 + 1) (.string (bts (trimL acc[i].2.data.toList)))
                    have hst1 := hst.1
                    rw [set_flatF _ hit, trk_at i acc hia, show (acc[i].1, bts (trimL acc[i].2.data.toList)) = trB acc[i] from rfl, trk_next i acc hia] at hst1
                    have HO9 : Hid ((wr.setCell ⟨g, i * 2 + 1, none⟩ (.string (bts (trimL acc[i].2.data.toList)))).ownsRow w.heap.size 41 2 (.slice (some ⟨g, 0, none⟩) acc.length cap) (trk (i + 1) acc).length (flatF (trk (i + 1) acc))) := hide (by rw [trk_len] at hst1 ⊢; exact hst1)
                    have HB9 := hide ((unhide HBi).setCell (p := ⟨g, i * 2 + 1, none⟩) hg (.string (bts (trimL acc[i].2.data.toList))))
                    obtain ⟨y, hy⟩ : ∃ y, y = acc[i].2 := ⟨_, rfl⟩
                    rw [← hy] at hc1 HTRM HO9 HB9
                    generalize bts (trimL y.data.toList) = ty at HTRM HO9 HB9
                    clear hst hst1 hy hit e2 e3 HOi HBi HOt HBt
                    go_wp2_with fail
                    refine (unhide HTRM).mono ?_
                    rintro e w5 ⟨rfl, rfl⟩
                    clear HTRM
                    go_wp2
                    exact ⟨⟨i + 1, by go_num, by omega, HO9, HB9⟩, by simp [intOf]; omega⟩
                  · have hlt1 : ¬ (i : Int) < (acc.length : Int) := by omega
                    have hin : i = acc.length := by omega
                    subst hin
                    obtain ⟨po1, po2⟩ := parse_out (n := acc.length) (unhide HE) (by omega)
                    have HPO := hide (And.intro po1 po2)
                    have hrow := rowF_of_own (unhide HOi) (by rw [trk_len]; omega) (by
                      intro f hf
                      unfold trk at hf
                      rcases List.mem_append.mp hf with h | h
                      · rw [List.mem_map] at h
                        obtain ⟨f0, h0, rfl⟩ := h
                        have := (unhide HSf).2 f0 (List.mem_of_mem_take h0)
                        have h5 := trimL_len f0.2.data.toList
                        rw [sizeL] at h5
                        exact ⟨by show f0.1.size ≤ _; omega, by show (bts (trimL f0.2.data.toList)).size ≤ _; rw [size_bts]; omega⟩
                      · have := (unhide HSf).2 f (List.mem_of_mem_drop h)
                        exact ⟨by omega, by omega⟩)
                    have hrow2 := rowF_take (n := acc.length) (cap2 := cap) hrow (by rw [trk_len]; omega)
                    rw [trk_take (by omega)] at hrow2
                    have HR := hide hrow2
                    have hbs : (bts (L.drop k)).size = L.length - k := by rw [size_bts, List.length_drop]
                    have hbL : (bts L).size = L.length := size_bts L
                    have vv : (L.length : Int) - ((L.length - k : Nat) : Int) = ((k : Nat) : Int) := by omega
                    have HVV := hide vv
                    clear hrow hrow2 po1 po2 HOi HOt vv
                    go_wp2
                    go_ret2
                    refine ⟨.slice ad acc.length cap, ?_, (acc.take acc.length).map trB, unhide HR, (unhide HPO).1, unhide HBi⟩
                    show Ending.returned (.tuple #[.slice ad acc.length cap, .int .i64 ((L.length : Int) - ((L.length - k : Nat) : Int))]) = _
                    rw [unhide HVV, (unhide HPO).2]
              · have hb1 : (1024 : Int) < (acc.length : Int) := by omega
                have hcap : (1024 : Int) ≤ (cap : Int) := by omega
                go_wp2_with fail
                refine (unhide HBL).mono ?_
                rintro e w3 ⟨rfl, rfl⟩
                clear HBL
                go_wp2
                go_loopw [9, 62] (fun x z wr => ∃ i : Nat, z = .int .i64 i ∧ i ≤ 1024 ∧ Hid (wr.ownsRow w.heap.size 41 2 (.slice ad acc.length cap) (trk i acc).length (flatF (trk i acc))) ∧ Hid (Below w.heap.size w wr)) (fun _ z _ => 1024 - (intOf z).toNat)
                case atStart => exact ⟨0, rfl, Nat.zero_le _, hide (by have h := unhide HOt; simpa [trk] using h), HBt⟩
                case round =>
                  obtain ⟨i, rfl, hi1, HOi, HBi⟩ := hrel
                  by_cases hlt : i < 1024
                  · have hlt1 : (i : Int) < (1024 : Int) := by omega
                    have hia : i < acc.length := by omega
                    have hit : i < (trk i acc).length := by rw [trk_len]; exact hia
                    obtain ⟨g, cap2, hv2, hg, hc1, hf1⟩ := own_at (unhide HOi) hit
                    injection hv2 with e1 e2 e3
                    subst e1
                    rw [trk_at i acc hia] at hc1
                    have HTRM := hide (refTrim_any acc[i].2 wr (by have := ((unhide HSf).2 acc[i] (List.getElem_mem hia)).2; omega))
                    have hst := (show wr.ownsRow w.heap.size 41 2 (.slice (some ⟨g, 0, none⟩) (trk i acc).length cap) (trk i acc).length (flatF (trk i acc)) by have h := unhide HOi; rwa [← e2] at h ⊢).stored (i * 2 + 1) (.string (bts (trimL acc[i].2.data.toList)))
                    have hst1 := hst.1
                    rw [set_flatF _ hit, trk_at i acc hia, show (acc[i].1, bts (trimL acc[i].2.data.toList)) = trB acc[i] from rfl, trk_next i acc hia] at hst1
                    have HO9 : Hid ((wr.setCell ⟨g, i * 2 + 1, none⟩ (.string (bts (trimL acc[i].2.data.toList)))).ownsRow w.heap.size 41 2 (.slice (some ⟨g, 0, none⟩) acc.length cap) (trk (i + 1) acc).length (flatF (trk (i + 1) acc))) := hide (by rw [trk_len] at hst1 ⊢; exact hst1)
                    have HB9 := hide ((unhide HBi).setCell (p := ⟨g, i * 2 + 1, none⟩) hg (.string (bts (trimL acc[i].2.data.toList))))
                    obtain ⟨y, hy⟩ : ∃ y, y = acc[i].2 := ⟨_, rfl⟩
                    rw [← hy] at hc1 HTRM HO9 HB9
                    generalize bts (trimL y.data.toList) = ty at HTRM HO9 HB9
                    clear hst hst1 hy hit e2 e3 HOi HBi HOt HBt
                    go_wp2_with fail
                    refine (unhide HTRM).mono ?_
                    rintro e w5 ⟨rfl, rfl⟩
                    clear HTRM
                    go_wp2
                    exact ⟨⟨i + 1, by go_num, by omega, HO9, HB9⟩, by simp [intOf]; omega⟩
                  · have hlt1 : ¬ (i : Int) < (1024 : Int) := by omega
                    have hin : i = 1024 := by omega
                    subst hin
                    obtain ⟨po1, po2⟩ := parse_out (n := 1024) (unhide HE) (by omega)
                    have HPO := hide (And.intro po1 po2)
                    have hrow := rowF_of_own (unhide HOi) (by rw [trk_len]; omega) (by
                      intro f hf
                      unfold trk at hf
                      rcases List.mem_append.mp hf with h | h
                      · rw [List.mem_map] at h
                        obtain ⟨f0, h0, rfl⟩ := h
                        have := (unhide HSf).2 f0 (List.mem_of_mem_take h0)
                        have h5 := trimL_len f0.2.data.toList
                        rw [sizeL] at h5
                        exact ⟨by show f0.1.size ≤ _; omega, by show (bts (trimL f0.2.data.toList)).size ≤ _; rw [size_bts]; omega⟩
                      · have := (unhide HSf).2 f (List.mem_of_mem_drop h)
                        exact ⟨by omega, by omega⟩)
                    have hrow2 := rowF_take (n := 1024) (cap2 := cap) hrow (by rw [trk_len]; omega)
                    rw [trk_take (by omega)] at hrow2
                    have HR := hide hrow2
                    have hbs : (bts (L.drop k)).size = L.length - k := by rw [size_bts, List.length_drop]
                    have hbL : (bts L).size = L.length := size_bts L
                    have vv : (L.length : Int) - ((L.length - k : Nat) : Int) = ((k : Nat) : Int) := by omega
                    have HVV := hide vv
                    clear hrow hrow2 po1 po2 HOi HOt vv
                    go_wp2
                    go_ret2
                    refine ⟨.slice ad 1024 cap, ?_, (acc.take 1024).map trB, unhide HR, (unhide HPO).1, unhide HBi⟩
                    show Ending.returned (.tuple #[.slice ad 1024 cap, .int .i64 ((L.length : Int) - ((L.length - k : Nat) : Int))]) = _
                    rw [unhide HVV, (unhide HPO).2]
          · obtain ⟨v, HI2, hdv, hnl⟩ := HPN hn0
            rw [decide_eq_false hn0] at hemn
            have hse : (bts ln).extract (nn.length + 1) (bts ln).size = bts v := ext_list (by rw [toList_from, toList_bts, toList_bts, hdv])
            have hsl1 : ((bts nn).size : Int) = (nn.length : Int) := by rw [size_bts]
            have hvl : v.length ≤ m := by rw [← hdv, List.length_drop]; omega
            have HS2 : Hid (SInv (acc ++ [(bts nn, bts v)]) (k + m)) := hide (by
              refine ⟨by rw [List.length_append]; have := (unhide HS).1; simp; omega, fun f hf => ?_⟩
              rcases List.mem_append.mp hf with h | h
              · have := (unhide HS).2 f h
                exact ⟨by omega, by omega⟩
              · simp only [List.mem_singleton] at h
                rw [h]
                show (bts nn).size ≤ k + m ∧ (bts v).size ≤ k + m
                rw [size_bts, size_bts]
                exact ⟨by omega, by omega⟩)
            have hsf := fun W => slice_from (bts ln) ((nn.length : Int) + 1) (nn.length + 1) (by omega) (by rw [hsz]; omega) W
            rw [hse] at hsf
            have hal : acc.length ≤ 1048576 := by have := (unhide HS).1; omega
            have hnn1 : nn.length ≤ 1048576 := by omega
            clear hg2 HPN HI hse hdv HS
            subst hu4
            cases hgc : gb with
            | true =>
              have hac0 : ¬ (0 : Int) < (acc.length : Int) := by have := hnot hgc; omega
              have hac1 : ¬ 0 < acc.length := by have := hnot hgc; omega
              rw [hgc] at HBL
              clear hnot hgc
              have hown6 := unhide HO1
              have hz6 := (unhide HB1).size
              go_wp2_with fail
              refine (unhide HBL).mono ?_
              rintro e w3 ⟨rfl, rfl⟩
              clear HBL
              go_wp2_with (at_builtin; refine wpList_append_own _ rfl _ _ 22 rfl w.heap.size 41 i0 (.agg #[.string ByteArray.empty, .string ByteArray.empty]) 2 32 Tryd.underlying22 hi hz0 hz1 hz2 rfl (by decide) _ _ _ rfl (hown6.alloc _) ⟨w3.heap.size, 0, none⟩ 1 1 [.string (bts nn), .string (bts v)] rfl rfl (two_cells _ _ _ _) (by intro u hu; simp at hu; rcases hu with rfl | rfl <;> rfl) (by unfold maxLen; omega) (by omega) (by simp; omega) ?_)
              intro v' w7 hown7 hgrow _
              have HB7 := hide (own_up hown6 hgrow (unhide HB1) hz6)
              have HO7 := hide hown7
              clear hown6 hown7 hgrow
              go_wp2
              refine ⟨⟨k + m, acc ++ [(bts nn, bts v)], by first | rfl | rw [List.drop_drop], by omega, ?_, HS2, ?_, HB7⟩, by simp only [strSz]; rw [size_bts, size_bts, List.length_drop, List.length_drop]; omega⟩
              · rw [List.map_append, List.map_cons, List.map_nil, show lst (bts nn, bts v) = (nn, v) by simp [lst, toList_bts]]
                exact HI2
              · have h7 := unhide HO7
                rw [show flatF acc ++ [.string (bts nn), .string (bts v)] = flatF (acc ++ [(bts nn, bts v)]) by rw [flatF_append]; rfl] at h7
                exact hide (by simpa using h7)
            | false =>
              rw [hgc] at HBL
              clear hnot hgc
              have hown6 := unhide HO1
              have hz6 := (unhide HB1).size
              go_wp2_with fail
              refine (unhide HBL).mono ?_
              rintro e w3 ⟨rfl, rfl⟩
              clear HBL
              go_wp2_with (at_builtin; refine wpList_append_own _ rfl _ _ 22 rfl w.heap.size 41 i0 (.agg #[.string ByteArray.empty, .string ByteArray.empty]) 2 32 Tryd.underlying22 hi hz0 hz1 hz2 rfl (by decide) _ _ _ rfl (hown6.alloc _) ⟨w3.heap.size, 0, none⟩ 1 1 [.string (bts nn), .string (bts v)] rfl rfl (two_cells _ _ _ _) (by intro u hu; simp at hu; rcases hu with rfl | rfl <;> rfl) (by unfold maxLen; omega) (by omega) (by simp; omega) ?_)
              intro v' w7 hown7 hgrow _
              have HB7 := hide (own_up hown6 hgrow (unhide HB1) hz6)
              have HO7 := hide hown7
              clear hown6 hown7 hgrow
              go_wp2
              refine ⟨⟨k + m, acc ++ [(bts nn, bts v)], by first | rfl | rw [List.drop_drop], by omega, ?_, HS2, ?_, HB7⟩, by simp only [strSz]; rw [size_bts, size_bts, List.length_drop, List.length_drop]; omega⟩
              · rw [List.map_append, List.map_cons, List.map_nil, show lst (bts nn, bts v) = (nn, v) by simp [lst, toList_bts]]
                exact HI2
              · have h7 := unhide HO7
                rw [show flatF acc ++ [.string (bts nn), .string (bts v)] = flatF (acc ++ [(bts nn, bts v)]) by rw [flatF_append]; rfl] at h7
                exact hide (by simpa using h7)
end Go.Proofs.YtmlfjbfbpnnlkaaDoor
