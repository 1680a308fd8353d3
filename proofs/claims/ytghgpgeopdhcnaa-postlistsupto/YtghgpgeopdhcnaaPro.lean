/-
  What the document's Or of layer 13 does, over this seat's program.
-/
import Derived.Test.YtghgpgeopdhcnaaPrp
set_option linter.unusedVariables false
namespace Go.Proofs.Ytghgpgeopdhcnaa
open Go.RowKit Go.Proofs.Num Go.Proofs.Dct Go.Proofs.Pst

/-- How many numbers some lists have. -/
def tot (ls : List (List Nat)) : Nat := (ls.map List.length).sum
theorem tot_take (ls : List (List Nat)) (k : Nat) : tot (ls.take k) ≤ tot ls := by
  induction ls generalizing k with
  | nil => simp [tot]
  | cons x r ih =>
    cases k with
    | zero => simp [tot]
    | succ k =>
      have := ih k
      simp only [tot, List.take_succ_cons, List.map_cons, List.sum_cons] at this ⊢
      omega
theorem tot_next (ls : List (List Nat)) (k : Nat) (h : k < ls.length) : tot (ls.take (k + 1)) = tot (ls.take k) + ls[k].length := by
  unfold tot
  rw [List.take_succ_eq_append_getElem h, List.map_append, List.sum_append]
  simp
theorem putO_len (l : List Nat) (n : Nat) : (putO l n).length ≤ l.length + 1 := by
  induction l with
  | nil => simp [putO]
  | cons x r ih =>
    rw [putO]
    split
    · simp only [List.length_cons]; omega
    · split
      · simp
      · simp
theorem foldO_len (l : List Nat) : ∀ o : List Nat, (l.foldl putO o).length ≤ o.length + l.length := by
  induction l with
  | nil => intro o; simp
  | cons x r ih =>
    intro o
    have h1 := ih (putO o x)
    have h2 := putO_len o x
    simp only [List.foldl_cons, List.length_cons]
    omega
def foldA (ls : List (List Nat)) : List Nat := ls.foldl (fun o l => l.foldl putO o) []
theorem foldA_len (ls : List (List Nat)) : (foldA ls).length ≤ tot ls := by
  have go : ∀ (ls : List (List Nat)) (o : List Nat), (ls.foldl (fun o l => l.foldl putO o) o).length ≤ o.length + tot ls := by
    intro ls
    induction ls with
    | nil => intro o; simp [tot]
    | cons x r ih =>
      intro o
      have h1 := ih (x.foldl putO o)
      have h2 := foldO_len x o
      simp only [List.foldl_cons, tot, List.map_cons, List.sum_cons] at h1 ⊢
      omega
  have := go ls []
  simpa [foldA] using this
theorem foldA_next (ls : List (List Nat)) (k : Nat) (h : k < ls.length) : foldA (ls.take (k + 1)) = ls[k].foldl putO (foldA (ls.take k)) := by
  unfold foldA
  rw [List.take_succ_eq_append_getElem h, List.foldl_append]
  rfl
theorem foldO_next (l : List Nat) (o : List Nat) (j : Nat) (h : j < l.length) : (l.take (j + 1)).foldl putO o = putO ((l.take j).foldl putO o) l[j] := by
  rw [List.take_succ_eq_append_getElem h, List.foldl_append]
  rfl
theorem or_put {ls : List (List Nat)} (h : chkAll ls = 0) : orR ls = if 65536 < (foldA ls).length then ([], 15) else (foldA ls, 0) := by
  have hok := chkAll_ok h
  unfold orR
  rw [if_neg (by simpa using h), unionF_is (ls.length + 1) ls (by omega) (fun l hl => ⟨(hok l hl).1, by have := (hok l hl).2; omega⟩), List.length_take]
  show (if 65536 < min 65537 (foldA ls).length then _ else ((foldA ls).take 65537, 0)) = _
  by_cases hb : 65536 < (foldA ls).length
  · rw [if_pos (by omega), if_pos hb]
  · rw [if_neg (by omega), if_neg hb, List.take_of_length_le (by omega)]

set_option maxHeartbeats 2000000 in
set_option maxRecDepth 100000 in
theorem refOr_any (v : Value) (ls : List (List Nat)) (w : World) (h : RowRR w v ls) (htot : tot ls ≤ 4194302) :
    Calls Try.prog 11 #[v] w fun e w' => ∃ v', e = .returned (.tuple #[v', .int .i64 ((orR ls).2 : Int)]) ∧ Row32 w' v' (orR ls).1 ∧ Below w.heap.size w w' := by
  have HC := hide (refAll_any v ls w h)
  have HR := hide h
  have HTT := hide htot
  obtain ⟨a, cap, hv, hl4⟩ := h.slice
  subst hv
  clear htot
  by_cases h0 : chkAll ls = 0
  · rw [or_put h0]
    rw [h0] at HC
    clear h h0
    obtain ⟨L, hL⟩ : ∃ L, L = ls.length := ⟨_, rfl⟩
    rw [← hL] at HC HR hl4 ⊢
    have HLL := hide hL
    clear hL
    have hbg : (65536 < (foldA ls).length) ∨ ¬ 65536 < (foldA ls).length := by omega
    obtain ⟨FL, hFL⟩ : ∃ FL, FL = (foldA ls).length := ⟨_, rfl⟩
    rw [← hFL] at hbg ⊢
    have HFLL := hide hFL
    clear hFL
    rcases hbg with hbig | hbig
    all_goals
      (first | rw [if_pos hbig] | rw [if_neg hbig])
      have hbi : (decide ((65536 : Int) < (FL : Int))) = decide (65536 < FL) := by by_cases h : 65536 < FL <;> simp [h] <;> omega
      go_enter Try.func11, Try.ntmps11
      go_wp2_with fail
      refine (unhide HC).mono ?_
      rintro e w1 ⟨rfl, q, rfl⟩
      have HB1 : Hid (Below w.heap.size w (w.drewN q)) := hide (below_drewN (Below.refl _ _) q)
      clear HC hbi
      generalize w.drewN q = V at HB1 ⊢
      go_wp2
      go_loopw [5, 7, 9, 17] (fun xo xx xn z wr => ∃ k : Nat, z = .int .i64 (k : Int) ∧ k ≤ L ∧ Hid (Row32 wr xo (foldA (ls.take k))) ∧ Hid (NeatS xo) ∧ Hid (Below w.heap.size w wr)) (fun _ _ _ z _ => L - (intOf z).toNat)
      case atStart => exact ⟨0, rfl, Nat.zero_le _, hide (RowG.nil _ _ _), hide neat_nil, HB1⟩
      case round =>
        obtain ⟨k, rfl, hk, HO, HN, HB⟩ := hrel
        by_cases hlt : k < L
        · have hlt1 : (k : Int) < (L : Int) := by omega
          have hkl : k < ls.length := by have := unhide HLL; omega
          obtain ⟨b, off, cap', u, hv', hblt, c0, hru⟩ := RowRR.at ((unhide HR).below (unhide HB)) hkl
          injection hv' with e1 e2 e3
          subst e1
          clear e2 e3
          have HRU : Hid (Row32 wr u ls[k]) := hide hru
          have hfx : ∀ z ∈ ls[k], z ≤ 4294967295 := by obtain ⟨_, _, _, _, hf, _⟩ := hru; exact hf
          have HFX := hide hfx
          obtain ⟨ua, uc, hu, _⟩ := hru
          subst hu
          have hnx := foldA_next ls k hkl
          have htn := tot_next ls k hkl
          have htk := tot_take ls (k + 1)
          have hfl := foldA_len (ls.take k)
          have hris := (putAll_from (ls.take k) [] rfl).1
          have HNX := hide hnx
          have HLE : Hid ((foldA (ls.take k)).length + ls[k].length ≤ 4194302) := hide (by have := unhide HTT; omega)
          have HRI : Hid (rises 0 (foldA (ls.take k)) = true) := hide hris
          clear hnx htn htk hfl hris hfx
          generalize ls[k] = X at *
          obtain ⟨XL, hXL⟩ : ∃ XL, XL = X.length := ⟨_, rfl⟩
          rw [← hXL] at c0 HRU
          have HXL := hide hXL
          clear hXL
          obtain ⟨FK, hFK⟩ : ∃ FK, FK = foldA (ls.take k) := ⟨_, rfl⟩
          rw [← hFK] at HO HNX HLE HRI
          clear hFK
          obtain ⟨a5, c5, hv5, _⟩ := unhide HO
          subst hv5
          go_wp2
          go_loopw [5, 9, 23] (fun xo xn z wq => ∃ j : Nat, z = .int .i64 (j : Int) ∧ j ≤ XL ∧ Hid (Row32 wq xo ((X.take j).foldl putO FK)) ∧ Hid (NeatS xo) ∧ Hid (Below wr.heap.size wr wq)) (fun _ _ z _ => XL - (intOf z).toNat)
          case atStart => exact ⟨0, rfl, Nat.zero_le _, HO, HN, hide (Below.refl _ _)⟩
          case round =>
            obtain ⟨j, rfl, hj, HOJ, HNJ, HBJ⟩ := hrel
            by_cases hlj : j < XL
            · have hlj1 : (j : Int) < (XL : Int) := by omega
              have hjl : j < X.length := by have := unhide HXL; omega
              have hrux := (unhide HRU).below (unhide HBJ)
              obtain ⟨b4, off4, cap4, hv4, hblt4, hcell4⟩ := RowG.at cells32_len hrux (j := j) hjl
              injection hv4 with e1 e2 e3
              subst e1
              have d0 := hcell4 0 (by omega)
              simp only [cells32, List.getElem?_cons_zero, Nat.add_zero, Nat.mul_one] at d0
              clear e2 e3 hcell4 hrux
              have hx := unhide HFX X[j] (List.getElem_mem hjl)
              have HNJ2 := hide (foldO_next X FK j hjl)
              have HRJ := hide (fold_put (X.take j) FK (unhide HRI)).1
              have HLJ : Hid (((X.take j).foldl putO FK).length ≤ 4194303) := hide (by
                have h1 := foldO_len (X.take j) FK
                have h2 := unhide HLE
                have h3 : (X.take j).length ≤ X.length := by rw [List.length_take]; omega
                omega)
              generalize X[j] = n at d0 hx HNJ2
              generalize (X.take j).foldl putO FK = FJ at HNJ2 HRJ HLJ HOJ
              have HPUT := hide (putD_any _ FJ n _ (unhide HOJ) (unhide HNJ) (unhide HRJ) hx (unhide HLJ))
              clear HRJ HLJ
              go_wp2_with fail
              refine (unhide HPUT).mono ?_
              rintro e w2 ⟨v', rfl, hr', hn', hb'⟩
              rw [← unhide HNJ2] at hr'
              have HR2 := hide hr'
              have HN2 := hide hn'
              have HB2 := hide (belows' (unhide HBJ) hb')
              clear hr' hn' hb' HPUT HNJ2 d0
              go_wp2
              exact ⟨⟨j + 1, by go_num, by omega, HR2, HN2, HB2⟩, by simp [intOf]; omega⟩
            · have hlj1 : ¬ (j : Int) < (XL : Int) := by omega
              have hoj := unhide HOJ
              rw [List.take_of_length_le (by have := unhide HXL; omega), ← unhide HNX] at hoj
              have HR2 := hide hoj
              have HB2 := hide (belows' (unhide HB) (unhide HBJ))
              clear hoj
              go_wp2
              exact ⟨⟨k + 1, by go_num, by omega, HR2, HNJ, HB2⟩, by simp [intOf]; omega⟩
        · have hlt1 : ¬ (k : Int) < (L : Int) := by omega
          have ho := unhide HO
          rw [List.take_of_length_le (by have := unhide HLL; omega)] at ho
          have HO2 := hide ho
          obtain ⟨a5, c5, hv5, _⟩ := ho
          rw [← unhide HFLL] at hv5
          subst hv5
          first
            | have hb1 : (65536 : Int) < (FL : Int) := by omega
            | have hb1 : ¬ (65536 : Int) < (FL : Int) := by omega
          clear HO
          go_wp2
          go_ret2
          first
            | exact ⟨_, rfl, RowG.nil _ _ _, unhide HB⟩
            | exact ⟨_, rfl, unhide HO2, unhide HB⟩
  · have e1 : orR ls = ([], chkAll ls) := by unfold orR; rw [if_pos h0]
    rw [e1]
    have hne : ((chkAll ls : Int) == 0) = false := by simp; omega
    generalize chkAll ls = C at *
    clear HR h h0 HTT
    generalize ls.length = L at *
    go_enter Try.func11, Try.ntmps11
    go_wp2_with fail
    refine (unhide HC).mono ?_
    rintro e w1 ⟨rfl, q, rfl⟩
    go_wp2
    go_ret2
    exact ⟨_, rfl, RowG.nil _ _ _, below_drewN (Below.refl _ _) q⟩
end Go.Proofs.Ytghgpgeopdhcnaa
