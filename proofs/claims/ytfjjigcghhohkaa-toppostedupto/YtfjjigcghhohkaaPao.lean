/-
  What post.And, post.Or and post.Without do, over this seat's program.
-/
import Derived.Test.YtfjjigcghhohkaaPun
set_option linter.unusedVariables false
namespace Go.Proofs.Ytfjjigcghhohkaa
open Go.RowKit Go.Proofs.Num Go.Proofs.Dct Go.Proofs.Pst

theorem chk_ok {l : List Nat} (h : chk l = 0) : rises 0 l = true ∧ l.length ≤ 65536 := by
  unfold chk at h
  split at h
  · rename_i h1
    split at h
    · rename_i h2; exact ⟨h1, h2⟩
    · cases h
  · cases h
theorem chkAll_ok : ∀ {ls : List (List Nat)}, chkAll ls = 0 → ∀ l ∈ ls, rises 0 l = true ∧ l.length ≤ 65536 := by
  intro ls
  induction ls with
  | nil => intro _ l hl; cases hl
  | cons x r ih =>
    intro h l hl
    rw [chkAll] at h
    by_cases h0 : chk x = 0
    · rw [if_neg (by simpa using h0)] at h
      rcases List.mem_cons.1 hl with rfl | hl
      · exact chk_ok h0
      · exact ih h l hl
    · rw [if_pos h0] at h
      exact absurd h h0
/-- What all lists have. -/
def andL : List (List Nat) → List Nat
  | [] => []
  | l :: r => r.foldl (fun c o => pickL c o true) l
def andR (ls : List (List Nat)) : List Nat × Nat := if chkAll ls ≠ 0 then ([], chkAll ls) else (andL ls, 0)
def orR (ls : List (List Nat)) : List Nat × Nat := if chkAll ls ≠ 0 then ([], chkAll ls) else if 65536 < (unionF (ls.length + 1) ls).length then ([], 15) else (unionF (ls.length + 1) ls, 0)
def withoutR (l o : List Nat) : List Nat × Nat := if chkAll [l, o] ≠ 0 then ([], chkAll [l, o]) else (pickL l o false, 0)
/-- Two slices as a slice of slices. -/
theorem rowRR_two {w : World} {v0 v1 : Value} {l0 l1 : List Nat} (h0 : Row32 w v0 l0) (h1 : Row32 w v1 l1) : RowRR (w.alloc (.cells #[v0, v1] 22)) (.slice (some ⟨w.heap.size, 0, none⟩) 2 2) [l0, l1] := by
  have hA : Below w.heap.size w (w.alloc (.cells #[v0, v1] 22)) := (Below.refl _ w).alloc (Nat.le_refl _) _
  refine ⟨[v0, v1], ⟨_, _, rfl, by simp, fun _ _ => trivial, Or.inr ⟨w.heap.size, 0, rfl, by simp, fun j u hj => ?_⟩⟩, rfl, fun j h h' => ?_⟩
  · rw [Nat.zero_add, Blk.cell (Blk.new w 22 #[v0, v1])]
    simpa [flatG, cellsV] using hj
  · match j, h with
    | 0, _ => exact h0.below hA
    | 1, _ => exact h1.below hA
theorem rowRR_one {w : World} {v0 : Value} {l0 : List Nat} (h0 : Row32 w v0 l0) : RowRR (w.alloc (.cells #[v0] 22)) (.slice (some ⟨w.heap.size, 0, none⟩) 1 1) [l0] := by
  have hA : Below w.heap.size w (w.alloc (.cells #[v0] 22)) := (Below.refl _ w).alloc (Nat.le_refl _) _
  refine ⟨[v0], ⟨_, _, rfl, by simp, fun _ _ => trivial, Or.inr ⟨w.heap.size, 0, rfl, by simp, fun j u hj => ?_⟩⟩, rfl, fun j h h' => ?_⟩
  · rw [Nat.zero_add, Blk.cell (Blk.new w 22 #[v0])]
    simpa [flatG, cellsV] using hj
  · match j, h with
    | 0, _ => exact h0.below hA

theorem foldl_snoc (c : List Nat) (r : List (List Nat)) (k : Nat) (h : k < r.length) : (r.take (k + 1)).foldl (fun c o => pickL c o true) c = pickL ((r.take k).foldl (fun c o => pickL c o true) c) r[k] true := by
  rw [List.take_succ_eq_append_getElem h, List.foldl_append]
  rfl
theorem fold_ok (r : List (List Nat)) : ∀ c : List Nat, rises 0 c = true → c.length ≤ 65536 → (∀ x ∈ c, x ≤ 4294967295) → rises 0 (r.foldl (fun c o => pickL c o true) c) = true ∧ (r.foldl (fun c o => pickL c o true) c).length ≤ 65536 ∧ ∀ x ∈ r.foldl (fun c o => pickL c o true) c, x ≤ 4294967295 := by
  induction r with
  | nil => intro c h1 h2 h3; exact ⟨h1, h2, h3⟩
  | cons o r ih =>
    intro c h1 h2 h3
    exact ih (pickL c o true) (rises_filter _ _ _ h1) (by have := pick_len c o true; omega) (fun x hx => h3 x ((pick_mem c o true x).1 hx).1)

set_option maxHeartbeats 2000000 in
set_option maxRecDepth 100000 in
theorem and_any (v : Value) (ls : List (List Nat)) (w : World) (h : RowRR w v ls) (hn : NeatS v) :
    Calls Try.prog 16 #[v] w fun e w' => ∃ v', e = .returned (.tuple #[v', .int .i64 ((andR ls).2 : Int)]) ∧ Row32 w' v' (andR ls).1 ∧ Below w.heap.size w w' := by
  have HC := hide (checkAll_any v ls w h)
  have HR := hide h
  obtain ⟨a, cap, hv, hl4⟩ := h.slice
  subst hv
  have hcap := hn.2 _ _ _ rfl
  unfold andR
  by_cases h0 : chkAll ls = 0
  · have hok := chkAll_ok h0
    have HOK := hide hok
    rw [if_neg (by simpa using h0)]
    rw [h0] at HC
    clear hok
    by_cases hl0 : ls.length = 0
    · have hls : ls = [] := List.eq_nil_of_length_eq_zero hl0
      subst hls
      clear h0 HR h hn hl0
      simp only [List.length_nil] at *
      go_enter Try.func16, Try.ntmps16
      go_wp2_with fail
      refine (unhide HC).mono ?_
      rintro e w1 ⟨rfl, q, rfl⟩
      go_wp2
      go_ret2
      exact ⟨_, rfl, RowG.nil _ _ _, below_drewN (Below.refl _ _) q⟩
    · cases ls with
      | nil => exact absurd rfl hl0
      | cons l0 r =>
        obtain ⟨b, off, cap', u, hv', hblt, c0, hru⟩ := RowRR.at (unhide HR) (j := 0) (by simp)
        injection hv' with e1 e2 e3
        subst e1
        rw [Nat.add_zero] at c0
        simp only [List.getElem_cons_zero] at hru
        have hk0 := unhide HOK l0 (by simp)
        have HT : Hid (RowRR w (.slice (some ⟨b, off + 1, none⟩) r.length (cap - 1)) r) := hide (by
          have := rowRR_part (unhide HR) 1 r.length (cap - 1) (by simp; omega)
          simpa using this)
        have hf0 : ∀ x ∈ l0, x ≤ 4294967295 := by obtain ⟨_, _, _, _, hf, _⟩ := hru; exact hf
        have HF0 := hide (fun k => fold_ok (r.take k) l0 hk0.1 hk0.2 hf0)
        have HCL := hide (fun q => clone32_any u l0 (w.drewN q) (hru.below (below_drewN (Below.refl _ _) q)) (by omega))
        obtain ⟨ua, uc, hu2, _⟩ := hru
        subst hu2
        have hne : (((l0 :: r).length : Int) == 0) = false := by simp; omega
        simp only [List.length_cons] at hcap hne hl4 HC ⊢
        have hR1 : r.length + 1 ≤ cap := hcap
        clear h0 HR h hn hl0 e2 e3 hcap
        obtain ⟨R, hRl⟩ : ∃ R, R = r.length := ⟨_, rfl⟩
        rw [← hRl] at hne hl4 HC HT hR1 ⊢
        have HRL := hide hRl
        clear hRl
        by_cases hc1 : cap = 1
        · have hr0 : r = [] := List.eq_nil_of_length_eq_zero (by have := unhide HRL; omega)
          have hR0 : R = 0 := by omega
          have HT2 : Hid (RowRR w (.slice (some ⟨b, off, none⟩) R (cap - 1)) r) := hide (by
            rw [hr0, hR0]
            exact ⟨[], RowG.nil _ _ _, rfl, fun j h => by simp at h⟩)
          clear HT hr0 hR0
          have HT := HT2
          clear HT2
          subst hc1
          go_enter Try.func16, Try.ntmps16
          go_wp2_with fail
          refine (unhide HC).mono ?_
          rintro e w1 ⟨rfl, q, rfl⟩
          have HC1 := hide (unhide HCL q)
          have HB1 : Hid (Below w.heap.size w (w.drewN q)) := hide (below_drewN (Below.refl _ _) q)
          have c1 : (w.drewN q).cell? ⟨b, off, none⟩ = some (.slice ua l0.length uc) := c0
          clear HC HCL c0
          generalize w.drewN q = V at HC1 HB1 c1 ⊢
          go_wp2_with fail
          refine (unhide HC1).mono ?_
          rintro e w2 ⟨v2, rfl, r2, n2, b2⟩
          have HR2 := hide r2
          have HB2 := hide (belows' (unhide HB1) b2)
          clear b2 HC1 HB1 c1 n2
          obtain ⟨a2, c2, hv2, _⟩ := r2
          subst hv2
          go_wp2
          go_loopw [5, 7, 23] (fun xc xo z wr => ∃ k : Nat, z = .int .i64 (k : Int) ∧ k ≤ R ∧ Hid (Row32 wr xc ((r.take k).foldl (fun c o => pickL c o true) l0)) ∧ Hid (Below w.heap.size w wr)) (fun _ _ z _ => R - (intOf z).toNat)
          case atStart => exact ⟨0, rfl, Nat.zero_le _, hide (by simpa using unhide HR2), HB2⟩
          case round =>
            obtain ⟨k, rfl, hk, HRK, HBK⟩ := hrel
            by_cases hlt : k < R
            · exact absurd hlt (by omega)
            · have hlt1 : ¬ (k : Int) < (R : Int) := by omega
              have hfin := unhide HRK
              rw [List.take_of_length_le (by have := unhide HRL; omega)] at hfin
              have HFI : Hid (Row32 wr u5 (andL (l0 :: r))) := hide hfin
              clear hfin HRK
              go_wp2
              go_ret2
              exact ⟨_, rfl, unhide HFI, unhide HBK⟩
        · have hc2 : ¬ cap = 1 := hc1
          go_enter Try.func16, Try.ntmps16
          go_wp2_with fail
          refine (unhide HC).mono ?_
          rintro e w1 ⟨rfl, q, rfl⟩
          have HC1 := hide (unhide HCL q)
          have HB1 : Hid (Below w.heap.size w (w.drewN q)) := hide (below_drewN (Below.refl _ _) q)
          have c1 : (w.drewN q).cell? ⟨b, off, none⟩ = some (.slice ua l0.length uc) := c0
          clear HC HCL c0
          generalize w.drewN q = V at HC1 HB1 c1 ⊢
          go_wp2_with fail
          refine (unhide HC1).mono ?_
          rintro e w2 ⟨v2, rfl, r2, n2, b2⟩
          have HR2 := hide r2
          have HB2 := hide (belows' (unhide HB1) b2)
          clear b2 HC1 HB1 c1 n2
          obtain ⟨a2, c2, hv2, _⟩ := r2
          subst hv2
          go_wp2
          go_loopw [5, 7, 23] (fun xc xo z wr => ∃ k : Nat, z = .int .i64 (k : Int) ∧ k ≤ R ∧ Hid (Row32 wr xc ((r.take k).foldl (fun c o => pickL c o true) l0)) ∧ Hid (Below w.heap.size w wr)) (fun _ _ z _ => R - (intOf z).toNat)
          case atStart => exact ⟨0, rfl, Nat.zero_le _, hide (by simpa using unhide HR2), HB2⟩
          case round =>
            obtain ⟨k, rfl, hk, HRK, HBK⟩ := hrel
            by_cases hlt : k < R
            · have hlt1 : (k : Int) < (R : Int) := by omega
              have hkr : k < r.length := by have := unhide HRL; omega
              obtain ⟨b3, off3, cap3, u3, hv3, hblt3, d0, hru3⟩ := RowRR.at ((unhide HT).below (unhide HBK)) hkr
              injection hv3 with f1 f2 f3
              injection f1 with f4
              injection f4 with f5 f6
              subst f5 f6
              have hfk := unhide HF0 k
              have hok := unhide HOK r[k] (by simp)
              have hsn := foldl_snoc l0 r k hkr
              have HPK := hide (pick_any u5 u3 _ r[k] true wr (unhide HRK) hru3 hfk.1 hok.1 (by have := hfk.2.1; omega) (by have := hok.2; omega))
              rw [← hsn] at HPK
              have hfn := unhide HF0 (k + 1)
              have HFN := hide hfn
              obtain ⟨a4, c4, hv4, _⟩ := unhide HRK
              obtain ⟨a5, c5, hv5, _⟩ := hru3
              subst hv4 hv5
              clear f2 f3 hfk hok hsn hfn
              go_wp2_with fail
              refine (unhide HPK).mono ?_
              rintro e w5 ⟨v5, rfl, ho5, hb5⟩
              have HR5 := hide (row32_of ho5 (by have := (unhide HFN).2.1; omega) (unhide HFN).2.2)
              have HB5 := hide (belows' (unhide HBK) hb5)
              clear ho5 hb5 HPK HRK HBK
              go_wp2
              exact ⟨⟨k + 1, by go_num, by omega, HR5, HB5⟩, by simp [intOf]; omega⟩
            · have hlt1 : ¬ (k : Int) < (R : Int) := by omega
              have hfin := unhide HRK
              rw [List.take_of_length_le (by have := unhide HRL; omega)] at hfin
              have HFI : Hid (Row32 wr u5 (andL (l0 :: r))) := hide hfin
              clear hfin HRK
              go_wp2
              go_ret2
              exact ⟨_, rfl, unhide HFI, unhide HBK⟩
  · rw [if_pos h0]
    have hne : ((chkAll ls : Int) == 0) = false := by simp; omega
    generalize chkAll ls = C at *
    clear HR h0 h hn
    generalize ls.length = L at *
    go_enter Try.func16, Try.ntmps16
    go_wp2_with fail
    refine (unhide HC).mono ?_
    rintro e w1 ⟨rfl, q, rfl⟩
    go_wp2
    go_ret2
    exact ⟨_, rfl, RowG.nil _ _ _, below_drewN (Below.refl _ _) q⟩
end Go.Proofs.Ytfjjigcghhohkaa
