/-
  What nset.Sort and nset.Count do, over this seat's program.
-/
import Derived.Test.YtihgmpebpkjmkaaGreatDoorNwg
set_option linter.unusedVariables false
namespace Go.Proofs.YtihgmpebpkjmkaaGreatDoor
open Go.RowKit Go.Proofs.Nst

def sortR (m : Nat) (l : List Sp) : List Sp × Nat := if l.length ≤ 1024 then (apartS m l, 0) else ([], 1)
def countR (m : Nat) (l : List Sp) : Nat × Nat := if l.length ≤ 1024 then (cntS (apartS m l), 0) else (0, 1)

theorem cntS_take {l : List Sp} {k : Nat} (h : k < l.length) : cntS (l.take (k + 1)) = cntS (l.take k) + ((l[k]).2 - (l[k]).1 + 1) := by
  rw [List.take_succ_eq_append_getElem h, cntS_append, cntS_one]
theorem cntS_le {l : List Sp} (hf : ∀ x ∈ l, FitS x) : cntS l ≤ l.length * 4294967296 := by
  induction l with
  | nil => simp [cntS]
  | cons s r ih =>
    have h1 := ih (fun x hx => hf x (List.mem_cons_of_mem _ hx))
    have h2 := hf s List.mem_cons_self
    unfold FitS at h2
    have h3 : cntS (s :: r) = (s.2 - s.1 + 1) + cntS r := by simp [cntS]
    rw [h3, List.length_cons]
    omega

set_option maxHeartbeats 1000000 in
set_option maxRecDepth 100000 in
theorem ncount_any (v : Value) (l : List Sp) (m : Nat) (w : World) (h : RowSp w v l) (hm : m ≤ 4294967295) :
    Calls Tryz.prog 12 #[v, .int .u32 (m : Int)] w fun e w' => e = .returned (.tuple #[.int .u64 ((countR m l).1 : Int), .int .i64 ((countR m l).2 : Int)]) ∧ Below w.heap.size w w' := by
  have HR := hide h
  obtain ⟨a, cap, rfl, hl, hfit, _⟩ := h
  by_cases hle : l.length ≤ 1024
  · have HS : Hid (countR m l = (cntS (apartS m l), 0)) := hide (by unfold countR; rw [if_pos hle])
    rw [unhide HS]
    have HA := hide (apart_any _ l m w (unhide HR) hm (by omega))
    have hAl : (apartS m l).length ≤ 1024 := Nat.le_trans (apartS_len m l) hle
    have hAf : ∀ x ∈ apartS m l, FitS x := apartS_fit hm hfit
    have HOK := hide (apartS_ok m l).1.ok
    generalize apartS m l = A at HA hAl hAf HOK ⊢
    generalize l.length = T at HA hle hl ⊢
    have hgt : ¬ (T : Int) > 1024 := by omega
    have HAF := hide hAf
    clear hl hfit hAf
    obtain ⟨N, hN⟩ : ∃ N, N = A.length := ⟨_, rfl⟩
    rw [← hN] at HA hAl
    have HNL := hide hN
    clear hN
    go_enter Tryz.func12, Tryz.ntmps12
    go_wp2_with fail
    refine (unhide HA).mono ?_
    rintro e w1 ⟨v', rfl, ho, hb⟩
    obtain ⟨av, cv, rfl, _⟩ := own_sliceG ho
    have HRW := hide (show RowSp w1 (.slice av N cv) A from rowG_of_own cellsS_len (by rw [← unhide HNL]; exact ho) (by have := unhide HNL; omega) (unhide HAF))
    have HB := hide hb
    clear ho hb HA
    go_wp2
    go_loopw [6, 8, 16] (fun y _ z wr => ∃ k c : Nat, z = .int .i64 k ∧ y = .int .u64 c ∧ k ≤ N ∧ Hid (c = cntS (A.take k)) ∧ Hid (Below w1.heap.size w1 wr)) (fun _ _ z _ => N - (intOf z).toNat)
    case atStart => exact ⟨0, 0, rfl, rfl, Nat.zero_le _, hide (by simp [cntS]), hide (Below.refl _ _)⟩
    case round =>
      obtain ⟨k, c, rfl, rfl, hk, HC, HBW⟩ := hrel
      by_cases hlt : k < N
      · have hlt1 : (k : Int) < (N : Int) := by omega
        have hkl : k < A.length := by have := unhide HNL; omega
        obtain ⟨b, off, cp, hv1, hblt, hcell⟩ := RowG.at cellsS_len ((unhide HRW).below (unhide HBW)) (j := k) hkl
        injection hv1 with e1 e2 e3
        subst e1
        have c0 := hcell 0 (by omega)
        have c1 := hcell 1 (by omega)
        simp only [cellsS, List.getElem?_cons_zero, List.getElem?_cons_succ, Nat.add_zero] at c0 c1
        clear e2 e3 hcell
        have hx := unhide HAF A[k] (List.getElem_mem hkl)
        have hle2 := unhide HOK A[k] (List.getElem_mem hkl)
        unfold FitS at hx
        have hcl : c ≤ 4398046511104 := by
          have h1 := cntS_le (l := A.take k) (fun x hx => unhide HAF x (List.mem_of_mem_take hx))
          have h2 : (A.take k).length ≤ 1024 := by rw [List.length_take]; have := unhide HNL; omega
          rw [← unhide HC] at h1
          exact Nat.le_trans h1 (Nat.le_trans (Nat.mul_le_mul_right _ h2) (by decide))
        have HT : Hid (c + ((A[k]).2 - (A[k]).1 + 1) = cntS (A.take (k + 1))) := hide (by rw [cntS_take hkl, ← unhide HC])
        generalize (A[k]).1 = x at c0 hx hle2 HT
        generalize (A[k]).2 = y at c1 hx hle2 HT
        obtain ⟨d, hd⟩ : ∃ d, y = x + d := ⟨y - x, by omega⟩
        have hdd : y - x = d := by omega
        rw [hdd] at HT
        have hw1 : IntKind.u64.wrap ((y : Int) - (x : Int)) = (d : Int) := by rw [IntKind.wrap_u64]; omega
        have hw2 : IntKind.u64.wrap ((d : Int) + 1) = ((d + 1 : Nat) : Int) := by rw [IntKind.wrap_u64]; omega
        have hw3 : IntKind.u64.wrap ((c : Int) + ((d + 1 : Nat) : Int)) = ((c + (d + 1) : Nat) : Int) := by rw [IntKind.wrap_u64]; omega
        have hx0 : x ≤ 4294967295 := hx.1
        have hy0 : y ≤ 4294967295 := hx.2
        have hd0 : d ≤ 4294967295 := by omega
        have HBA := hide (belows' (unhide HBW) (below_alloc0 wr (.cells #[.int .u32 (x : Int), .int .u32 (y : Int)] 79)))
        have hsub : ((y : Int) - (x : Int)) = (d : Int) := by omega
        clear hd hdd hx hle2
        go_wp2
        refine ⟨⟨k + 1, c + (d + 1), by go_num, by rw [Int.natCast_add, Int.natCast_add]; rfl, by omega, HT, HBA⟩, ?_⟩
        simp only [intOf]
        omega
      · have hlt1 : ¬ (k : Int) < (N : Int) := by omega
        have htk : A.take k = A := List.take_of_length_le (by have := unhide HNL; omega)
        rw [htk] at HC
        have HBF := hide (belows' (unhide HB) (unhide HBW))
        clear htk
        go_wp2
        go_ret2
        exact ⟨by rw [← unhide HC]; rfl, unhide HBF⟩
  · have HS : Hid (countR m l = (0, 1)) := hide (by unfold countR; rw [if_neg hle])
    rw [unhide HS]
    generalize l.length = T at hle hl ⊢
    have hgt : (T : Int) > 1024 := by omega
    go_enter Tryz.func12, Tryz.ntmps12
    go_wp2
    go_ret2
    exact ⟨rfl, Below.refl _ _⟩
end Go.Proofs.YtihgmpebpkjmkaaGreatDoor
