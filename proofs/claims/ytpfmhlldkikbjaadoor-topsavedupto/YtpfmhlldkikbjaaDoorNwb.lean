/-
  What a span's has, Has, and the document's ends and Has do, over this seat's program.
-/
import Derived.Test.YtpfmhlldkikbjaaDoorNwa
set_option linter.unusedVariables false
namespace Go.Proofs.YtpfmhlldkikbjaaDoor
open Go.RowKit Go.Proofs.Nst

set_option maxHeartbeats 1000000 in
set_option maxRecDepth 100000 in
theorem hasOne_any (f t m n : Nat) (w : World) :
    Calls Tryd.prog 38 #[.agg #[.int .u32 (f : Int), .int .u32 (t : Int), .int .u32 (m : Int)], .int .u32 (n : Int)] w fun e w' => e = .returned (.bool (inB n (ordS m (f, t)))) ∧ Below w.heap.size w w' := by
  have HE1 := hide (fun W => inOrder_any f t m W)
  have HIN : Hid (inB n (ordS m (f, t)) = (decide ((ordS m (f, t)).1 ≤ n) && decide (n ≤ (ordS m (f, t)).2))) := hide rfl
  rw [unhide HIN]
  clear HIN
  generalize (ordS m (f, t)).1 = x at HE1 ⊢
  generalize (ordS m (f, t)).2 = y at HE1 ⊢
  go_enter Tryd.func38, Tryd.ntmps38
  go_wp2_with fail
  refine (unhide HE1 _).mono ?_
  rintro e w1 ⟨rfl, b1⟩
  have HB := hide (belows' (below_alloc0 _ _) b1)
  have HB2 := hide (belows' (unhide HB) (below_alloc0 _ (.cells #[.int .u32 (x : Int), .int .u32 (y : Int)] 51)))
  clear b1 HE1 HB
  by_cases h1 : x ≤ n
  · have h1' : (x : Int) ≤ (n : Int) := by omega
    by_cases h2 : n ≤ y
    · have h2' : (n : Int) ≤ (y : Int) := by omega
      go_wp2
      go_ret
      exact ⟨by simp [h1, h2], unhide HB2⟩
    · have h2' : ¬ (n : Int) ≤ (y : Int) := by omega
      go_wp2
      go_ret
      exact ⟨by simp [h1, h2], unhide HB2⟩
  · have h1' : ¬ (x : Int) ≤ (n : Int) := by omega
    go_wp2
    go_ret
    exact ⟨by simp [h1], unhide HB2⟩

theorem any_take {l : List Sp} {k : Nat} (h : k < l.length) (p : Sp → Bool) : (l.take (k + 1)).any p = ((l.take k).any p || p l[k]) := by
  rw [List.take_succ_eq_append_getElem h, List.any_append]
  simp
theorem hasS_any_eq (m n : Nat) (l : List Sp) : hasS m n l = l.any (fun s => inB n (ordS m s)) := by
  unfold hasS memS
  rw [List.any_map]
  rfl

set_option maxHeartbeats 1000000 in
set_option maxRecDepth 100000 in
theorem nhas_any (v : Value) (l : List Sp) (m n : Nat) (w : World) (h : RowSp w v l) :
    Calls Tryd.prog 13 #[v, .int .u32 (m : Int), .int .u32 (n : Int)] w fun e w' => e = .returned (.bool (hasS m n l)) ∧ Below w.heap.size w w' := by
  have HR := hide h
  obtain ⟨a, cap, rfl, hl, hfit, _⟩ := h
  have HE := hide (hasS_any_eq m n l)
  obtain ⟨T, hT⟩ : ∃ T, T = l.length := ⟨_, rfl⟩
  rw [← hT] at HR hl ⊢
  have HTL := hide hT
  clear hT hfit
  go_enter Tryd.func13, Tryd.ntmps13
  go_wp2
  go_loopw [8, 11] (fun _ z wr => ∃ k : Nat, z = .int .i64 k ∧ k ≤ T ∧ Hid ((l.take k).any (fun s => inB n (ordS m s)) = false) ∧ Hid (Below w.heap.size w wr)) (fun _ z _ => T - (intOf z).toNat)
  case atStart => exact ⟨0, rfl, Nat.zero_le _, hide (by simp), hide (Below.refl _ _)⟩
  case round =>
    obtain ⟨k, rfl, hk, HA, HB⟩ := hrel
    by_cases hlt : k < T
    · have hlt1 : (k : Int) < (T : Int) := by omega
      have hkl : k < l.length := by have := unhide HTL; omega
      obtain ⟨b, off, cp, hv1, hblt, hcell⟩ := RowG.at cellsSn_len ((unhide HR).below (unhide HB)) (j := k) hkl
      injection hv1 with e1 e2 e3
      subst e1
      have c0 := hcell 0 (by omega)
      have c1 := hcell 1 (by omega)
      simp only [cellsSn, List.getElem?_cons_zero, List.getElem?_cons_succ, Nat.add_zero] at c0 c1
      have HT := hide (any_take hkl (fun s => inB n (ordS m s)))
      clear e2 e3 hcell
      have HHO := hide (fun W => hasOne_any (l[k]).1 (l[k]).2 m n W)
      have HYES : Hid (inB n (ordS m l[k]) = true → hasS m n l = true) := hide (fun h9 => by
        rw [unhide HE, List.any_eq_true]
        exact ⟨l[k], List.getElem_mem hkl, h9⟩)
      have HNO : Hid (inB n (ordS m l[k]) = false → (l.take (k + 1)).any (fun s => inB n (ordS m s)) = false) := hide (fun h9 => by
        rw [unhide HT, unhide HA, h9]; rfl)
      rw [show ((l[k]).1, (l[k]).2) = l[k] from rfl] at HHO
      generalize inB n (ordS m l[k]) = r at HHO HYES HNO
      generalize (l[k]).1 = x at c0 HHO
      generalize (l[k]).2 = y at c1 HHO
      have HBA := hide (belows' (unhide HB) (below_alloc0 wr (.cells #[.int .u32 (x : Int), .int .u32 (y : Int)] 51)))
      clear HT HA
      go_wp2_with fail
      refine (unhide HHO _).mono ?_
      rintro e w1 ⟨rfl, b1⟩
      have HB1 := hide (belows' (unhide HBA) b1)
      clear b1 HBA HHO
      cases r with
      | true =>
        have HY := hide (unhide HYES rfl)
        clear HYES HNO
        go_wp2
        go_ret
        exact ⟨by rw [unhide HY]; rfl, unhide HB1⟩
      | false =>
        have HN := hide (unhide HNO rfl)
        clear HYES HNO
        go_wp2
        exact ⟨⟨k + 1, by go_num, by omega, HN, HB1⟩, by simp [intOf]; omega⟩
    · have hlt1 : ¬ (k : Int) < (T : Int) := by omega
      have hfin : hasS m n l = false := by
        have h1 := unhide HA
        rw [List.take_of_length_le (by have := unhide HTL; omega)] at h1
        rw [unhide HE, h1]
      have HF := hide hfin
      clear hfin
      go_wp2
      go_ret
      exact ⟨by rw [unhide HF]; rfl, unhide HB⟩

end Go.Proofs.YtpfmhlldkikbjaaDoor
