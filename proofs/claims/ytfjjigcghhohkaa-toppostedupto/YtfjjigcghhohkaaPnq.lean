/-
  What post.writeBlock does, over this seat's program: the walk.
-/
import Derived.Test.YtfjjigcghhohkaaPnn
set_option linter.unusedVariables false
namespace Go.Proofs.Ytfjjigcghhohkaa
open Go.RowKit Go.Proofs.Num Go.Proofs.Dct

theorem gapsN_len (l : List Nat) (k : Nat) (hf : ∀ x ∈ l, x ≤ 4294967295) : (gapsN l k).length ≤ 10 * k := by
  induction k with
  | zero => simp [gapsN]
  | succ k ih =>
    rw [gapsN_succ, List.length_append]
    have h1 : l.getD (k + 1) 0 ≤ 4294967295 := by
      rw [List.getD_eq_getElem?_getD]
      cases h : l[k + 1]? with
      | none => simp
      | some x => exact hf x (List.mem_of_getElem? h)
    have := putL_len10 (n := l.getD (k + 1) 0 - l.getD k 0 - 1) (by omega)
    omega
theorem putB_size (n : Nat) : (⟨(putL n).toArray⟩ : ByteArray).size = (putL n).length := by simp [ByteArray.size]
theorem index_runO (g off n cp m : Nat) (k : Int) (hk : k = (m : Int)) (hm : m < n) (w : World) : (Instr.indexAt 22 (.slice (some ⟨g, off, none⟩) n cp) (.int .i64 k)).run Try.prog w = .ok (.pointer (some ⟨g, off + m, none⟩)) w := by
  subst hk
  obtain ⟨i0, hi, hz0, hz1, hz2⟩ := info_parts u32InfoN
  have he : Try.prog.elem 22 = 31 := by kernel_rfl
  rw [run_indexAt_slice (P := Try.prog) (w := w) (t := 22) (a := ⟨g, off, none⟩) (len := n) (cap := cp) (k := .i64) (i := (m : Int)) (h := by kernel_rfl)]
  rw [if_pos (by omega), he]
  have hadd : Addr.add ⟨g, off, none⟩ m = ⟨g, off + m, none⟩ := by unfold Addr.add; by_cases h0 : m = 0 <;> simp [h0]
  go_simp

set_option maxHeartbeats 4000000 in
set_option maxRecDepth 100000 in
theorem wblock_any (v : Value) (l : List Nat) (ahead B b : Nat) (g : Option Nat) (acc : List UInt8) (w : World) (h : Row32 w v l) (hb : Bdr w B b g acc) (h1 : 1 ≤ l.length) (h32 : l.length ≤ 32) (hr : l.Pairwise (· < ·)) (hah : ahead ≤ l.getD 0 0) (hlen : acc.length ≤ 1099511627776) :
    Calls Try.prog 23 #[.pointer (some ⟨b, 0, none⟩), v, .int .u32 (ahead : Int)] w fun e w' => e = .returned (.tuple #[]) ∧ ∃ g', Bdr w' B b g' (acc ++ blockL ahead l) ∧ Fr w g g' ∧ Kp b g w w' := by
  have HR := hide h
  have HBD := hide hb
  have HRI := hide hr
  obtain ⟨a, cap, hv, hl4, hfit, _⟩ := h
  subst hv
  have HFT := hide hfit
  obtain ⟨T, hT⟩ : ∃ T, T = l.length := ⟨_, rfl⟩
  have HBL : Hid (blockL ahead l = putL (l.getD 0 0 - ahead) ++ (putL T ++ (putL (gapsN l (T - 1)).length ++ gapsN l (T - 1)))) := hide (by rw [hT]; rfl)
  rw [← hT] at HR hl4 h1 h32 ⊢
  have HTL := hide hT
  have HPT := hide (fun n W (h : n < 18446744073709551616) => put_any n W h)
  clear hT hfit hr hb
  have HW0 := hide (Wr.new w)
  go_enter Try.func23, Try.ntmps23
  go_wp2
  go_loopw [7] (fun z wr => ∃ k : Nat, z = .int .i64 ((k + 1 : Nat) : Int) ∧ k + 1 ≤ T ∧ Hid (Wr w wr (gapsN l k)) ∧ Hid (k = 0 → wr = w.alloc (.cells #[.pointer none, .slice none 0 0] 54))) (fun z _ => T - (intOf z).toNat)
  case atStart => exact ⟨0, rfl, h1, HW0, hide (fun _ => rfl)⟩
  case round =>
    obtain ⟨k, rfl, hk, HW, HZ⟩ := hrel
    clear HW0
    by_cases hlt : k + 1 < T
    · have hlt1 : ((k + 1 : Nat) : Int) < (T : Int) := by omega
      have hkl : k + 1 < l.length := by have := unhide HTL; omega
      have hbw : Below w.heap.size w wr := (unhide HW).bel
      obtain ⟨b0, off, cap', hv', hblt, hcell⟩ := RowG.at cells32_len ((unhide HR).below hbw) (j := k + 1) hkl
      obtain ⟨b2, off2, cap2, hv2, hblt2, hcell2⟩ := RowG.at cells32_len ((unhide HR).below hbw) (j := k) (by omega)
      injection hv' with e1 e2 e3
      subst e1
      injection hv2 with e4 e5 e6
      injection e4 with e7
      injection e7 with e8 e9
      subst e8 e9
      have c0 := hcell 0 (by omega)
      have d0 := hcell2 0 (by omega)
      simp only [cells32, List.getElem?_cons_zero, Nat.add_zero, Nat.mul_one] at c0 d0
      clear e2 e3 e5 e6 hcell hcell2 hblt2
      have hx := unhide HFT l[k + 1] (List.getElem_mem hkl)
      have hxy : l[k] < l[k + 1] := List.pairwise_iff_getElem.1 (unhide HRI) k (k + 1) (by omega) hkl (by omega)
      have HGS : Hid (gapsN l (k + 1) = gapsN l k ++ putL (l[k + 1] - l[k] - 1)) := hide (by
        rw [gapsN_succ, List.getD_eq_getElem?_getD, List.getD_eq_getElem?_getD, List.getElem?_eq_getElem hkl, List.getElem?_eq_getElem (by omega)]
        rfl)
      have HLN := hide (gapsN_len l k (unhide HFT))
      generalize l[k + 1] = x at c0 hx hxy HGS
      generalize l[k] = y at d0 hxy HGS
      obtain ⟨dd, hdd⟩ : ∃ dd, dd = x - y - 1 := ⟨_, rfl⟩
      rw [← hdd] at HGS
      have hdl : dd < 18446744073709551616 := by omega
      have hu1 : IntKind.u32.wrap ((x : Int) - (y : Int)) = (x : Int) - (y : Int) := by rw [IntKind.wrap_u32]; omega
      have hu2 : IntKind.u32.wrap ((x : Int) - (y : Int) - 1) = (dd : Int) := by rw [IntKind.wrap_u32]; omega
      have hu3 : IntKind.u64.wrap (dd : Int) = (dd : Int) := by rw [IntKind.wrap_u64]; omega
      have hIA := index_runO b0 off T cap (k + 1) ((k : Int) + 1) (by omega) hlt
      have hIB := index_runO b0 off T cap k (k : Int) rfl (by omega)
      have hIC := index_runO b0 off T cap k (IntKind.i64.wrap ((k : Int) + 1 - 1)) (by rw [IntKind.wrap_i64]; omega) (by omega)
      have hID := index_runO b0 off T cap k (wrap64 ((k : Int) + 1 - 1)) (by unfold wrap64; omega) (by omega)
      have hIE := index_runO b0 off T cap k ((k : Int) + 1 - 1) (by omega) (by omega)
      have hIF := index_runO b0 off T cap k (wrap64 (k : Int)) (by unfold wrap64; omega) (by omega)
      have hIG := index_runO b0 off T cap k (IntKind.i64.wrap (k : Int)) (by rw [IntKind.wrap_i64]; omega) (by omega)
      have hkT : (k : Int) < (T : Int) := by omega
      have hk0 : (0 : Int) ≤ (k : Int) := by omega
      have hk1 : (0 : Int) ≤ (k : Int) + 1 := by omega
      have HP := hide (fun W => put_any dd W hdl)
      have hpl := putL_len10 (n := dd) hdl
      have HWW : Hid (∀ W W', Below wr.heap.size wr W → Below W.heap.size W W' → Wr w W' (gapsN l k)) := hide (fun W W' h1 h2 => ((unhide HW).below h1).below h2)
      clear hbw hdd hkl
      go_wp2_with fail
      go_region_with (first
        | (go_at_call 21; refine (unhide HP _).mono ?_; rintro e w1 ⟨rfl, p1⟩; have HW1 := hide ((unhide HWW) _ _ (by exact ⟨rfl, rfl, rfl, Nat.le_refl _, fun _ _ => rfl⟩) p1))
        | (go_at_call 20; refine (wStr (unhide HW1) ⟨(putL dd).toArray⟩ (by have := unhide HLN; simp only [ByteArray.size, List.size_toArray]; omega)).mono ?_; rintro e w2 ⟨rfl, hw2⟩; have HW2 := hide hw2; clear hw2))
      all_goals
        have HW3 : Hid (Wr w w2 (gapsN l (k + 1))) := hide (by rw [unhide HGS]; exact unhide HW2)
        clear hIA hIB hIC hID hIE hIF hIG hu1 hu2 hu3 c0 d0 hkT hk0 hk1 hxy hx HW1 HW2 HP HWW HGS HW HZ p1
        (try go_wp2)
        (try simp only [Exit.inBlock, Exit.then])
        (try go_wp2)
        go_roundw
        case rel => exact ⟨k + 1, by first | rfl | (congr 1; omega) | go_num, by omega, HW3, hide (fun h => by omega)⟩
        case measure => simp [intOf]; omega
    · have hlt1 : ¬ ((k + 1 : Nat) : Int) < (T : Int) := by omega
      have hkT : k = T - 1 := by omega
      obtain ⟨R, hR⟩ : ∃ R, R = gapsN l (T - 1) := ⟨_, rfl⟩
      have hRl : R.length ≤ 310 := by have := gapsN_len l (T - 1) (unhide HFT); rw [hR]; omega
      have HTW : Hid (Two2 w wr B b wr.heap.size g acc R) := hide (by
        have hw := unhide HW
        rw [hkT, ← hR] at hw
        have hbd := unhide HBD
        obtain ⟨gr, h4⟩ := Bdr.of_wr hw
        refine ⟨⟨g, hbd.below hw.bel, .inl rfl, fun j hj => .inl (hbd.rowlt j hj).2⟩, ⟨gr, h4, h4.rowlt, fun hn => ?_⟩, Kp.of_below hw.bel, ?_, Nat.le_refl _, hbd.lt⟩
        · have hk0 : k = 0 := by
            by_cases h : k = 0
            · exact h
            · exfalso
              obtain ⟨j, hj⟩ : ∃ j, T - 1 = j + 1 := ⟨T - 2, by omega⟩
              rw [hR, hj, gapsN_succ] at hn
              have := List.append_eq_nil_iff.1 hn
              have h9 := putL_pos (l.getD (j + 1) 0 - l.getD j 0 - 1)
              rw [this.2] at h9
              exact absurd h9 (by simp)
          have hwr := unhide HZ hk0
          obtain ⟨p, v, h5, h6⟩ := h4.row
          have h7 : wr.heap[w.heap.size]? = some (.cells #[.pointer none, .slice none 0 0] 54 (0, 0)) := by rw [hwr]; exact World.alloc_heap_new w _
          have hb4 := h7.symm.trans h5
          injection hb4 with e1
          injection e1 with e2
          have := congrArg (fun a => a[1]?) e2
          have hv : Value.slice none 0 0 = v := by simpa using this
          rw [← h6, ← hv]
          rfl
        · exact h4.lt)
      have hkl : 0 < l.length := by have := unhide HTL; omega
      obtain ⟨b0, off, cap', hv', hblt, hcell⟩ := RowG.at cells32_len ((unhide HR).below (unhide HW).bel) (j := 0) hkl
      injection hv' with e1 e2 e3
      subst e1
      have c0 := hcell 0 (by omega)
      simp only [cells32, List.getElem?_cons_zero, Nat.add_zero, Nat.mul_one] at c0
      clear e2 e3 hcell
      have hx := unhide HFT l[0] (List.getElem_mem hkl)
      have hg0 : l.getD 0 0 = l[0] := by rw [List.getD_eq_getElem?_getD, List.getElem?_eq_getElem hkl]; rfl
      rw [hg0] at hah HBL
      rw [← hR] at HBL
      generalize l[0] = x at c0 hx hah HBL
      obtain ⟨dd, hdd⟩ : ∃ dd, dd = x - ahead := ⟨_, rfl⟩
      rw [← hdd] at HBL
      have hdl : dd < 18446744073709551616 := by omega
      have hu1 : IntKind.u32.wrap ((x : Int) - (ahead : Int)) = (dd : Int) := by rw [IntKind.wrap_u32]; omega
      have hu3 : IntKind.u64.wrap (dd : Int) = (dd : Int) := by rw [IntKind.wrap_u64]; omega
      have HPD := hide (fun W => put_any dd W hdl)
      have HPT2 := hide (fun W => put_any T W (by omega))
      have HPR := hide (fun W => put_any R.length W (by omega))
      have hd10 := putL_len10 (n := dd) hdl
      have ht10 := putL_len10 (n := T) (by omega)
      have hr10 := putL_len10 (n := R.length) (by omega)
      clear hdd hkT HW HZ HPT hR hg0
      go_wp2_with fail
      refine (unhide HPD _).mono ?_
      rintro e w1 ⟨rfl, p1⟩
      have T1 := hide ((unhide HTW).below p1)
      clear p1 HTW HPD c0 hu1 hu3
      go_wp2_with fail
      refine ((unhide T1).write ⟨(putL dd).toArray⟩ (by rw [putB_size]; omega)).mono ?_
      rintro e w2 ⟨rfl, t2⟩
      have T2 : Hid (Two2 w w2 B b wr.heap.size g (acc ++ putL dd) R) := hide t2
      clear t2 T1
      have hu4 : IntKind.u64.wrap (T : Int) = (T : Int) := by rw [IntKind.wrap_u64]; omega
      go_wp2_with fail
      refine (unhide HPT2 _).mono ?_
      rintro e w3 ⟨rfl, p3⟩
      have T3 := hide ((unhide T2).below p3)
      clear p3 T2 HPT2 hu4
      go_wp2_with fail
      refine ((unhide T3).write ⟨(putL T).toArray⟩ (by rw [putB_size, List.length_append]; omega)).mono ?_
      rintro e w4 ⟨rfl, t4⟩
      have T4 : Hid (Two2 w w4 B b wr.heap.size g (acc ++ putL dd ++ putL T) R) := hide t4
      clear t4 T3
      go_wp2_with fail
      refine (Try.Builder_Len_f w.heap.size w.heap.size (Lib.byteCells R) w4 (by obtain ⟨gr, h4, _⟩ := (unhide T4).side; exact h4.isb)).mono ?_
      rintro e w5 ⟨rfl, rfl⟩
      rw [Lib.byteCells_length]
      have hu5 : IntKind.u64.wrap (R.length : Int) = (R.length : Int) := by rw [IntKind.wrap_u64]; omega
      go_wp2_with fail
      refine (unhide HPR _).mono ?_
      rintro e w6 ⟨rfl, p6⟩
      have T6 := hide ((unhide T4).below p6)
      clear p6 T4 HPR hu5
      go_wp2_with fail
      refine ((unhide T6).write ⟨(putL R.length).toArray⟩ (by rw [putB_size, List.length_append, List.length_append]; omega)).mono ?_
      rintro e w7 ⟨rfl, t7⟩
      have T7 : Hid (Two2 w w7 B b wr.heap.size g (acc ++ putL dd ++ putL T ++ putL R.length) R) := hide t7
      clear t7 T6
      go_wp2_with fail
      refine (unhide T7).string.mono ?_
      rintro e w8 ⟨rfl, gi, m1, m2, m3⟩
      have M1 := hide m1
      have M2 := hide m2
      have M3 := hide m3
      have hBz : B ≤ w8.heap.size := by have := m1.base; have := m1.lt; omega
      clear m1 m2 m3 T7
      go_wp2_with fail
      refine (writeString_r (unhide M1) ⟨R.toArray⟩ (by simp only [List.length_append, ByteArray.size, List.size_toArray]; omega) hBz).mono ?_
      rintro e w9 ⟨rfl, gj, n1, n2, n3⟩
      have N1 : Hid (Bdr w9 B b gj (acc ++ blockL ahead l)) := hide (by
        rw [unhide HBL]
        simpa [List.append_assoc] using n1)
      have N2 := hide ((unhide M2).trans n2 (unhide M3).size)
      have N3 := hide ((unhide M3).trans n3 (unhide M2))
      clear n1 n2 n3 M1 M2 M3
      go_wp2
      go_end0
      exact ⟨rfl, gj, unhide N1, unhide N2, unhide N3⟩
end Go.Proofs.Ytfjjigcghhohkaa
