/-
  The walk of missivelaw13.PostBack, over this seat's program.
-/
import Derived.Test.YtfjjigcghhohkaaPpa
set_option linter.unusedVariables false
namespace Go.Proofs.Ytfjjigcghhohkaa
open Go.RowKit Go.Proofs.Num Go.Proofs.Dct Go.Proofs.Pna

theorem chk_up {l : List Nat} (h : l.Pairwise (· < ·)) (hl : l.length ≤ 65536) : chk l = 0 := by
  unfold chk
  rw [if_pos ((rises_iff l 0).2 ⟨fun _ => Nat.zero_le _, fun j hj => List.pairwise_iff_getElem.1 h j (j + 1) (by omega) hj (by omega)⟩), if_pos hl]
theorem packL_len {l : List Nat} (h : ∀ x ∈ l, x ≤ 4294967295) (hl : l.length ≤ 65536) : (packL l).length ≤ 1048576 := by
  have := packN_len h (by omega) ((l.length + 31) / 32)
  unfold packL
  omega
theorem arr_cat (t : List UInt8) (s : ByteArray) : ((⟨t.toArray⟩ : ByteArray) ++ s).data.toList = t ++ s.data.toList := by
  rw [ByteArray.data_append, Array.toList_append]
theorem arr_size (t : List UInt8) : (⟨t.toArray⟩ : ByteArray).size = t.length := by simp [ByteArray.size]
/-- What is told of bytes that are unpacked, in plain words. -/
theorem unpackT_any (s : ByteArray) (W : World) (hs : s.size ≤ 140737488355328) :
    Calls Try.prog 8 #[.string s] W fun e w' => (((readS s.data.toList).2.er = 0 ∧ ∃ a cap d, e = .returned (.tuple #[.slice a (flatB (readS s.data.toList).1).length cap, .string d, .int .i64 0]) ∧ (flatB (readS s.data.toList).1).length ≤ cap ∧ Row32 w' (.slice a (flatB (readS s.data.toList).1).length cap) (flatB (readS s.data.toList).1) ∧ d.data.toList = s.data.toList.drop (readS s.data.toList).2.pos)
      ∨ ((readS s.data.toList).2.er ≠ 0 ∧ e = .returned (.tuple #[.slice none 0 0, .string ⟨#[]⟩, .int .i64 ((readS s.data.toList).2.er : Int)]))) ∧ Below W.heap.size W w' := by
  refine (unpackS_any s W hs).mono ?_
  rintro e w' ⟨h1, h2, h3⟩
  refine ⟨?_, h3⟩
  by_cases h0 : (readS s.data.toList).2.er = 0
  · obtain ⟨v, d, rfl, hown, hd⟩ := h1 h0
    obtain ⟨a, cap, rfl, hc⟩ := own_sliceG hown
    exact .inl ⟨h0, a, cap, d, rfl, hc, rowG_of_own (Fit := fun n => n ≤ 4294967295) cells32_len hown (by have := readS_few s.data.toList; omega) (readS_fit _), hd⟩
  · exact .inr ⟨h0, h2 h0⟩

set_option maxHeartbeats 2000000 in
set_option maxRecDepth 100000 in
theorem postBack_walk (a : Option Addr) (l : List Nat) (cap : Nat) (s : ByteArray) (w : World) (h : Row32 w (.slice a l.length cap) l) (hc : l.length ≤ cap) (hsum : l.length + s.size ≤ 1048576) :
    Calls Try.prog 3 #[.slice a l.length cap, .string s] w fun e w' => e = .returned (.bool true) ∧ Below w.heap.size w w' := by
  have HL := hide (packs_any w)
  have HR := hide h
  have hfit : ∀ y ∈ l, y ≤ 4294967295 := (by obtain ⟨_, _, _, _, hft, _⟩ := h; exact hft)
  have HFT := hide hfit
  obtain ⟨T, hT⟩ : ∃ T, T = l.length := ⟨_, rfl⟩
  rw [← hT] at HR hc hsum ⊢
  have HTL := hide hT
  have hsl : (s.size : Int) ≤ 1048576 := by omega
  have HUS := hide (fun W => unpackT_any s W (by omega))
  clear h hfit hT
  go_enter Try.func3, Try.ntmps3
  go_wp2_with fail
  refine (unhide HL).mono ?_
  clear HL
  rintro e W1 ⟨rfl, hb1⟩
  have HB1 := hide hb1
  have HR1 := hide ((unhide HR).below hb1)
  clear hb1 HR
  have HW := hide (pack_any a l T cap W1 (unhide HR1) (unhide HTL) hc)
  go_wp2_with fail
  refine (unhide HW).mono ?_
  clear HW
  rintro e W2 ⟨rfl, hb2⟩
  have HB2 := hide (belows' (unhide HB1) hb2)
  have HR2 := hide ((unhide HR1).below hb2)
  clear hb2 HB1 HR1
  by_cases hk : chk l = 0
  · rw [if_pos hk]
    obtain ⟨hri, hl6⟩ := chk_rise hk
    obtain ⟨hf1, hf2, hf3⟩ := readS_pack (d := s.data.toList) hri (unhide HFT) hl6
    have hpl := packL_len (unhide HFT) hl6
    have HUP := hide (fun W => unpackT_any (⟨(packL l).toArray⟩ ++ s) W (by rw [ByteArray.size_append, arr_size]; omega))
    rw [arr_cat, hf1, hf2, hf3, List.drop_left] at HUP
    have hsz : (⟨(packL l).toArray⟩ : ByteArray).size ≤ 1048576 := by rw [arr_size]; exact hpl
    rw [← unhide HTL] at HUP
    clear hri hl6 hf1 hf2 hf3 hpl hk
    generalize (⟨(packL l).toArray⟩ : ByteArray) = PK at HUP hsz ⊢
    go_wp2_with fail
    refine (unhide HUP _).mono ?_
    clear HUP
    rintro e W3 ⟨hr, hb3⟩
    rcases hr with ⟨_, am, cm, d, rfl, hcm, hrow, hd⟩ | ⟨h0, _⟩
    rotate_left
    · exact absurd rfl h0
    have hd' : d = s := ext_list hd
    subst hd'
    have HB3 := hide (belows' (unhide HB2) hb3)
    have HSM := hide (same32_any _ _ l l W3 hrow ((unhide HR2).below hb3))
    rw [decide_eq_true rfl] at HSM
    clear hb3 HB2 HR2 hrow hd
    go_wp2_with fail
    refine (unhide HSM).mono ?_
    clear HSM
    rintro e W4 ⟨rfl, hb4⟩
    have HB4 := hide (belows' (unhide HB3) hb4)
    clear hb4 HB3
    go_wp2_with fail
    refine (unhide HUS _).mono ?_
    clear HUS
    rintro e W5 ⟨hr, hb5⟩
    have HB5 := hide (belows' (unhide HB4) hb5)
    clear hb5 HB4
    rcases hr with ⟨h0, ap, cp, x, rfl, hcp, hrow, hx⟩ | ⟨h0, rfl⟩
    · have hbk := readS_back h0
      have hch := chk_up (readS_rise d.data.toList) (readS_few d.data.toList)
      have HPK := hide (pack_any ap _ _ cp W5 hrow rfl hcp)
      rw [if_pos hch] at HPK
      have hpl := packL_len (readS_fit d.data.toList) (readS_few d.data.toList)
      have hcat : (⟨(packL (flatB (readS d.data.toList).1)).toArray⟩ : ByteArray) ++ x = d := by
        apply ext_list
        rw [arr_cat, hx]
        exact hbk.1.symm
      have hxz : x.size ≤ 1048576 := by
        rw [← sizeL, hx, List.length_drop, sizeL]
        omega
      have hsz : (⟨(packL (flatB (readS d.data.toList).1)).toArray⟩ : ByteArray).size ≤ 1048576 := by rw [arr_size]; exact hpl
      clear hbk hch hrow hx hpl h0
      generalize (⟨(packL (flatB (readS d.data.toList).1)).toArray⟩ : ByteArray) = U at HPK hcat hsz
      generalize (flatB (readS d.data.toList).1).length = M at HPK hcp ⊢
      have hux : ((U ++ x).toList == d.toList) = true := by rw [hcat]; simp
      have hu2 : (U.size : Int) ≤ 1048576 := by omega
      have hx2 : (x.size : Int) ≤ 1048576 := by omega
      clear hcat
      go_wp2_with fail
      refine (unhide HPK).mono ?_
      clear HPK
      rintro e W6 ⟨rfl, hb6⟩
      have HB6 := hide (belows' (unhide HB5) hb6)
      clear hb6 HB5
      go_wp2
      go_ret
      exact ⟨by simp, unhide HB6⟩
    · generalize (readS d.data.toList).2.er = er at h0
      have hne : ((er : Int) == 0) = false := by simp; omega
      have hne' : ((er : Int) != 0) = true := by simp [bne, hne]
      clear h0
      go_wp2
      go_ret
      exact ⟨by simp, unhide HB5⟩
  · rw [if_neg hk]
    obtain ⟨ck, hck⟩ : ∃ ck, ck = chk l := ⟨_, rfl⟩
    rw [← hck] at hk ⊢
    have hk' : ((ck : Int) == 0) = false := by simp; omega
    clear HR2 hck
    have HB4 := HB2
    clear HB2
    go_wp2_with fail
    refine (unhide HUS _).mono ?_
    clear HUS
    rintro e W5 ⟨hr, hb5⟩
    have HB5 := hide (belows' (unhide HB4) hb5)
    clear hb5 HB4
    rcases hr with ⟨h0, ap, cp, x, rfl, hcp, hrow, hx⟩ | ⟨h0, rfl⟩
    · have hbk := readS_back h0
      have hch := chk_up (readS_rise s.data.toList) (readS_few s.data.toList)
      have HPK := hide (pack_any ap _ _ cp W5 hrow rfl hcp)
      rw [if_pos hch] at HPK
      have hpl := packL_len (readS_fit s.data.toList) (readS_few s.data.toList)
      have hcat : (⟨(packL (flatB (readS s.data.toList).1)).toArray⟩ : ByteArray) ++ x = s := by
        apply ext_list
        rw [arr_cat, hx]
        exact hbk.1.symm
      have hxz : x.size ≤ 1048576 := by
        rw [← sizeL, hx, List.length_drop, sizeL]
        omega
      have hsz : (⟨(packL (flatB (readS s.data.toList).1)).toArray⟩ : ByteArray).size ≤ 1048576 := by rw [arr_size]; exact hpl
      clear hbk hch hrow hx hpl h0
      generalize (⟨(packL (flatB (readS s.data.toList).1)).toArray⟩ : ByteArray) = U at HPK hcat hsz
      generalize (flatB (readS s.data.toList).1).length = M at HPK hcp ⊢
      have hux : ((U ++ x).toList == s.toList) = true := by rw [hcat]; simp
      have hu2 : (U.size : Int) ≤ 1048576 := by omega
      have hx2 : (x.size : Int) ≤ 1048576 := by omega
      clear hcat
      go_wp2_with fail
      refine (unhide HPK).mono ?_
      clear HPK
      rintro e W6 ⟨rfl, hb6⟩
      have HB6 := hide (belows' (unhide HB5) hb6)
      clear hb6 HB5
      go_wp2
      go_ret
      exact ⟨by simp, unhide HB6⟩
    · generalize (readS s.data.toList).2.er = er at h0
      have hne : ((er : Int) == 0) = false := by simp; omega
      have hne' : ((er : Int) != 0) = true := by simp [bne, hne]
      clear h0
      go_wp2
      go_ret
      exact ⟨by simp, unhide HB5⟩
end Go.Proofs.Ytfjjigcghhohkaa
