/-
  The walk of missivelaw06.RunesParts, over this seat's program.
-/
import Derived.Test.YtidbnkkgilgjoaaDoorApq
import Derived.Test.YtidbnkkgilgjoaaDoorRlv
set_option linter.unusedVariables false
namespace Go.Proofs.YtidbnkkgilgjoaaDoor.runesParts
open Go.RowKit Go.Proofs.Rns

theorem cat_bts (a b : List UInt8) : bts a ++ bts b = bts (a ++ b) := by
  apply ext_list
  rw [ByteArray.data_append, Array.toList_append, toList_bts, toList_bts, toList_bts]
theorem decR_cat (c : Nat) (h2 : c ≠ 2) (s t : List UInt8) : (decR c (s ++ t)).1 = (decR c s).1 ++ (decR c t).1 ∧ (decR c (s ++ t)).2 = (decR c s).2 ∧ (decR c t).2 = (decR c s).2 := by
  unfold decR
  by_cases h : 1 ≤ c ∧ c ≤ 5
  · rw [if_pos h, if_pos h, if_pos h]
    refine ⟨?_, rfl, rfl⟩
    unfold decL
    rw [if_neg h2, if_neg h2, if_neg h2, List.map_append]
  · rw [if_neg h, if_neg h, if_neg h]
    exact ⟨rfl, rfl, rfl⟩
theorem u8_range {n : Int} (h : (Lit.int .u8 n).wf = true) : 0 ≤ n ∧ n ≤ 255 := by
  simpa [Lit.wf, IntKind.min, IntKind.max, IntKind.signed, IntKind.bits] using h
theorem ints_cat (a b : List Nat) : ints (a ++ b) = ints a ++ ints b := by simp [ints]
theorem decR_len (c : Nat) (s : List UInt8) : (decR c s).1.length ≤ s.length := by
  unfold decR decL
  split
  · split
    · exact lettersL_len s
    · simp
  · simp

set_option maxHeartbeats 1000000 in
set_option maxRecDepth 100000 in
theorem walk (a0 : Int) (v1 : Value) (l1 : List Int) (v2 : Value) (l2 : List Int) (s t : ByteArray) (w : World) (ht : RTabN w) (w0 : (Lit.int .u8 a0).wf = true) (w1 : RowI w v1 l1) (n1 : Neat v1) (w2 : RowI w v2 l2) (n2 : Neat v2) (hsum : l1.length + l2.length + s.size + t.size ≤ 1048576) :
    Calls Tryd.prog 4 #[.int .u8 a0, v1, v2, .string s, .string t] w fun e w' => e = .returned (.bool true) ∧ Below w.heap.size w w' := by
  have hr := u8_range w0
  obtain ⟨c, rfl⟩ : ∃ c : Nat, a0 = (c : Int) := ⟨a0.toNat, by omega⟩
  have H0 := hide ht
  have HL := hide (lives_any w ht)
  have HR1 := hide w1
  have HR2 := hide w2
  have HN1 := hide n1
  have HN2 := hide n2
  have hc256 : c < 256 := by omega
  obtain ⟨x1, c1, hx1⟩ := (unhide HR1).len
  obtain ⟨x2, c2, hx2⟩ := (unhide HR2).len
  clear ht w1 w2 n1 n2 hr w0
  have hsl := sizeL s
  have htl := sizeL t
  have hst : (s ++ t).data.toList = s.data.toList ++ t.data.toList := by rw [ByteArray.data_append, Array.toList_append]
  have hsts : (s ++ t).size ≤ 40000000 := by rw [← sizeL, hst, List.length_append]; omega
  go_enter Tryd.func4, Tryd.ntmps4
  go_wp2_with fail
  refine (unhide HL).mono ?_
  rintro e u2 ⟨rfl, b1⟩
  have HB1 := hide b1
  have HR1a := hide ((unhide HR1).below b1)
  have HR2a := hide ((unhide HR2).below b1)
  have H0a := hide ((unhide H0).below b1)
  clear b1
  obtain ⟨va, wa, hra, hoa, hba, _, hna⟩ := run_append_rowI (u2.alloc (.cells #[] 21)) u2.heap.size _ v1 [] l1 23 (own_empty u2) ((unhide HR1a).below ((Below.refl _ u2).alloc (Nat.le_refl _) _)) (unhide HN1) (by simp; omega) (by simp)
  have hba' : Below u2.heap.size u2 wa := ((Below.refl _ u2).alloc (Nat.le_refl _) _).trans hba
  obtain ⟨vb, wb, hrb, hob, hbb, _, hnb⟩ := run_append_rowI wa u2.heap.size va v2 ([] ++ l1) l2 23 hoa ((unhide HR2a).below hba') (unhide HN2) (by simp; omega) hba'.size
  subst hx1 hx2
  have hbw : Below u2.heap.size u2 wb := hba'.trans hbb
  have hrow := own_rowC hob (by
    intro n hn
    simp only [List.nil_append, List.mem_append] at hn
    rcases hn with hn | hn
    · exact (unhide HR1).range n hn
    · exact (unhide HR2).range n hn)
  obtain ⟨lb, hlb⟩ : ∃ lb, lb = l1 ++ l2 := ⟨_, rfl⟩
  rw [List.nil_append, ← hlb] at hrow
  have hlbl : lb.length ≤ 40000000 := by rw [hlb, List.length_append]; omega
  have HU := hide (utf8_any vb lb wb hrow hlbl)
  rw [hlb, utf8L_append, ← cat_bts] at HU
  have HU1 := hide (fun W (h : Below wb.heap.size wb W) => utf8_any _ l1 W (((unhide HR1a).below hbw).below h) (by omega))
  have HU2 := hide (fun W (h : Below wb.heap.size wb W) => utf8_any _ l2 W (((unhide HR2a).below hbw).below h) (by omega))
  have H0b := hide (fun W (h : Below wb.heap.size wb W) => ((unhide H0a).below hbw).below h)
  have hy12 : (bts (utf8L l1)).size + (bts (utf8L l2)).size ≤ 9223372036854775807 := by
    have := utf8L_len l1
    have := utf8L_len l2
    rw [size_bts, size_bts]; omega
  have hst12 : s.size + t.size ≤ 9223372036854775807 := by omega
  generalize bts (utf8L l1) = y1 at HU HU1 hy12
  generalize bts (utf8L l2) = y2 at HU HU2 hy12
  have hbe : ((y1 ++ y2).toList != (y1 ++ y2).toList) = false := by simp
  have HBW := hide hbw
  clear hbw hbb hba hba' hna hnb hoa hob hrow hlb
  go_wp2_with (at_builtin; first | refine wpList_append_run (by rfl) _ _ 23 rfl rfl rfl rfl hra ?_ | refine wpList_append_run (by rfl) _ _ 23 rfl rfl rfl rfl hrb ?_)
  refine (unhide HU).mono ?_
  rintro e u3 ⟨rfl, b3⟩
  have HB3 := hide b3
  clear b3
  go_wp2_with fail
  refine (unhide HU1 _ (unhide HB3)).mono ?_
  rintro e u4 ⟨rfl, b4⟩
  have HB4 := hide (belows' (unhide HB3) b4)
  clear b4
  go_wp2_with fail
  refine (unhide HU2 _ (unhide HB4)).mono ?_
  rintro e u5 ⟨rfl, b5⟩
  have HB5 := hide (belows' (unhide HB4) b5)
  clear b5
  by_cases hc2 : c = 2
  · have e2 : ((c : Int) == 2) = true := by simp [hc2]
    go_wp2
    go_ret
    exact ⟨rfl, belows' (belows' (unhide HB1) (unhide HBW)) (unhide HB5)⟩
  · have e2 : ((c : Int) == 2) = false := by simp; omega
    obtain ⟨d1, d2, d3⟩ := decR_cat c hc2 s.data.toList t.data.toList
    have HT5 := hide (unhide H0b _ (unhide HB5))
    have HD1 := hide (decode_any c s u5 (unhide HT5).toRTab hc256 (by omega))
    have HD2 := hide (fun W (h : Below u5.heap.size u5 W) => decode_any c t W ((unhide HT5).below h).toRTab hc256 (by omega))
    have HD3 := hide (fun W (h : Below u5.heap.size u5 W) => decode_any c (s ++ t) W ((unhide HT5).below h).toRTab hc256 hsts)
    rw [hst, d1, d2] at HD3
    rw [d3] at HD2
    have i1 := decR_is c s.data.toList
    have i2 := decR_is c t.data.toList
    have k1 := decR_len c s.data.toList
    have k2 := decR_len c t.data.toList
    rw [hsl] at k1
    rw [htl] at k2
    generalize (decR c s.data.toList).1 = p at HD1 HD3 i1 k1
    generalize (decR c t.data.toList).1 = r at HD2 HD3 i2 k2
    generalize (decR c s.data.toList).2 = er at HD1 HD2 HD3
    have HI1 := hide i1
    have HI2 := hide i2
    have ee : ((er : Int) == (er : Int)) = true := by simp
    clear d1 d2 d3 hst hsl htl hc2 i1 i2
    go_wp2_with fail
    refine (unhide HD1).mono ?_
    rintro e u6 ⟨vx, rfl, ox, b6⟩
    have HOX := hide ox
    have HB6 := hide b6
    clear ox b6
    go_wp2_with fail
    refine (unhide HD2 _ (unhide HB6)).mono ?_
    rintro e u7 ⟨vy, rfl, oy, b7⟩
    have HOY := hide oy
    have HXr := hide ((own_rowI (unhide HOX) (unhide HI1)).below b7)
    have HB7 := hide (belows' (unhide HB6) b7)
    clear oy b7
    go_wp2_with fail
    refine (unhide HD3 _ (unhide HB7)).mono ?_
    rintro e u8 ⟨vz, rfl, oz, b8⟩
    have HZr := hide (own_rowI oz (by
      intro n hn
      rw [List.mem_append] at hn
      rcases hn with hn | hn
      · exact unhide HI1 n hn
      · exact unhide HI2 n hn))
    have HXr8 := hide ((unhide HXr).below b8)
    have HYr8 := hide ((own_rowI (unhide HOY) (unhide HI2)).below b8)
    have HNX := hide (own_neat (unhide HOX))
    have HNY := hide (own_neat (unhide HOY))
    have HB8 := hide (belows' (unhide HB7) b8)
    clear oz b8
    obtain ⟨z1, q1, hz1⟩ := (unhide HXr8).len
    obtain ⟨z2, q2, hz2⟩ := (unhide HYr8).len
    obtain ⟨z3, q3, hz3⟩ := (unhide HZr).len
    subst hz1 hz2 hz3
    have hp1 : (ints p).length ≤ 1048576 := by simp [ints]; omega
    have hp2 : (ints r).length ≤ 1048576 := by simp [ints]; omega
    clear hra hrb
    obtain ⟨va, wa, hra, hoa, hba, _, hna⟩ := run_append_rowI (u8.alloc (.cells #[] 21)) u8.heap.size _ _ [] (ints p) 23 (own_empty u8) ((unhide HXr8).below ((Below.refl _ u8).alloc (Nat.le_refl _) _)) (unhide HNX) (by simp; omega) (by simp)
    have hba' : Below u8.heap.size u8 wa := ((Below.refl _ u8).alloc (Nat.le_refl _) _).trans hba
    obtain ⟨vb, wb2, hrb, hob, hbb, _, hnb⟩ := run_append_rowI wa u8.heap.size va _ ([] ++ ints p) (ints r) 23 hoa ((unhide HYr8).below hba') (unhide HNY) (by simp; omega) hba'.size
    have hbw2 : Below u8.heap.size u8 wb2 := hba'.trans hbb
    have hrow2 := own_rowC hob (by
      intro n hn
      simp only [List.nil_append, List.mem_append] at hn
      rcases hn with hn | hn
      · exact (unhide HXr8).range n hn
      · exact (unhide HYr8).range n hn)
    have HSM := hide (same_any _ _ _ _ wb2 ((unhide HZr).below hbw2) hrow2 (by simp [ints]; omega))
    rw [show decide (ints (p ++ r) = [] ++ ints p ++ ints r) = true by rw [ints_cat]; simp] at HSM
    have HBZ := hide hbw2
    clear hbw2 hbb hba hba' hna hnb hoa hob hrow2
    generalize ints (p ++ r) = zz at *
    generalize ints p = pp at *
    generalize ints r = rr at *
    go_wp2_with (at_builtin; first | refine wpList_append_run (by rfl) _ _ 23 rfl rfl rfl rfl hra ?_ | refine wpList_append_run (by rfl) _ _ 23 rfl rfl rfl rfl hrb ?_)
    refine (unhide HSM).mono ?_
    rintro e u9 ⟨rfl, b9⟩
    go_wp2
    go_ret
    exact ⟨rfl, belows' (belows' (belows' (belows' (belows' (unhide HB1) (unhide HBW)) (unhide HB5)) (unhide HB8)) (unhide HBZ)) b9⟩
end Go.Proofs.YtidbnkkgilgjoaaDoor.runesParts
