/-
  The walk of missivelaw08.HeadBack, over this seat's program.
-/
import Derived.Test.YtmlfjbfbpnnlkaaDoorHlv
set_option linter.unusedVariables false
namespace Go.Proofs.YtmlfjbfbpnnlkaaDoor
open Go.RowKit Go.Proofs.Hed

/-- What is written, is parsed. -/
theorem write_ok {L : List (List UInt8 × List UInt8)} (h : (writeR L).2 = 0) : L.all okF = true ∧ L.length ≤ 1024 ∧ (writeR L).1 = textL [10] L := by
  unfold writeR at *
  split at h
  · rename_i h1
    split at h
    · rename_i h2
      rw [if_pos h1, if_pos h2]
      exact ⟨h1, h2, rfl⟩
    · cases h
  · cases h
theorem write_not {L : List (List UInt8 × List UInt8)} (h : (writeR L).2 ≠ 0) : (writeR L).1 = [] := by
  unfold writeR at *
  split at h
  · split at h
    · exact absurd rfl h
    · rename_i h1 h2
      rw [if_pos h1, if_neg h2]
  · rename_i h1
    rw [if_neg h1]
theorem flat_le (l : List Fld) : (textL [10] (l.map lst)).length ≤ sumF l + 1 := by
  have := flat_len l
  unfold textL
  simp only [List.length_append, List.length_cons, List.length_nil]
  omega
theorem back_flds {l l' : List Fld} (h : l'.map lst = (l.map lst)) : l' = l := by
  rw [flds_of h, ← flds_of (rfl : l.map lst = l.map lst)]

/-- Bytes that are parsed into fields are no fewer than these. -/
theorem parseF_bulk : ∀ (f : Nat) (s : List UInt8), ((parseF f s).1.map (fun p => p.1.length + p.2.length)).sum ≤ s.length
  | 0, _ => by simp [parseF]
  | f + 1, s => by
    have h1 := lineN_le s
    have h0 := lineOf_len s
    simp only [parseF]
    split
    · simp
    · split
      · simp
      · rename_i n v hc
        split
        · have h2 := parseF_bulk f (s.drop (lineN s + (contL (s.drop (lineN s))).2))
          have h3 := contL_le (s.drop (lineN s))
          have h4 := contL_len (s.drop (lineN s))
          have h5 := colon_len hc
          have h6 := trimL_len (v ++ (contL (s.drop (lineN s))).1)
          rw [List.length_append] at h6
          rw [List.length_drop] at h2 h3
          simp only [List.map_cons, List.sum_cons]
          omega
        · simp
theorem take_sum (f : List UInt8 × List UInt8 → Nat) (n : Nat) : ∀ L : List (List UInt8 × List UInt8), ((L.take n).map f).sum ≤ (L.map f).sum := by
  intro L
  induction L generalizing n with
  | nil => simp
  | cons p r ih =>
    cases n with
    | zero => simp
    | succ n =>
      have := ih n
      simp only [List.take_succ_cons, List.map_cons, List.sum_cons]
      omega
theorem sumF_of (l : List Fld) : sumF l = ((l.map lst).map (fun p => p.1.length + p.2.length)).sum + l.length * 3 := by
  induction l with
  | nil => rfl
  | cons f r ih =>
    have h1 := sizeL f.1
    have h2 := sizeL f.2
    simp only [sumF, List.map_cons, List.sum_cons, List.length_cons, ih, lst, h1, h2]
    omega
theorem parsed_sum {l : List Fld} {s : List UInt8} (h : l.map lst = (parseL s).1.take 1024) : sumF l ≤ s.length + 3072 := by
  have h1 := take_sum (fun p => p.1.length + p.2.length) 1024 (parseL s).1
  have h2 := parseF_bulk (s.length + 1) s
  have h3 := congrArg List.length h
  rw [List.length_map, List.length_take] at h3
  rw [sumF_of, h]
  unfold parseL at h1 ⊢
  omega

set_option maxHeartbeats 2000000 in
set_option maxRecDepth 100000 in
theorem headBack_walk (v : Value) (l : List Fld) (b : ByteArray) (w : World) (h : RowF w v l) (hsum : sumF l + b.size ≤ 1048576) :
    Calls Tryd.prog 5 #[v, .string b] w fun e w' => e = .returned (.bool true) ∧ Below w.heap.size w w' := by
  have HL := hide (lives_any w)
  have HR := hide h
  have HSUM := hide hsum
  obtain ⟨ad, cap, hv, _⟩ := h
  subst hv
  have hbl : (b.size : Int) ≤ 1048576 := by omega
  clear hsum
  go_enter Tryd.func5, Tryd.ntmps5
  go_wp2_with fail
  refine (unhide HL).mono ?_
  clear HL
  rintro e W1 ⟨rfl, hb1⟩
  have HB1 := hide hb1
  have HR1 := hide ((unhide HR).below hb1)
  clear hb1 HR
  have HW := hide (write_any _ l W1 (unhide HR1))
  obtain ⟨t, k, htk⟩ : ∃ t k, writeR (l.map lst) = (t, k) := ⟨_, _, rfl⟩
  rw [htk] at HW
  have HTK := hide htk
  clear htk
  go_wp2_with fail
  refine (unhide HW).mono ?_
  clear HW
  rintro e W2 ⟨rfl, hb2⟩
  have HB2 := hide (belows' (unhide HB1) hb2)
  have HR2 := hide ((unhide HR1).below hb2)
  clear hb2 HB1 HR1
  have HPB := hide (fun W => parse_any b W (by have := unhide HSUM; omega))
  by_cases hk : k = 0
  · obtain ⟨ok1, ok2, ok3⟩ := write_ok (L := l.map lst) (by rw [unhide HTK]; exact hk)
    rw [unhide HTK] at ok3
    simp only at ok3
    have htl := flat_le l
    rw [← ok3] at htl
    have hpt := parse_text (e := [10]) (Or.inl rfl) (l.map lst) ok1 b.data.toList
    rw [← ok3] at hpt
    have hcat : bts (t ++ b.data.toList) = bts t ++ b := by
      apply ext_list
      rw [toList_bts]
      simp [bts]
    have HPA := hide (fun W => parse_any (bts t ++ b) W (by rw [← hcat, size_bts, List.length_append, sizeL]; have := unhide HSUM; omega))
    rw [← hcat, toList_bts, hpt, hcat] at HPA
    have hsz : (bts t).size = t.length := size_bts t
    have HOK := hide ok2
    have htl2 : t.length ≤ 1048577 := by have := unhide HSUM; omega
    have hbn : b.size ≤ 1048576 := by omega
    subst hk
    clear ok1 ok2 ok3 htl hpt hcat
    go_wp2_with fail
    refine (unhide HPA _).mono ?_
    clear HPA
    rintro e W3 ⟨vm, m, rfl, hrm, hm, hb3⟩
    have hml : m = l := back_flds (by rw [hm, List.take_of_length_le (unhide HOK)])
    subst hml
    have HB3 := hide (belows' (unhide HB2) hb3)
    have HSM := hide (sameF_any vm _ m m W3 hrm ((unhide HR2).below hb3))
    rw [decide_eq_true rfl] at HSM
    obtain ⟨am, cm, hvm, _⟩ := hrm
    subst hvm
    clear hb3 hm HB2 HR2
    go_wp2_with fail
    refine (unhide HSM).mono ?_
    clear HSM
    rintro e W4 ⟨rfl, hb4⟩
    have HB4 := hide (belows' (unhide HB3) hb4)
    clear hb4 HB3
    go_wp2_with fail
    refine (unhide HPB _).mono ?_
    clear HPB
    rintro e W5 ⟨vp, p, rfl, hrp, hp, hb5⟩
    have HB5 := hide (belows' (unhide HB4) hb5)
    have hpl := parseL_le b.data.toList
    rw [sizeL] at hpl
    have hps := parsed_sum hp
    rw [sizeL] at hps
    generalize (parseL b.data.toList).2 = at0 at hpl ⊢
    have hpl' : (at0 : Int) ≤ (b.size : Int) := by omega
    have HRP := hide hrp
    obtain ⟨ap, cp, hvp, _⟩ := hrp
    subst hvp
    have HWP := hide (write_any _ p W5 (unhide HRP))
    obtain ⟨t2, k2, htk2⟩ : ∃ t2 k2, writeR (p.map lst) = (t2, k2) := ⟨_, _, rfl⟩
    rw [htk2] at HWP
    have HTK2 := hide htk2
    have HPS := hide hps
    clear hp hb5 htk2 hps HB4
    go_wp2_with fail
    refine (unhide HWP).mono ?_
    clear HWP
    rintro e W6 ⟨rfl, hb6⟩
    have HB6 := hide (belows' (unhide HB5) hb6)
    have HRP6 := hide ((unhide HRP).below hb6)
    clear hb6 HB5 HRP
    by_cases hk2 : k2 = 0
    · obtain ⟨ok1, ok2, ok3⟩ := write_ok (L := p.map lst) (by rw [unhide HTK2]; exact hk2)
      rw [unhide HTK2] at ok3
      simp only at ok3
      have htl := flat_le p
      rw [← ok3] at htl
      have hpt := parse_text (e := [10]) (Or.inl rfl) (p.map lst) ok1 []
      rw [← ok3, List.append_nil] at hpt
      have HPA := hide (fun W => parse_any (bts t2) W (by rw [size_bts]; have := unhide HPS; omega))
      rw [toList_bts, hpt] at HPA
      have hsz2 : (bts t2).size = t2.length := size_bts t2
      have HOK2 := hide ok2
      subst hk2
      clear ok1 ok2 ok3 htl hpt
      go_wp2_with fail
      refine (unhide HPA _).mono ?_
      clear HPA
      rintro e W7 ⟨vq, q, rfl, hrq, hq, hb7⟩
      have hql : q = p := back_flds (by rw [hq, List.take_of_length_le (unhide HOK2)])
      subst hql
      have HB7 := hide (belows' (unhide HB6) hb7)
      have HSM := hide (sameF_any vq _ q q W7 hrq ((unhide HRP6).below hb7))
      rw [decide_eq_true rfl] at HSM
      obtain ⟨aq, cq, hvq, _⟩ := hrq
      subst hvq
      clear hb7 hq HB6 HRP6
      go_wp2_with fail
      refine (unhide HSM).mono ?_
      clear HSM
      rintro e W8 ⟨rfl, hb8⟩
      have HB8 := hide (belows' (unhide HB7) hb8)
      clear hb8 HB7
      go_wp2
      go_ret
      exact ⟨by simp, unhide HB8⟩
    · have hk2' : (k2 == 0) = false := by rw [beq_eq_false_iff_ne]; exact hk2
      go_wp2
      go_ret
      exact ⟨by simp, unhide HB6⟩
  · have hk' : (k == 0) = false := by rw [beq_eq_false_iff_ne]; exact hk
    clear HR2
    go_wp2_with fail
    refine (unhide HPB _).mono ?_
    clear HPB
    rintro e W5 ⟨vp, p, rfl, hrp, hp, hb5⟩
    have HB5 := hide (belows' (unhide HB2) hb5)
    have hpl := parseL_le b.data.toList
    rw [sizeL] at hpl
    have hps := parsed_sum hp
    rw [sizeL] at hps
    generalize (parseL b.data.toList).2 = at0 at hpl ⊢
    have hpl' : (at0 : Int) ≤ (b.size : Int) := by omega
    have HRP := hide hrp
    obtain ⟨ap, cp, hvp, _⟩ := hrp
    subst hvp
    have HWP := hide (write_any _ p W5 (unhide HRP))
    obtain ⟨t2, k2, htk2⟩ : ∃ t2 k2, writeR (p.map lst) = (t2, k2) := ⟨_, _, rfl⟩
    rw [htk2] at HWP
    have HTK2 := hide htk2
    have HPS := hide hps
    clear hp hb5 htk2 hps HB2
    go_wp2_with fail
    refine (unhide HWP).mono ?_
    clear HWP
    rintro e W6 ⟨rfl, hb6⟩
    have HB6 := hide (belows' (unhide HB5) hb6)
    have HRP6 := hide ((unhide HRP).below hb6)
    clear hb6 HB5 HRP
    by_cases hk2 : k2 = 0
    · obtain ⟨ok1, ok2, ok3⟩ := write_ok (L := p.map lst) (by rw [unhide HTK2]; exact hk2)
      rw [unhide HTK2] at ok3
      simp only at ok3
      have htl := flat_le p
      rw [← ok3] at htl
      have hpt := parse_text (e := [10]) (Or.inl rfl) (p.map lst) ok1 []
      rw [← ok3, List.append_nil] at hpt
      have HPA := hide (fun W => parse_any (bts t2) W (by rw [size_bts]; have := unhide HPS; omega))
      rw [toList_bts, hpt] at HPA
      have hsz2 : (bts t2).size = t2.length := size_bts t2
      have HOK2 := hide ok2
      subst hk2
      clear ok1 ok2 ok3 htl hpt
      go_wp2_with fail
      refine (unhide HPA _).mono ?_
      clear HPA
      rintro e W7 ⟨vq, q, rfl, hrq, hq, hb7⟩
      have hql : q = p := back_flds (by rw [hq, List.take_of_length_le (unhide HOK2)])
      subst hql
      have HB7 := hide (belows' (unhide HB6) hb7)
      have HSM := hide (sameF_any vq _ q q W7 hrq ((unhide HRP6).below hb7))
      rw [decide_eq_true rfl] at HSM
      obtain ⟨aq, cq, hvq, _⟩ := hrq
      subst hvq
      clear hb7 hq HB6 HRP6
      go_wp2_with fail
      refine (unhide HSM).mono ?_
      clear HSM
      rintro e W8 ⟨rfl, hb8⟩
      have HB8 := hide (belows' (unhide HB7) hb8)
      clear hb8 HB7
      go_wp2
      go_ret
      exact ⟨by simp, unhide HB8⟩
    · have hk2' : (k2 == 0) = false := by rw [beq_eq_false_iff_ne]; exact hk2
      go_wp2
      go_ret
      exact ⟨by simp, unhide HB6⟩

end Go.Proofs.YtmlfjbfbpnnlkaaDoor
