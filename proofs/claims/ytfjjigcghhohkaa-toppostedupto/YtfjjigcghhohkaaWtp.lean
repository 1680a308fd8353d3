/-
  What missivetop.same does, and the walk of missivetop.TopPosted, over this seat's program.
-/
import Derived.Test.YtfjjigcghhohkaaWpk
import Derived.Test.YtfjjigcghhohkaaDwi
import Derived.Test.YtfjjigcghhohkaaDib
import Derived.Test.YtfjjigcghhohkaaBgn
set_option linter.unusedVariables false
namespace Go.Proofs.Ytfjjigcghhohkaa
open Go.RowKit Go.Proofs.Num Go.Proofs.Dct Go.Proofs.Pna Go.Proofs.Pst

set_option maxHeartbeats 400000 in
theorem sameT_len (a b : Option Addr) (n m c d : Nat) (w : World) (h : n ≠ m) :
    Calls Try.prog 17 #[.slice a n c, .slice b m d] w fun e w' => e = .returned (.bool false) ∧ Below w.heap.size w w' := by
  have hb : ((n : Int) == (m : Int)) = false := by simp; omega
  go_enter Try.func17, Try.ntmps17
  go_wp2
  go_ret
  exact ⟨rfl, Below.refl _ _⟩

set_option maxHeartbeats 1000000 in
set_option maxRecDepth 100000 in
theorem sameT_any (v v' : Value) (l r : List Nat) (w : World) (h : Row32 w v l) (h' : Row32 w v' r) :
    Calls Try.prog 17 #[v, v'] w fun e w' => e = .returned (.bool (decide (l = r))) ∧ Below w.heap.size w w' := by
  have HR := hide h
  have HR' := hide h'
  obtain ⟨a, cap, rfl, hl, hn, _⟩ := h
  obtain ⟨a', cap', rfl, hl', hn', _⟩ := h'
  by_cases hlr : l.length = r.length
  · have HLR := hide hlr
    rw [← hlr]
    rw [← hlr] at HR' hl'
    obtain ⟨T, hT⟩ : ∃ T, T = l.length := ⟨_, rfl⟩
    rw [← hT] at HR HR' hl ⊢
    have HTL := hide hT
    clear hT hlr hl' hn hn'
    go_enter Try.func17, Try.ntmps17
    go_wp2
    go_loopw [5, 13] (fun x z wr => ∃ k : Nat, z = .int .i64 k ∧ k ≤ T ∧ Hid (l.take k = r.take k) ∧ Hid (Below w.heap.size w wr)) (fun _ z _ => T - (intOf z).toNat)
    case atStart => exact ⟨0, rfl, Nat.zero_le _, hide rfl, hide (Below.refl _ _)⟩
    case round =>
      obtain ⟨k, rfl, hk, HT, HB⟩ := hrel
      by_cases hlt : k < T
      · have hlt1 : (k : Int) < (T : Int) := by omega
        have hkl : k < l.length := by have := unhide HTL; omega
        have hkr : k < r.length := by have := unhide HTL; have := unhide HLR; omega
        obtain ⟨b, off, cp, hv1, hblt, hcell⟩ := RowG.at cells32_len ((unhide HR).below (unhide HB)) (j := k) hkl
        obtain ⟨b2, off2, cp2, hv2, hblt2, hcell2⟩ := RowG.at cells32_len ((unhide HR').below (unhide HB)) (j := k) hkr
        injection hv1 with e1 e2 e3
        injection hv2 with e4 e5 e6
        subst e1 e4
        have c0 := hcell 0 (by omega)
        have d0 := hcell2 0 (by omega)
        simp only [cells32, List.getElem?_cons_zero, Nat.add_zero] at c0 d0
        (try simp only [Nat.mul_one] at c0 d0)
        clear e2 e3 e5 e6 hcell hcell2
        have hnx := takeG_next hkl hkr
        by_cases he : l[k] = r[k]
        · have HN := hide (hnx.2 ⟨unhide HT, he⟩)
          have q0 : ((l[k] : Int) == (r[k] : Int)) = true := by rw [he]; simp
          clear hnx he HT
          generalize l[k] = x0 at c0 q0
          generalize r[k] = y0 at d0 q0
          go_wp2
          go_quiet (fail)
          go_wp2
          exact ⟨⟨k + 1, by go_num, by omega, HN, hide (below_drewN (unhide HB) _)⟩, by simp [intOf]; omega⟩
        · have hfin : decide (l = r) = false := by
            rw [decide_eq_false_iff_not]
            intro h
            subst h
            exact he rfl
          have HF := hide hfin
          clear hfin hnx HT
          have g0 : ¬ l[k] = r[k] := fun g0 => he g0
          have q0 : ((l[k] : Int) == (r[k] : Int)) = false := by simp; omega
          clear he g0
          generalize l[k] = x0 at c0 q0
          generalize r[k] = y0 at d0 q0
          go_wp2
          go_quiet (fail)
          go_wp2
          go_ret
          exact ⟨by rw [unhide HF]; rfl, below_drewN (unhide HB) _⟩
      · have hlt1 : ¬ (k : Int) < (T : Int) := by omega
        have hfin : decide (l = r) = true := by
          rw [decide_eq_true_iff]
          have h1 := unhide HT
          have h2 := unhide HLR
          have h3 := unhide HTL
          rw [List.take_of_length_le (by omega), List.take_of_length_le (by omega)] at h1
          exact h1
        have HF := hide hfin
        clear hfin
        go_wp2
        go_ret
        exact ⟨by rw [unhide HF]; rfl, unhide HB⟩
  · have : decide (l = r) = false := by
      rw [decide_eq_false_iff_not]
      intro h
      exact hlr (by rw [h])
    rw [this]
    exact sameT_len a a' _ _ cap cap' w hlr

/-- Two lists of bytes in a dictionary, each found by its key. -/
theorem two_ent (pa pb : List UInt8) (ha : pa.length ≤ 1048576) (hb : pb.length ≤ 1048576) : ∃ t, writeD [(3, pa), (9, pb)] = (t, 0) ∧ t.length ≤ 4194304 ∧ findR t 3 = (pa, 0) ∧ findR t 9 = (pb, 0) := by
  obtain ⟨t, k, htk⟩ : ∃ t k, writeD [(3, pa), (9, pb)] = (t, k) := ⟨_, _, rfl⟩
  have hk : k = 0 := by
    have h1 : (writeD [(3, pa), (9, pb)]).2 = 0 := by
      unfold writeD
      rw [if_pos (by simp [rises, keysE]), if_pos (by simp)]
    rw [htk] at h1
    exact h1
  subst hk
  have hf : FitL [(3, pa), (9, pb)] := by
    intro e he
    simp only [List.mem_cons, List.not_mem_nil, or_false] at he
    rcases he with rfl | rfl <;> exact ⟨by simp, by simp only; omega⟩
  have hrd := read_written [] hf htk
  rw [List.append_nil] at hrd
  refine ⟨t, htk, ?_, ?_, ?_⟩
  · obtain ⟨_, _, rfl⟩ := write_ok htk
    have h3 := heads_append_len 0 ([(3, pa), (9, pb)].map szE) (fit_sz hf)
    have h5 := putL_len10 (n := [(3, pa), (9, pb)].length) (by simp)
    simp only [List.length_append, datas_cons, List.length_map, List.length_cons, List.length_nil] at h3 h5 ⊢
    simp only [datas, List.flatMap_nil, List.length_nil]
    omega
  · unfold findR
    rw [hrd]
    exact seek_hit rfl
  · unfold findR
    rw [hrd]
    show seekE 9 [(3, pa), (9, pb)] = _
    rw [seek_miss (by simp)]
    exact seek_hit rfl
theorem and_zero {a b : List Nat} (ha : chk a = 0) (hb : chk b = 0) : andR [a, b] = (pickL a b true, 0) := by
  have h : chkAll [a, b] = 0 := by simp [chkAll, ha, hb]
  unfold andR
  rw [if_neg (by omega)]
  rfl
theorem take_mem {l : List Nat} {k : Nat} (h : k < l.length) (n : Nat) : decide (n ∈ l.take (k + 1)) = (decide (n ∈ l.take k) || ((l[k] : Int) == (n : Int))) := by
  rw [List.take_succ_eq_append_getElem h, Bool.eq_iff_iff]
  simp only [decide_eq_true_eq, Bool.or_eq_true, beq_iff_eq, List.mem_append, List.mem_singleton]
  constructor
  · rintro (h1 | h1)
    · exact .inl h1
    · exact .inr (by rw [h1])
  · rintro (h1 | h1)
    · exact .inl h1
    · exact .inr (by omega)

/-- What is told of a packed list. -/
theorem unpackP_any (a : List Nat) (W : World) (hc : chk a = 0) (hf : ∀ x ∈ a, x ≤ 4294967295) :
    Calls Try.prog 8 #[.string (bts (packL a))] W fun e w' => (∃ ad cap, e = .returned (.tuple #[.slice ad a.length cap, .string ⟨#[]⟩, .int .i64 0]) ∧ a.length ≤ cap ∧ Row32 w' (.slice ad a.length cap) a) ∧ Below W.heap.size W w' := by
  obtain ⟨hri, hl6⟩ := chk_rise hc
  obtain ⟨hf1, hf2, hf3⟩ := readS_pack (d := []) hri hf hl6
  rw [List.append_nil] at hf1 hf2 hf3
  have hpl := packL_len hf hl6
  have h := unpackT_any (bts (packL a)) W (by rw [size_bts]; omega)
  rw [toList_bts, hf1, hf2, hf3] at h
  refine h.mono ?_
  rintro e w' ⟨hr, hb⟩
  refine ⟨?_, hb⟩
  rcases hr with ⟨_, ad, cap, d, rfl, hcp, hrow, hd⟩ | ⟨h0, _⟩
  · have hd' : d = ⟨#[]⟩ := by
      apply ext_list
      rw [hd, List.drop_length]
    subst hd'
    exact ⟨ad, cap, rfl, hcp, hrow⟩
  · exact absurd rfl h0
theorem hasP_any (a : List Nat) (n : Nat) (W : World) (hn : n ≤ 4294967295) (hc : chk a = 0) (hf : ∀ x ∈ a, x ≤ 4294967295) :
    Calls Try.prog 11 #[.string (bts (packL a)), .int .u32 (n : Int)] W fun e w' => e = .returned (.tuple #[.bool (decide (n ∈ a)), .int .i64 0]) ∧ Below W.heap.size W w' := by
  obtain ⟨hri, hl6⟩ := chk_rise hc
  obtain ⟨hf1, hf2, hf3⟩ := readS_pack (d := []) hri hf hl6
  rw [List.append_nil] at hf1 hf2 hf3
  have hpl := packL_len hf hl6
  have h := hasS_any (bts (packL a)) n W hn (by rw [size_bts]; omega)
  rw [toList_bts, hf1] at h
  refine h.mono ?_
  rintro e w' ⟨h1, _, hb⟩
  exact ⟨h1 hf2, hb⟩
end Go.Proofs.Ytfjjigcghhohkaa
