/-
  What nset.put does, over this seat's program.
-/
import Derived.Test.YtihgmpebpkjmkaaGreatDoorNwb
import Derived.Laws.AppendOwnNone
set_option linter.unusedVariables false
namespace Go.Proofs.YtihgmpebpkjmkaaGreatDoor
open Go.RowKit Go.Proofs.Nst

theorem spInfo : (Tryz.prog.info? 79).map (fun i => (i.zero, i.size, i.bytes)) = some (some (.agg #[.int .u32 0, .int .u32 0]), 2, 8) := by kernel_rfl
theorem info_partsN {t : TypeId} {z : Option Value} {s b : Nat} (h : (Tryz.prog.info? t).map (fun i => (i.zero, i.size, i.bytes)) = some (z, s, b)) : ∃ i, Tryz.prog.info? t = some i ∧ i.zero = z ∧ i.size = s ∧ i.bytes = b := by
  cases hi : Tryz.prog.info? t with
  | none => rw [hi] at h; cases h
  | some i =>
    rw [hi] at h
    injection h with h
    injection h with h1 h2
    injection h2 with h2 h3
    exact ⟨i, rfl, h1, h2, h3⟩
theorem run_appS (w : World) (B : Nat) (v : Value) (k : List Sp) (p : Sp) (ty : TypeId) (hown : w.ownsRow B 79 2 v k.length (flatG cellsS k)) (hkl : k.length ≤ 4194304) (hB : B ≤ w.heap.size) :
    ∃ v' w', (Builtin.append_ #[26, 26] ty #[v, .slice (some ⟨w.heap.size, 0, none⟩) 1 1]).run Tryz.prog (w.alloc (.cells #[.int .u32 (p.1 : Int), .int .u32 (p.2 : Int)] 79)) = .ok v' w' ∧ w'.ownsRow B 79 2 v' (k ++ [p]).length (flatG cellsS (k ++ [p])) ∧ Below B w w' := by
  obtain ⟨i0, hi, hz0, hz1, hz2⟩ := info_partsN spInfo
  have hx : (w.alloc (.cells (cellsS p).toArray 79)).ownsRow B 79 2 (.slice (some ⟨w.heap.size, 0, none⟩) 1 1) 1 (cellsS p).toArray.toList := World.ownsRow_lit w (cellsS p).toArray 1 hB (by unfold maxLen; omega) rfl
  have hc := hx.cells (g := w.heap.size) rfl
  have hown' := own_below hown ((Below.refl _ w).alloc (Nat.le_refl _) (.cells (cellsS p).toArray 79))
  obtain ⟨v', w', hrun, h2, h3, h4⟩ := run_append_own (P := Tryz.prog) (w.alloc (.cells (cellsS p).toArray 79)) B 26 ty 79 i0 (.agg #[.int .u32 0, .int .u32 0]) 2 8 Tryz.underlying26 hi hz0 hz1 hz2 rfl (by decide) v k.length (flatG cellsS k) hown' ⟨w.heap.size, 0, none⟩ 1 1 (cellsS p) rfl hc (by intro u hu; simp [cellsS] at hu; rcases hu with rfl | rfl <;> rfl) (by unfold maxLen; omega) (by omega) (by rw [World.size_alloc]; omega)
  refine ⟨v', w', hrun, ?_, ?_⟩
  · rw [List.length_append, flatG_append]
    simpa [flatG] using h2
  · exact below_own ((Below.refl B w).alloc hB _) hown' h3 (by rw [World.size_alloc]; omega)
theorem wpList_append_runS {P : Program} {w w' : World} {v v' xv : Value} {ty : TypeId} {ops : Array Oper} {rest : List Oper} {o : Oper} {a : Act} {Q : Exit → Act → World → Prop} (hw : Region.wanted o (yielded ops a.tmps) = true) (s x : Operand) (t : TypeId)
    (ho : o.op = .call { callee := .builtin .append, args := #[s, x], argTypes := #[t, t] }) (hty : o.type = ty) (hs : a.eval s = v) (hx : a.eval x = xv)
    (hrun : (Builtin.append_ #[t, t] ty #[v, xv]).run P w = .ok v' w')
    (h : wpList P ops Q rest (a.put o.dst v') w') : wpList P ops Q (o :: rest) a w := by
  refine wpList_step fun K hK => ?_
  rw [if_pos hw]
  subst hty
  unfold Oper.wp
  simp [execOp, ho, resolve, invoke, builtin, hs, hx, hrun, Result.andThen]
  exact hK _ _ h

theorem index_runS (g n cp m : Nat) (k : Int) (hk : k = (m : Int)) (hm : m < n) (w : World) : (Instr.indexAt 26 (.slice (some ⟨g, 0, none⟩) n cp) (.int .i64 k)).run Tryz.prog w = .ok (.pointer (some ⟨g, m * 2, none⟩)) w := by
  subst hk
  obtain ⟨i0, hi, hz0, hz1, hz2⟩ := info_partsN spInfo
  have he : Tryz.prog.elem 26 = 79 := by kernel_rfl
  rw [run_indexAt_slice (P := Tryz.prog) (w := w) (t := 26) (a := ⟨g, 0, none⟩) (len := n) (cap := cp) (k := .i64) (i := (m : Int)) (h := by kernel_rfl)]
  rw [if_pos (by omega), he]
  have hadd : Addr.add ⟨g, 0, none⟩ (m * 2) = ⟨g, m * 2, none⟩ := by rw [add_off0, Nat.zero_add]
  go_simp
  (try omega)
theorem wrap_pred {T q : Nat} (h : q + 1 = T) (hb : T ≤ 4194304) : IntKind.i64.wrap ((T : Int) - 1) = (q : Int) := by rw [IntKind.wrap_i64]; omega
theorem wrap64_pred {T q : Nat} (h : q + 1 = T) (hb : T ≤ 4194304) : wrap64 ((T : Int) - 1) = (q : Int) := by unfold wrap64; omega

set_option maxHeartbeats 1000000 in
set_option maxRecDepth 100000 in
theorem put_far (v : Value) (L : List Sp) (s : Sp) (w : World) (B : Nat) (hown : w.ownsRow B 79 2 v L.length (flatG cellsS L)) (hB : B ≤ w.heap.size) (hL : L.length ≤ 4194303) (hf : ∀ x ∈ L, FitS x) (hfar : L = [] ∨ ∃ r b, L = r ++ [b] ∧ b.2 + 1 < s.1) (hs : FitS s) :
    Calls Tryz.prog 36 #[v, .agg #[.int .u32 (s.1 : Int), .int .u32 (s.2 : Int)]] w fun e w' => ∃ v', e = .returned v' ∧ w'.ownsRow B 79 2 v' (putS L s).length (flatG cellsS (putS L s)) ∧ Below B w w' := by
  have HPS : Hid (putS L s = L ++ [s]) := hide (by
    rcases hfar with rfl | ⟨r, b, rfl, hb⟩
    · rfl
    · exact putS_far hb)
  rw [unhide HPS]
  clear HPS
  have HAP : Hid (∀ q ty, ∃ v' w', (Builtin.append_ #[26, 26] ty #[v, .slice (some ⟨w.heap.size + 1, 0, none⟩) 1 1]).run Tryz.prog (((w.alloc (.cells #[.int .u32 (s.1 : Int), .int .u32 (s.2 : Int)] 79)).drewN q).alloc (.cells #[.int .u32 (s.1 : Int), .int .u32 (s.2 : Int)] 79)) = .ok v' w' ∧ w'.ownsRow B 79 2 v' (L ++ [s]).length (flatG cellsS (L ++ [s])) ∧ Below B w w') := hide (fun q ty => by
    have hbw : Below w.heap.size w ((w.alloc (.cells #[.int .u32 (s.1 : Int), .int .u32 (s.2 : Int)] 79)).drewN q) := below_drewN (below_alloc0 _ _) _
    obtain ⟨v', w', h1, h2, h3⟩ := run_appS ((w.alloc (.cells #[.int .u32 (s.1 : Int), .int .u32 (s.2 : Int)] 79)).drewN q) B v L s ty (own_below hown hbw) (by omega) (Nat.le_trans hB hbw.size)
    have hz : ((w.alloc (.cells #[.int .u32 (s.1 : Int), .int .u32 (s.2 : Int)] 79)).drewN q).heap.size = w.heap.size + 1 := World.size_alloc _ _
    rw [hz] at h1
    exact ⟨v', w', h1, h2, (hbw.mono hB).trans h3⟩)
  obtain ⟨a, cap, hv, hcap⟩ := own_sliceG hown
  have HF := hide hfar
  by_cases h0 : L = []
  · have hlen : L.length = 0 := by rw [h0]; rfl
    rw [hlen] at hv
    subst hv
    clear hown hf hfar h0 hcap HF
    generalize s.1 = x at *
    generalize s.2 = y at *
    generalize (L ++ [s]).length = M at *
    go_enter Tryz.func36, Tryz.ntmps36
    go_wp2
    go_quiet (fail)
    obtain ⟨v', w', hrun, h2, h3⟩ := unhide HAP nq 26
    have H2 := hide h2
    have H3 := hide h3
    clear h2 h3 HAP
    go_wp2_with (at_builtin; refine wpList_append_runS (by rfl) _ _ 26 rfl rfl rfl rfl hrun ?_)
    go_ret
    exact ⟨v', rfl, unhide H2, unhide H3⟩
  · obtain ⟨r, b, hrb, hb⟩ : ∃ r b, L = r ++ [b] ∧ b.2 + 1 < s.1 := by rcases hfar with h | h; exact absurd h h0; exact h
    have hll : L.length = r.length + 1 := by rw [hrb]; simp
    have hlast : r.length < L.length := by omega
    obtain ⟨g, cg, hv2, hg, hgl, hcell, hfz⟩ := ownG_at cellsS_len hown hlast
    have hbl : L[r.length] = b := by simp [hrb]
    have c1 := hcell 1 (by omega)
    rw [hbl] at c1
    simp only [cellsS, List.getElem?_cons_succ, List.getElem?_cons_zero] at c1
    rw [hv] at hv2
    injection hv2 with e1 e2 e3
    subst e1
    subst hv
    obtain ⟨T, hT⟩ : ∃ T, T = L.length := ⟨_, rfl⟩
    obtain ⟨q, hq⟩ : ∃ q, q = r.length := ⟨_, rfl⟩
    rw [← hT] at HAP hlast hcap ⊢
    rw [← hq] at c1 hlast
    have hqT : q + 1 = T := by omega
    have hT4 : T ≤ 4194304 := by omega
    have hp1 := wrap_pred hqT hT4
    have hp2 := wrap64_pred hqT hT4
    have hI := fun W => index_runS g T cap q (q : Int) rfl hlast W
    have hb2 : b.2 ≤ 4294967295 := (hf b (by rw [hrb]; simp)).2
    have hs1 : s.1 ≤ 4294967295 := hs.1
    have HD1 : decide (b.2 + 1 < s.1) = true := decide_eq_true hb
    have hq0 : decide ((q : Int) < 0) = false := decide_eq_false (by omega)
    have hu1 : IntKind.u64.wrap ((b.2 : Int) + 1) = ((b.2 + 1 : Nat) : Int) := by rw [IntKind.wrap_u64]; omega
    clear hown hf hfar h0 HF hcell hfz hll hT hq hbl e2 e3 hrb
    obtain ⟨x, hx⟩ : ∃ x, x = s.1 := ⟨_, rfl⟩
    obtain ⟨y, hy⟩ : ∃ y, y = s.2 := ⟨_, rfl⟩
    obtain ⟨z, hz⟩ : ∃ z, z = b.2 := ⟨_, rfl⟩
    rw [← hx, ← hy] at HAP ⊢
    rw [← hx] at hs1 HD1
    rw [← hz] at c1 hb2 HD1 hu1
    have hx0 : (0 : Int) ≤ (x : Int) := by omega
    have hgt : (x : Int) > (z : Int) + 1 := by have := of_decide_eq_true HD1; omega
    generalize (L ++ [s]).length = M at *
    clear hx hy hz hb hqT hT4 hlast hcap hs
    go_enter Tryz.func36, Tryz.ntmps36
    go_wp2
    go_quiet (fail)
    obtain ⟨v', w', hrun, h2, h3⟩ := unhide HAP nq 26
    have H2 := hide h2
    have H3 := hide h3
    clear h2 h3 HAP
    go_wp2_with (at_builtin; refine wpList_append_runS (by rfl) _ _ 26 rfl rfl rfl rfl hrun ?_)
    go_ret
    exact ⟨v', rfl, unhide H2, unhide H3⟩
end Go.Proofs.YtihgmpebpkjmkaaGreatDoor
