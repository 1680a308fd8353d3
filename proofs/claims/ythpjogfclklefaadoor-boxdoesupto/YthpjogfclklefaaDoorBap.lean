/-
  Appends of one thing to a row of one's own: numbers, mails; over this seat's program.
-/
import Derived.Test.YthpjogfclklefaaDoorBfd
import Derived.Test.YthpjogfclklefaaDoorApg
set_option linter.unusedVariables false
set_option linter.unusedSimpArgs false
namespace Go.Proofs.YthpjogfclklefaaDoor
open Go.RowKit

theorem u32Info : (Tryd.prog.info? 22).map (fun i => (i.zero, i.size, i.bytes)) = some (some (.int .u32 0), 1, 4) := by kernel_rfl
theorem run_app32 (w : World) (B : Nat) (v : Value) (l : List Nat) (p : Nat) (ty : TypeId) (hown : w.ownsRow B 22 1 v l.length (flatG cells32 l)) (hl : l.length ≤ 4194304) (hB : B ≤ w.heap.size) :
    ∃ v' w', (Builtin.append_ #[28, 28] ty #[v, .slice (some ⟨w.heap.size, 0, none⟩) 1 1]).run Tryd.prog (w.alloc (.cells #[.int .u32 (p : Int)] 22)) = .ok v' w' ∧ w'.ownsRow B 22 1 v' (l ++ [p]).length (flatG cells32 (l ++ [p])) ∧ Below B w w' :=
  run_appG cells32 1 4 cells32_len 22 28 (.int .u32 0) Tryd.underlying28 u32Info rfl (by decide) (by decide) (by decide) (by intro x u hu; simp [cells32] at hu; subst hu; rfl) w B v l p ty hown hl hB
theorem run_appM (w : World) (B : Nat) (v : Value) (l : List Msg) (p : Msg) (ty : TypeId) (hown : w.ownsRow B 47 6 v l.length (flatG msC l)) (hl : l.length ≤ 4194304) (hB : B ≤ w.heap.size) :
    ∃ v' w', (Builtin.append_ #[24, 24] ty #[v, .slice (some ⟨w.heap.size, 0, none⟩) 1 1]).run Tryd.prog (w.alloc (.cells #[.int .u32 (p.uid : Int), .int .u8 (p.fl : Int), .int .i64 p.dy, .int .i64 p.sc, .int .i64 p.zn, .string p.raw] 47)) = .ok v' w' ∧ w'.ownsRow B 47 6 v' (l ++ [p]).length (flatG msC (l ++ [p])) ∧ Below B w w' :=
  run_appG msC 6 48 msC_len 47 24 _ Tryd.underlying24 msgInfo rfl (by decide) (by decide) (by decide) (by intro x u hu; exact flatM_one [x] u (by rw [flatG_one]; exact hu)) w B v l p ty hown hl hB
theorem filterM_take {ns : List Msg} {j : Nat} (h : j < ns.length) (p : Msg → Bool) : (ns.take (j + 1)).filter p = (ns.take j).filter p ++ (if p ns[j] then [ns[j]] else []) := by
  rw [List.take_succ_eq_append_getElem h, List.filter_append]
  congr 1
  by_cases hp : p ns[j] = true
  · rw [List.filter_cons_of_pos hp, if_pos hp]; rfl
  · rw [List.filter_cons_of_neg hp, if_neg hp]; rfl

/-- Mails, and numbers, that a change answers: in a row of its own. -/
def OutM (w : World) (v : Value) (l : List Msg) : Prop := w.ownsRow 0 47 6 v l.length (flatG msC l) ∧ (∀ m ∈ l, FitM m) ∧ l.length ≤ 4194304
def OutT (w : World) (v : Value) (l : List Nat) : Prop := w.ownsRow 0 22 1 v l.length (flatG cells32 l) ∧ (∀ x ∈ l, x ≤ 4294967295) ∧ l.length ≤ 4194304
theorem OutM.nil (w : World) : OutM w (.slice none 0 0) [] := ⟨World.ownsRow_nil _ _ _ _, by simp, by simp⟩
theorem OutM.row {w : World} {v : Value} {l : List Msg} (h : OutM w v l) : RowM w v l := rowG_of_own msC_len h.1 (by have := h.2.2; omega) h.2.1
theorem OutT.row {w : World} {v : Value} {l : List Nat} (h : OutT w v l) : Row32 w v l := rowG_of_own cells32_len h.1 (by have := h.2.2; omega) h.2.1
theorem OutT.nil (w : World) : OutT w (.slice none 0 0) [] := ⟨World.ownsRow_nil _ _ _ _, by simp, by simp⟩
/-- The numbers of the mails above a mark. -/
def aboveL (mk : Nat) (l : List Msg) : List Nat := uidsM (l.filter (fun m => decide (mk < m.uid)))
def aboveB (mk : Nat) (b : Bx) : List Nat := if okB b = true then aboveL mk b.ms else []
theorem aboveL_take {l : List Msg} {j mk : Nat} (h : j < l.length) : aboveL mk (l.take (j + 1)) = aboveL mk (l.take j) ++ (if mk < l[j].uid then [l[j].uid] else []) := by
  unfold aboveL uidsM
  rw [filterM_take h, List.map_append]
  congr 1
  by_cases hp : mk < l[j].uid
  · rw [if_pos hp, decide_eq_true hp]; rfl
  · rw [if_neg hp, decide_eq_false hp]; rfl
theorem aboveL_len (mk : Nat) (l : List Msg) : (aboveL mk l).length ≤ l.length := by unfold aboveL; rw [uidsM_len]; exact List.length_filter_le _ _
theorem okB_len {b : Bx} (h : okB b = true) : b.ms.length ≤ 4096 := by
  unfold okB at h
  simp only [Bool.and_eq_true, decide_eq_true_eq] at h
  exact h.2.1
theorem aboveL_fit {mk : Nat} {l : List Msg} (h : ∀ m ∈ l, FitM m) : ∀ x ∈ aboveL mk l, x ≤ 4294967295 := by
  intro x hx
  unfold aboveL uidsM at hx
  obtain ⟨m, hm, rfl⟩ := List.mem_map.1 hx
  exact (h m (List.mem_filter.1 hm).1).1

set_option maxHeartbeats 4000000 in
set_option maxRecDepth 100000 in
theorem above_any (b : Bx) (v : Value) (mk : Nat) (w : World) (ht : LTab w) (h : RowM w v b.ms) (hf : FitB b) (hm : mk ≤ 4294967295) :
    Calls Tryd.prog 34 #[bxV b v, .int .u32 (mk : Int)] w fun e w' => (∃ v', e = .returned (.tuple #[v', .int .i64 (chkB b : Int)]) ∧ OutT w' v' (aboveB mk b)) ∧ Below w.heap.size w w' := by
  have HC := hide (fun W (hW : LTab W) (hR : RowM W v b.ms) => bcheck_any b v W hW hR hf)
  obtain ⟨C, hC⟩ : ∃ C, chkB b = C := ⟨_, rfl⟩
  obtain ⟨R, hR⟩ : ∃ R, aboveB mk b = R := ⟨_, rfl⟩
  rw [hC] at HC ⊢
  rw [hR]
  have HCR : Hid ((C = 0 ∧ R = aboveL mk b.ms ∧ b.ms.length ≤ 4096) ∨ (C = 2 ∧ R = [])) := hide (by
    rw [← hC, ← hR]
    unfold chkB aboveB
    cases ho : okB b with
    | true => left; exact ⟨rfl, rfl, okB_len ho⟩
    | false => right; exact ⟨rfl, rfl⟩)
  clear hC hR
  obtain ⟨va, nx, mr, la, ms⟩ := b
  simp only [bxV, bxC] at HC h HCR ⊢
  have HFM := hide h.choose_spec.choose_spec.2.2.1
  have HR := hide h
  obtain ⟨a, cap, rfl, hl, _, _⟩ := h
  obtain ⟨n, hnn⟩ : ∃ n, ms.length = n := ⟨_, rfl⟩
  rw [hnn] at HR HC hl HCR ⊢
  have HN := hide hnn
  clear hnn
  have HA := hide (show Below w.heap.size w (w.alloc (.cells #[.int .u32 (va : Int), .int .u64 (nx : Int), .int .u32 (mr : Int), .int .u32 (la : Int), .slice a n cap] 26)) from (Below.refl _ w).alloc (Nat.le_refl _) _)
  have K0 := hide (Blk.new w 26 #[.int .u32 (va : Int), .int .u64 (nx : Int), .int .u32 (mr : Int), .int .u32 (la : Int), .slice a n cap])
  have HRA := hide ((unhide HR).below (unhide HA))
  have HTA := hide (ht.below (unhide HA))
  clear ht hf
  go_enter Tryd.func34, Tryd.ntmps34
  go_wp2_with fail
  refine (unhide HC _ (unhide HTA) (unhide HRA)).mono ?_
  rintro e w1 ⟨rfl, b1⟩
  have HB := hide (belows' (unhide HA) b1)
  have HR1 := hide ((unhide HRA).below b1)
  have k0 := (unhide K0).below b1
  have c4 := k0.cell 4
  simp only [List.getElem?_toArray, List.getElem?_cons_succ, List.getElem?_cons_zero] at c4
  have hs1 := b1.size
  rw [World.size_alloc] at hs1
  clear b1 k0 K0 HC HTA HRA HA HR
  rcases unhide HCR with ⟨rfl, hRL, hn4⟩ | ⟨rfl, rfl⟩
  · have HRL := hide hRL
    clear hRL HCR
    go_wp2
    go_loopw [7, 9, 18] (fun y _ z wr => ∃ j : Nat, z = .int .i64 j ∧ j ≤ n ∧ Hid (wr.ownsRow w1.heap.size 22 1 y (aboveL mk (ms.take j)).length (flatG cells32 (aboveL mk (ms.take j)))) ∧ Hid (Below w1.heap.size w1 wr)) (fun _ _ z _ => n - (intOf z).toNat)
    case atStart => exact ⟨0, rfl, Nat.zero_le _, hide (World.ownsRow_nil _ _ _ _), hide (Below.refl _ _)⟩
    case round =>
      obtain ⟨j, rfl, hj, HO, HBJ⟩ := hrel
      by_cases hlt : j < n
      · have hlt1 : (j : Int) < (n : Int) := by omega
        have hjl : j < ms.length := by rw [unhide HN]; exact hlt
        obtain ⟨g, off, rfl, hg, hft, d0, d1, d2, d3, d4, d5⟩ := RowM.mail (unhide HR1) (unhide HBJ) hjl
        have HFT := hide (aboveL_take (mk := mk) hjl)
        have hll := aboveL_len mk (ms.take j)
        rw [List.length_take] at hll
        obtain ⟨ay, cy, hy, _⟩ := own_sliceG (unhide HO)
        subst hy
        generalize ms[j] = p at d0 d1 d2 d3 d4 d5 HFT hft
        obtain ⟨u, f, d, s, z, raw⟩ := p
        simp only at d0 d1 d2 d3 d4 d5 HFT
        have hu : u ≤ 4294967295 := hft.1
        have hAl : Below wr.heap.size wr (wr.alloc (.cells #[.int .u32 (u : Int), .int .u8 (f : Int), .int .i64 d, .int .i64 s, .int .i64 z, .string raw] 47)) := (Below.refl _ wr).alloc (Nat.le_refl _) _
        have HB2 := hide (belows' (unhide HBJ) hAl)
        have HO2 := hide (own_below (unhide HO) hAl)
        have hBs := (unhide HBJ).size
        by_cases hq : mk < u
        · have dq : decide (mk < u) = true := decide_eq_true hq
          rw [if_pos hq] at HFT
          obtain ⟨F, hF⟩ : ∃ F, F = aboveL mk (ms.take j) := ⟨_, rfl⟩
          rw [← hF] at HFT HO2 hll ⊢
          obtain ⟨v', w', hrun, h2, h3⟩ := run_app32 _ w1.heap.size (.slice ay F.length cy) F u 28 (unhide HO2) (by omega) (by rw [World.size_alloc]; omega)
          have H2 : Hid (w'.ownsRow w1.heap.size 22 1 v' (aboveL mk (ms.take (j + 1))).length (flatG cells32 (aboveL mk (ms.take (j + 1))))) := hide (by rw [unhide HFT]; exact h2)
          have H3 := hide ((unhide HB2).trans h3)
          rw [World.size_alloc] at hrun
          clear h2 h3 HFT HO2 HO hBs hq hF hft hAl hll HB2 HBJ
          generalize F.length = M at hrun ⊢
          go_wp2_with (at_builtin; refine wpList_append_runB (by rfl) _ _ 28 rfl rfl rfl rfl hrun ?_)
          exact ⟨⟨j + 1, by go_num, by omega, H2, H3⟩, by simp [intOf]; omega⟩
        · have dq : decide (mk < u) = false := decide_eq_false hq
          rw [if_neg hq, List.append_nil] at HFT
          rw [← unhide HFT] at HO2 ⊢
          clear HFT HO hBs hq hft hAl hll HBJ
          go_wp2
          exact ⟨⟨j + 1, by go_num, by omega, HO2, HB2⟩, by simp [intOf]; omega⟩
      · have hlt1 : ¬ (j : Int) < (n : Int) := by omega
        have hO := unhide HO
        rw [List.take_of_length_le (by rw [unhide HN]; omega), ← unhide HRL] at hO
        have HRR := hide (show OutT _ _ R from ⟨own_zero hO, (by rw [unhide HRL]; exact aboveL_fit (unhide HFM)), by have := aboveL_len mk ms; rw [← unhide HRL, unhide HN] at this; omega⟩)
        have hBs := (unhide HB).size
        have HBF := hide (belows' (unhide HB) (unhide HBJ))
        obtain ⟨ay, cy, hy, _⟩ := own_sliceG hO
        subst hy
        clear hO HO HBJ
        go_wp2
        refine bodyPost_ret (results_tmp2 rfl _ _ _) rfl ?_
        exact ⟨⟨_, rfl, unhide HRR⟩, unhide HBF⟩
  · go_wp2
    refine bodyPost_ret (results_tmp2 rfl _ _ _) rfl ?_
    exact ⟨⟨_, rfl, OutT.nil _⟩, unhide HB⟩
end Go.Proofs.YthpjogfclklefaaDoor
