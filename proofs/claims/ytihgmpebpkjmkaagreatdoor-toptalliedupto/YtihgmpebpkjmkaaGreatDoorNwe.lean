/-
  What nset.put does where the span touches the last one, over this seat's program.
-/
import Derived.Test.YtihgmpebpkjmkaaGreatDoorNwd
import Derived.BigRegion
set_option linter.unusedVariables false
namespace Go.Proofs.YtihgmpebpkjmkaaGreatDoor
open Go.RowKit Go.Proofs.Nst

set_option maxHeartbeats 2000000 in
set_option maxRecDepth 100000 in
theorem put_near (v : Value) (r : List Sp) (b s : Sp) (w : World) (B : Nat) (hown : w.ownsRow B 79 2 v (r ++ [b]).length (flatG cellsS (r ++ [b]))) (hB : B ≤ w.heap.size) (hL : (r ++ [b]).length ≤ 4194303) (hb2 : b.2 ≤ 4294967295) (hnear : ¬ b.2 + 1 < s.1) (hs : FitS s) :
    Calls Tryz.prog 36 #[v, .agg #[.int .u32 (s.1 : Int), .int .u32 (s.2 : Int)]] w fun e w' => ∃ v', e = .returned v' ∧ w'.ownsRow B 79 2 v' (putS (r ++ [b]) s).length (flatG cellsS (putS (r ++ [b]) s)) ∧ Below B w w' := by
  have hll : (r ++ [b]).length = r.length + 1 := by simp
  have hlast : r.length < (r ++ [b]).length := by omega
  have hset : (r ++ [b]).set r.length (b.1, max b.2 s.2) = r ++ [(b.1, max b.2 s.2)] := by simp
  obtain ⟨g, cg, hv2, hg, hgl, hcell, hfz⟩ := ownG_at cellsS_len hown hlast
  have hbl : (r ++ [b])[r.length] = b := by simp
  have c1 := hcell 1 (by omega)
  rw [hbl] at c1
  simp only [cellsS, List.getElem?_cons_succ, List.getElem?_cons_zero] at c1
  subst hv2
  have hlen2 : (putS (r ++ [b]) s).length = (r ++ [b]).length := by rw [putS_near hnear]; simp
  have HFIN : Hid (∀ q, ((((w.alloc (.cells #[.int .u32 (s.1 : Int), .int .u32 (s.2 : Int)] 79)).drewN q).setCell ⟨g, r.length * 2 + 1, none⟩ (.int .u32 ((max b.2 s.2 : Nat) : Int))).ownsRow B 79 2 (.slice (some ⟨g, 0, none⟩) (r ++ [b]).length cg) (putS (r ++ [b]) s).length (flatG cellsS (putS (r ++ [b]) s))) ∧ Below B w (((w.alloc (.cells #[.int .u32 (s.1 : Int), .int .u32 (s.2 : Int)] 79)).drewN q).setCell ⟨g, r.length * 2 + 1, none⟩ (.int .u32 ((max b.2 s.2 : Nat) : Int)))) := hide (fun q => by
    have hbw : Below w.heap.size w ((w.alloc (.cells #[.int .u32 (s.1 : Int), .int .u32 (s.2 : Int)] 79)).drewN q) := below_drewN (below_alloc0 _ _) _
    refine ⟨?_, ?_⟩
    · have hst := (own_below hown hbw).stored (r.length * 2 + 1) (.int .u32 ((max b.2 s.2 : Nat) : Int))
      rw [flatG_set cellsS_len (r ++ [b]) r.length hlast (b.1, max b.2 s.2) 1 (by omega) _ (by rw [hbl]; rfl), hset, ← putS_near hnear] at hst
      rw [hlen2]
      exact hst.1
    · exact (hbw.mono hB).setCell (p := ⟨g, r.length * 2 + 1, none⟩) hg _)
  have hfw := hfz (r.length * 2 + 1)
  obtain ⟨T, hT⟩ : ∃ T, T = (r ++ [b]).length := ⟨_, rfl⟩
  obtain ⟨q, hq⟩ : ∃ q, q = r.length := ⟨_, rfl⟩
  rw [← hT] at HFIN hlast hL ⊢
  rw [← hq] at c1 hlast HFIN hfw
  have hqT : q + 1 = T := by omega
  have hT4 : T ≤ 4194304 := by omega
  have hp1 := wrap_pred hqT hT4
  have hp2 := wrap64_pred hqT hT4
  have hI := fun W => index_runS g T cg q (q : Int) rfl hlast W
  have hs1 : s.1 ≤ 4294967295 := hs.1
  have hq0 : decide ((q : Int) < 0) = false := decide_eq_false (by omega)
  obtain ⟨x, hx⟩ : ∃ x, x = s.1 := ⟨_, rfl⟩
  obtain ⟨y, hy⟩ : ∃ y, y = s.2 := ⟨_, rfl⟩
  obtain ⟨z, hz⟩ : ∃ z, z = b.2 := ⟨_, rfl⟩
  rw [← hx, ← hy] at HFIN ⊢
  rw [← hx] at hs1 hnear
  rw [← hz] at c1 hb2 hnear HFIN
  have hu1 : IntKind.u64.wrap ((z : Int) + 1) = ((z + 1 : Nat) : Int) := by rw [IntKind.wrap_u64]; omega
  have HD1 : decide (z + 1 < x) = false := decide_eq_false hnear
  have hgt : ¬ (x : Int) > (z : Int) + 1 := by omega
  have hmx : ((max z y : Nat) : Int) = max (z : Int) (y : Int) := by omega
  rw [hmx] at HFIN
  generalize (putS (r ++ [b]) s).length = M at *
  clear hx hy hz hqT hT4 hlast hs hnear hown hcell hfz hll hT hq hbl hset hlen2 hmx
  go_enter Tryz.func36, Tryz.ntmps36
  go_wp2
  go_quiet (fail)
  go_wp2
  go_region
  all_goals
    have HF2 := hide (unhide HFIN (nq + 1))
    clear HFIN
    go_wp2
    go_ret
    exact ⟨_, rfl, (unhide HF2).1, (unhide HF2).2⟩

/-- put, whatever it is given. -/
theorem put_any (v : Value) (L : List Sp) (s : Sp) (w : World) (B : Nat) (hown : w.ownsRow B 79 2 v L.length (flatG cellsS L)) (hB : B ≤ w.heap.size) (hL : L.length ≤ 4194303) (hf : ∀ x ∈ L, FitS x) (hs : FitS s) :
    Calls Tryz.prog 36 #[v, .agg #[.int .u32 (s.1 : Int), .int .u32 (s.2 : Int)]] w fun e w' => ∃ v', e = .returned v' ∧ w'.ownsRow B 79 2 v' (putS L s).length (flatG cellsS (putS L s)) ∧ Below B w w' := by
  rcases snoc_cases L with rfl | ⟨r, b, rfl⟩
  · exact put_far v [] s w B hown hB hL hf (.inl rfl) hs
  · by_cases h : b.2 + 1 < s.1
    · exact put_far v _ s w B hown hB hL hf (.inr ⟨r, b, rfl, h⟩) hs
    · exact put_near v r b s w B hown hB hL (hf b (by simp)).2 h hs
theorem putS_fit {L : List Sp} {s : Sp} (hf : ∀ x ∈ L, FitS x) (hs : FitS s) : ∀ x ∈ putS L s, FitS x := by
  rcases snoc_cases L with rfl | ⟨r, b, rfl⟩
  · intro x hx; simp [putS_nil] at hx; rw [hx]; exact hs
  · have hb := hf b (by simp)
    by_cases h : b.2 + 1 < s.1
    · rw [putS_far h]
      intro x hx
      rcases List.mem_append.1 hx with hx | hx
      · exact hf x hx
      · simp at hx; rw [hx]; exact hs
    · rw [putS_near h]
      intro x hx
      rcases List.mem_append.1 hx with hx | hx
      · exact hf x (by simp [hx])
      · simp at hx
        rw [hx]
        exact ⟨hb.1, Nat.max_le.2 ⟨hb.2, hs.2⟩⟩
end Go.Proofs.YtihgmpebpkjmkaaGreatDoor
