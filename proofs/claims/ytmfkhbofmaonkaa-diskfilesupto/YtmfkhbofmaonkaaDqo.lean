/-
  What the document's with does (missiveref04), over this seat's program.
-/
import Derived.Test.YtmfkhbofmaonkaaDqi
import Derived.Test.YtmfkhbofmaonkaaInc
import Derived.Deep.QuietTactic
import Derived.BigQuiet
import Derived.Laws.Cover1
import Derived.Deep.RegionHeld3
set_option linter.unusedVariables false
set_option linter.unusedSimpArgs false
namespace Go.Proofs.Ytmfkhbofmaonkaa
open Go.RowKit Go.Proofs.Dsk

/-- An append of files behind files of one's own, with what it leaves. -/
theorem run_append_g (w : World) (B : Nat) (v x : Value) (k l : List File) (ty : TypeId) (hown : w.ownsRow B 56 3 v k.length (flatF k)) (hx : RowF w x l) (hnt : NeatF x) (hkl : k.length + l.length ≤ 2097152) (hB : B ≤ w.heap.size) :
    ∃ v' w', (Builtin.append_ #[22, 22] ty #[v, x]).run Try.prog w = .ok v' w' ∧ w'.ownsRow B 56 3 v' (k ++ l).length (flatF (k ++ l)) ∧ Below B w w' ∧ w.grownBy w' v.ownBlock := by
  obtain ⟨i0, hi, hz0, hz1, hz2⟩ := info_parts fileInfo
  obtain ⟨a, cap, rfl, hl, hr, hc⟩ := hx
  cases a with
  | none =>
    obtain ⟨h0, rfl⟩ := hnt _ _ rfl
    have hl : l = [] := List.eq_nil_of_length_eq_zero h0
    subst hl
    refine ⟨v, w, run_append_owned_none (P := Try.prog) (w := w) B 22 ty 56 i0 3 Try.underlying22 hi v _ _ hown, by simpa using hown, Below.refl _ _, ⟨rfl, rfl, rfl, Nat.le_refl _, fun _ _ _ => rfl⟩⟩
  | some ad =>
    have hnews : ∀ j u, (flatF l)[j]? = some u → w.cell? (ad.add j) = some u := by
      intro j u hj
      rcases hc with hc | ⟨b, off, ha, hlt, hc⟩
      · subst hc; simp [flatF] at hj
      · obtain rfl := Option.some.inj ha
        rw [Addr.add_lit]
        exact hc j u hj
    obtain ⟨v', w', hrun, h2, h3, h4⟩ := run_append_own (P := Try.prog) w B 22 ty 56 i0 (.agg #[.string ByteArray.empty, .string ByteArray.empty, .int .i64 0]) 3 40 Try.underlying22 hi hz0 hz1 hz2 rfl (by decide) v k.length (flatF k) hown ad l.length cap (flatF l) (flatF_length l) hnews (flatF_one l) (by unfold maxLen; omega) (by omega) hB
    refine ⟨v', w', hrun, by rw [List.length_append, flatF_append]; exact h2, ?_, h3⟩
    exact (Below.refl _ _).grown h3 hB (fun k hk => (hown.lt k hk).1)
theorem step_append_run {P : Program} {ops : Array Oper} {o : Oper} {a : Act} {w w' : World} {K : Act → World → Prop} {Q : Exit → Act → World → Prop} {E : Prop} (hgd : o.guard = none) (s x : Operand) (t tn : TypeId)
    (ho : o.op = .call { callee := .builtin .append, args := #[s, x], argTypes := #[t, tn] }) (vs vx v' : Value) (hs : a.eval s = vs) (hx : a.eval x = vx)
    (hr : (Builtin.append_ #[t, tn] o.type #[vs, vx]).run P w = .ok v' w') (h : K (a.put o.dst v') w') :
    if Region.wanted o (yielded ops a.tmps) = true then Oper.wp P o a w K Q else E := by
  have hw : Region.wanted o (yielded ops a.tmps) = true := by simp [Region.wanted, hgd]
  rw [if_pos hw]
  exact Lib.wp_append_run w s x t tn ho vs vx hs hx v' w' hr h
theorem rowF_upto {w : World} {a : Option Addr} {cap c : Nat} {l : List File} (h : RowF w (.slice a l.length cap) l) (hc : c ≤ l.length) : RowF w (sliced a 0 c cap 3) (l.take c) := by
  obtain ⟨a', cap', hv, hl, hn, hcs⟩ := h
  injection hv with e1 _ e3
  subst e1 e3
  refine ⟨_, _, by unfold sliced; rw [List.length_take, Nat.min_eq_left hc, Nat.sub_zero, Nat.sub_zero], by rw [List.length_take]; omega, fun f hf => hn f (List.mem_of_mem_take hf), ?_⟩
  rcases hcs with rfl | ⟨b, off, rfl, hlt, hcs⟩
  · exact .inl (by simp)
  · refine .inr ⟨b, off, ?_, hlt, fun j u hj => ?_⟩
    · by_cases h0 : cap = 0
      · rw [if_pos h0]
      · rw [if_neg h0, Nat.zero_mul, Option.map_some, Addr.add_lit, Nat.add_zero]
    · rw [flatF_take, List.getElem?_take] at hj
      split at hj
      · exact hcs j u hj
      · cases hj
theorem rowF_from {w : World} {a : Option Addr} {cap c : Nat} {l : List File} (h : RowF w (.slice a l.length cap) l) (hc : c ≤ l.length) (hcap : l.length ≤ cap) : RowF w (sliced a c l.length cap 3) (l.drop c) := by
  obtain ⟨a', cap', hv, hl, hn, hcs⟩ := h
  injection hv with e1 _ e3
  subst e1 e3
  refine ⟨_, _, by unfold sliced; rw [List.length_drop], by rw [List.length_drop]; omega, fun f hf => hn f (List.mem_of_mem_drop hf), ?_⟩
  by_cases h0 : cap = c
  · exact .inl (List.drop_of_length_le (by omega))
  · rcases hcs with rfl | ⟨b, off, rfl, hlt, hcs⟩
    · exact .inl (by simp)
    · refine .inr ⟨b, off + c * 3, by rw [if_neg h0, Option.map_some, Addr.add_lit], hlt, fun j u hj => ?_⟩
      rw [flatF_drop, List.getElem?_drop] at hj
      have := hcs _ _ hj
      rwa [← Nat.add_assoc] at this
theorem neat_sliced {a : Option Addr} {n cap f t : Nat} (h : NeatF (.slice a n cap)) (ht : t ≤ n) : NeatF (sliced a f t cap 3) := by
  intro m c he
  unfold sliced at he
  injection he with e1 e2 e3
  have ha : a = none := by
    by_cases h0 : cap = f
    · rwa [if_pos h0] at e1
    · rw [if_neg h0] at e1
      cases a with
      | none => rfl
      | some x => simp at e1
  subst ha
  obtain ⟨h1, h2⟩ := h _ _ rfl
  omega
theorem rowF_one {w : World} {q : Nat} {f : File} (h : Blk w q 56 #[.string f.name, .string f.data, .int .i64 f.synced]) (hf : Fits f) : RowF w (.slice (some ⟨q, 0, none⟩) 1 1) [f] := by
  refine ⟨_, _, rfl, by simp, by simpa using hf, .inr ⟨q, 0, rfl, h.lt, fun j u hj => ?_⟩⟩
  rw [Nat.zero_add, h.cell j]
  simpa [flatF, cellsF] using hj
theorem neat_one (q : Nat) : NeatF (.slice (some ⟨q, 0, none⟩) 1 1) := fun n c h => by simp at h
theorem neat_own {w : World} {C n : Nat} {v : Value} {xs : List Value} (h : w.ownsRow C 56 3 v n xs) : NeatF v := by
  intro m c he
  rcases h.2 with ⟨hv, h0⟩ | ⟨g, cap, cur, hv, _⟩
  · rw [hv] at he; injection he with _ e2 e3; omega
  · rw [hv] at he; simp at he
theorem own_cap {w : World} {C n : Nat} {v : Value} {xs : List Value} (h : w.ownsRow C 56 3 v n xs) : ∀ a m c, v = .slice a m c → m ≤ c := by
  intro a m c he
  rcases h.2 with ⟨hv, h0⟩ | ⟨g, cap, cur, hv, hb, hg, hn, _⟩
  · rw [hv] at he; injection he with _ e2 e3; omega
  · rw [hv] at he; injection he with _ e2 e3; omega
set_option maxRecDepth 100000 in
theorem uptoF_run (a : Option Addr) (n cap : Nat) (f : Nat) (htl : f ≤ cap) (w : World) :
    (Instr.slice 22 (.slice a n cap) none (some (.int .i64 (f : Int))) none).run Try.prog w = .ok (sliced a 0 f cap 3) w := by
  rw [run_slice_h (P := Try.prog) w 22 a n cap (by kernel_rfl) .i64 f (by omega) (by omega)]
  obtain ⟨i0, hi, hz0, hz1, hz2⟩ := info_parts fileInfo
  have he : Try.prog.elem 22 = 56 := by kernel_rfl
  rw [he]
  go_simp
theorem lb_is {l : List File} (h : Rise l) {n : ByteArray} {c : Nat} (hc : c ≤ l.length) (h1 : ∀ j (hj : j < l.length), j < c → lt l[j].name n) (h2 : ∀ hj : c < l.length, ¬ lt l[c].name n) : lb l n = c := by
  rcases Nat.lt_trichotomy (lb l n) c with hl | hl | hl
  · exact absurd (h1 (lb l n) (by omega) hl) (lb_behind h (by omega) (Nat.le_refl _))
  · exact hl
  · have hcl : c < l.length := Nat.lt_of_lt_of_le hl (lb_le l n)
    exact absurd (lb_before h hcl hl) (h2 hcl)

set_option maxHeartbeats 8000000 in
set_option maxRecDepth 100000 in
/-- with puts a file in at its place. -/
theorem refWith_any (l : List File) (v : Value) (nm dt : ByteArray) (sy : Int) (w : World) (hri : Rise l) (hl : l.length ≤ 1048576) (h : RowF w v l) (hnt : NeatF v) (hcp : ∀ a n c, v = .slice a n c → n ≤ c) (hft : Fits ⟨nm, dt, sy⟩) :
    Calls Try.prog 44 #[v, .agg #[.string nm, .string dt, .int .i64 sy]] w fun e w' => ∃ v', e = .returned v' ∧ w'.ownsRow w.heap.size 56 3 v' (l.insertIdx (lb l nm) ⟨nm, dt, sy⟩).length (flatF (l.insertIdx (lb l nm) ⟨nm, dt, sy⟩)) ∧ Below w.heap.size w w' := by
  obtain ⟨a, cap, hv, h63, _, hc⟩ := id h
  subst hv
  have hcap := hcp _ _ _ rfl
  obtain ⟨N, hN⟩ : ∃ N, l.length = N := ⟨_, rfl⟩
  have HN := hide hN
  have HRI := hide hri
  have HR0 := hide h
  have HC := hide hc
  rw [hN] at hnt hcap hl h63 ⊢
  have hb1 : Below w.heap.size w (w.alloc (Obj.cells #[.string nm, .string dt, .int .i64 sy] 56)) := (Below.refl _ w).alloc (Nat.le_refl _) _
  have k1 := Blk.new w 56 #[.string nm, .string dt, .int .i64 sy]
  have HB1 := hide hb1
  have HK1 := hide k1
  clear hN hri h hc hb1 k1 hcp
  go_enter Try.func44, Try.ntmps44
  go_wp2
  generalize (w.alloc (Obj.cells #[.string nm, .string dt, .int .i64 sy] 56)) = U at *
  go_loopw [5] (fun z wr => ∃ c : Nat, z = .int .i64 (c : Int) ∧ c ≤ N ∧ Hid (∀ j (h : j < l.length), j < c → lt l[j].name nm) ∧ Hid (Below w.heap.size w wr) ∧ Hid (Blk wr w.heap.size 56 #[.string nm, .string dt, .int .i64 sy])) (fun z _ => N - (intOf z).toNat)
  case atStart => exact ⟨0, rfl, Nat.zero_le _, hide (fun j _ h => by omega), HB1, HK1⟩
  case round =>
    obtain ⟨c, rfl, hk, HA, HB, HK⟩ := hrel
    have q0 := (unhide HK).cell 0
    simp only [List.getElem?_toArray, List.getElem?_cons_zero] at q0
    by_cases hlt : c < N
    · have hlt1 : (c : Int) < (N : Int) := by omega
      have d1 : decide ((c : Int) < (N : Int)) = true := decide_eq_true hlt1
      have d1n : decide (c < N) = true := decide_eq_true hlt
      have hcl : c < l.length := by have := unhide HN; omega
      have hcl0 : c ≤ l.length := by omega
      obtain ⟨b, off, rfl, hb, hce⟩ : ∃ b off, a = some ⟨b, off, none⟩ ∧ b < w.heap.size ∧ ∀ j u, (flatF l)[j]? = some u → w.cell? ⟨b, off + j, none⟩ = some u := by
        rcases unhide HC with h0 | h0
        · rw [h0] at hcl; simp at hcl
        · exact h0
      obtain ⟨p0, _, _⟩ := row_cells hce hcl
      have y0 : wr.cell? ⟨b, off + c * 3, none⟩ = some (.string l[c].name) := ((unhide HB).cell (p := ⟨b, off + c * 3, none⟩) hb).trans p0
      have b1 := lessS l[c].name nm
      by_cases o1 : lt l[c].name nm
      · rw [decide_eq_true o1] at b1
        have HA2 : Hid (∀ j (h : j < l.length), j < c + 1 → lt l[j].name nm) := hide (fun j h hj => by
          rcases Nat.lt_or_ge j c with h1 | h1
          · exact unhide HA j h h1
          · obtain rfl : j = c := by omega
            exact o1)
        clear p0 hce o1 HA
        generalize l[c].name = n0 at *
        go_wp2
        go_quiet (fail)
        go_wp2
        exact ⟨⟨c + 1, by go_num, by omega, HA2, hide (below_drN (unhide HB) _), hide ((unhide HK).below (below_drN (Below.refl _ _) _))⟩, by simp [intOf]; omega⟩
      · rw [decide_eq_false o1] at b1
        have HO := hide o1
        clear p0 hce o1
        generalize hn0 : l[c].name = n0 at b1 y0
        go_wp2
        go_quiet (fail)
        go_wp2
        clear y0 q0 b1 hn0
        have HB9 := hide (below_drN (unhide HB) nq)
        have HK9 := hide ((unhide HK).below (below_drN (Below.refl _ _) nq))
        have HRV := hide ((unhide HR0).below (below_drN (unhide HB) nq))
        clear HB HK
        have HB := HB9
        have HK := HK9
        clear HB9 HK9
        generalize wr.drewN nq = V at *
        have HIN : Hid (l.insertIdx (lb l nm) ⟨nm, dt, sy⟩ = [] ++ l.take c ++ [⟨nm, dt, sy⟩] ++ l.drop c) := hide (by rw [lb_is (unhide HRI) hcl0 (unhide HA) (fun _ => unhide HO), insertIdx_eq ⟨nm, dt, sy⟩ l c hcl0]; simp)
        have RA := hide (rowF_upto (c := c) (unhide HRV) hcl0)
        have RB := hide (rowF_from (c := c) (unhide HRV) hcl0 (by have := unhide HN; omega))
        rw [unhide HN] at RB
        have nA := neat_sliced (f := 0) (t := c) hnt (by have := unhide HN; omega)
        have nB := neat_sliced (f := c) (t := N) hnt (by omega)
        have hsA := fun W => uptoF_run (some ⟨b, off, none⟩) N cap c (by omega) W
        have hsB := fun W => fromF_run (some ⟨b, off, none⟩) N cap c (by omega) W
        generalize sliced (some ⟨b, off, none⟩) 0 c cap 3 = pA at RA nA hsA
        generalize sliced (some ⟨b, off, none⟩) c N cap 3 = pB at RB nB hsB
        have bD : Below V.heap.size V V.drew := below_dr1 (Below.refl _ _)
        have HS : Hid (∀ X, Below V.heap.size V X → (fun w' => w'.cell? ⟨w.heap.size, 0, none⟩ = some (.string nm) ∧ w'.cell? ⟨w.heap.size, 1, none⟩ = some (.string dt) ∧ w'.cell? ⟨w.heap.size, 2, none⟩ = some (.int .i64 sy)) X) := hide (fun X hX => by
            have k := (unhide HK).below hX
            have c0 := k.cell 0
            have c1 := k.cell 1
            have c2 := k.cell 2
            simp only [List.getElem?_toArray, List.getElem?_cons_succ, List.getElem?_cons_zero] at c0 c1 c2
            exact ⟨c0, c1, c2⟩)
        clear HA HRV HRI
        refine wp_region_held_drew (S := fun w' => w'.cell? ⟨w.heap.size, 0, none⟩ = some (.string nm) ∧ w'.cell? ⟨w.heap.size, 1, none⟩ = some (.string dt) ∧ w'.cell? ⟨w.heap.size, 2, none⟩ = some (.int .i64 sy)) (by kernel_rfl) ?_ (fun hHeld => ?_)
        · exact unhide HS _ bD
        refine wpAnyH_take (i := 1) (v := .slice (some ⟨b, off, none⟩) N cap) rfl (by kernel_rfl) (by kernel_rfl) (by kernel_rfl) (fun _ _ _ h => h) (Or.inl ⟨by rfl, fun wS hSw => ?_⟩) (by assumption) ?_
        · (try dsimp only at hSw); go_simp
        (try simp only [Act.put, List.setIfInBounds_toArray, List.set_cons_zero, List.set_cons_succ])
        refine wpAnyH_take (i := 2) (v := .int .i64 (c : Int)) rfl (by kernel_rfl) (by kernel_rfl) (by kernel_rfl) (fun _ _ _ h => h) (Or.inl ⟨by rfl, fun wS hSw => ?_⟩) (by assumption) ?_
        · (try dsimp only at hSw); go_simp
        (try simp only [Act.put, List.setIfInBounds_toArray, List.set_cons_zero, List.set_cons_succ])
        refine wpAnyH_take (i := 3) (v := pA) rfl (by kernel_rfl) (by kernel_rfl) (by kernel_rfl) (fun _ _ _ h => h) (Or.inl ⟨by rfl, fun wS hSw => ?_⟩) (by assumption) ?_
        · (try dsimp only at hSw); go_simp
        (try simp only [Act.put, List.setIfInBounds_toArray, List.set_cons_zero, List.set_cons_succ])
        refine wpAnyH_take (i := 5) (v := .agg #[.string nm, .string dt, .int .i64 sy]) rfl (by kernel_rfl) (by kernel_rfl) (by kernel_rfl) (fun _ _ _ h => h) (Or.inl ⟨by rfl, fun wS hSw => ?_⟩) (by assumption) ?_
        · (try dsimp only at hSw); go_simp
        (try simp only [Act.put, List.setIfInBounds_toArray, List.set_cons_zero, List.set_cons_succ])
        refine wpAnyH_take (i := 8) (v := .slice (some ⟨b, off, none⟩) N cap) rfl (by kernel_rfl) (by kernel_rfl) (by kernel_rfl) (fun _ _ _ h => h) (Or.inl ⟨by rfl, fun wS hSw => ?_⟩) (by assumption) ?_
        · (try dsimp only at hSw); go_simp
        (try simp only [Act.put, List.setIfInBounds_toArray, List.set_cons_zero, List.set_cons_succ])
        refine wpAnyH_take (i := 9) (v := .int .i64 (c : Int)) rfl (by kernel_rfl) (by kernel_rfl) (by kernel_rfl) (fun _ _ _ h => h) (Or.inl ⟨by rfl, fun wS hSw => ?_⟩) (by assumption) ?_
        · (try dsimp only at hSw); go_simp
        (try simp only [Act.put, List.setIfInBounds_toArray, List.set_cons_zero, List.set_cons_succ])
        refine wpAnyH_take (i := 10) (v := pB) rfl (by kernel_rfl) (by kernel_rfl) (by kernel_rfl) (fun _ _ _ h => h) (Or.inl ⟨by rfl, fun wS hSw => ?_⟩) (by assumption) ?_
        · (try dsimp only at hSw); go_simp
        (try simp only [Act.put, List.setIfInBounds_toArray, List.set_cons_zero, List.set_cons_succ])
        refine wpAnyH_ready (rs := [0, 6]) (by kernel_rfl) (by simp) ?_
        refine (AllReadyH.cons rfl (fun K hK => ?_) (AllReadyH.cons rfl (fun K hK => ?_) AllReadyH.nil))
        · go_simp
          refine hK.out _ _ ?_ (fun hHeld => ?_)
          · exact unhide HS _ ((bD).alloc (Nat.le_refl _) _)
          clear hK K
          (try simp only [Act.put, List.setIfInBounds_toArray, List.set_cons_zero, List.set_cons_succ])
          refine wpAnyH_ready (rs := [4, 6]) (by kernel_rfl) (by simp) ?_
          refine (AllReadyH.cons rfl (fun K hK => ?_) (AllReadyH.cons rfl (fun K hK => ?_) AllReadyH.nil))
          · have b1 : Below V.heap.size V (V.drew.alloc (.cells #[] 56)) := bD.alloc (Nat.le_refl _) _
            obtain ⟨v1, Y1, hr1, own1, bb1, gr1⟩ := run_append_g (V.drew.alloc (.cells #[] 56)) V.heap.size _ pA [] (l.take c) 22 (own_emptyF V.drew) ((unhide RA).below b1) nA (by have := unhide HN; simp only [List.length_append, List.length_take, List.length_drop, List.length_cons, List.length_nil]; omega) (by simp)
            refine step_append_run rfl (.tmp 22) (.tmp 25) 22 22 rfl _ _ _ (by simp [Act.eval]) (by simp [Act.eval]) hr1 ?_
            clear hr1
            refine hK.out _ _ ?_ (fun hHeld => ?_)
            · exact unhide HS _ (b1.trans bb1)
            clear hK K
            (try simp only [Act.put, List.setIfInBounds_toArray, List.set_cons_zero, List.set_cons_succ])
            refine wpAnyH_ready (rs := [6]) (by kernel_rfl) (by simp) ?_
            refine AllReadyH.cons rfl (fun K hK => ?_) AllReadyH.nil
            have b2 : Below V.heap.size V Y1 := b1.trans bb1
            have hs2 := b2.size
            go_simp
            refine hK.out _ _ ?_ (fun hHeld => ?_)
            · exact unhide HS _ (b2.alloc hs2 _)
            clear hK K
            (try simp only [Act.put, List.setIfInBounds_toArray, List.set_cons_zero, List.set_cons_succ])
            refine wpAnyH_ready (rs := [7]) (by kernel_rfl) (by simp) ?_
            refine AllReadyH.cons rfl (fun K hK => ?_) AllReadyH.nil
            have b3 : Below V.heap.size V (Y1.alloc (.cells #[.string nm, .string dt, .int .i64 sy] 56)) := b2.alloc hs2 _
            have K3 : Blk (Y1.alloc (.cells #[.string nm, .string dt, .int .i64 sy] 56)) Y1.heap.size 56 #[.string nm, .string dt, .int .i64 sy] := Blk.new Y1 56 #[.string nm, .string dt, .int .i64 sy]
            obtain ⟨v2, Y2, hr2, own2, bb2, gr2⟩ := run_append_g (Y1.alloc (.cells #[.string nm, .string dt, .int .i64 sy] 56)) V.heap.size _ (.slice (some ⟨Y1.heap.size, 0, none⟩) 1 1) ([] ++ l.take c) [⟨nm, dt, sy⟩] 22 (own_below own1 ((Below.refl (Y1).heap.size (Y1)).alloc (Nat.le_refl _) _)) (rowF_one (f := ⟨nm, dt, sy⟩) K3 hft) (neat_one _) (by have := unhide HN; simp only [List.length_append, List.length_take, List.length_drop, List.length_cons, List.length_nil]; omega) b3.size
            refine step_append_run rfl (.tmp 26) (.tmp 28) 22 22 rfl _ _ _ (by simp [Act.eval]) (by simp [Act.eval]) hr2 ?_
            clear hr2
            refine hK.out _ _ ?_ (fun hHeld => ?_)
            · exact unhide HS _ (b3.trans bb2)
            clear hK K
            (try simp only [Act.put, List.setIfInBounds_toArray, List.set_cons_zero, List.set_cons_succ])
            refine wpAnyH_ready (rs := [11]) (by kernel_rfl) (by simp) ?_
            refine AllReadyH.cons rfl (fun K hK => ?_) AllReadyH.nil
            have b4 : Below V.heap.size V Y2 := b3.trans bb2
            obtain ⟨v3, Y3, hr3, own3, bb3, gr3⟩ := run_append_g (Y2) V.heap.size _ pB ([] ++ l.take c ++ [⟨nm, dt, sy⟩]) (l.drop c) 22 own2 ((unhide RB).below b4) nB (by have := unhide HN; simp only [List.length_append, List.length_take, List.length_drop, List.length_cons, List.length_nil]; omega) b4.size
            refine step_append_run rfl (.tmp 29) (.tmp 32) 22 22 rfl _ _ _ (by simp [Act.eval]) (by simp [Act.eval]) hr3 ?_
            clear hr3
            refine hK.out _ _ ?_ (fun hHeld => ?_)
            · exact unhide HS _ (b4.trans bb3)
            clear hK K
            (try simp only [Act.put, List.setIfInBounds_toArray, List.set_cons_zero, List.set_cons_succ])
            refine wpAnyH_ready (rs := [12]) (by kernel_rfl) (by simp) ?_
            refine AllReadyH.cons rfl (fun K hK => ?_) AllReadyH.nil
            go_simp
            refine hK.out _ _ ?_ (fun hHeld => ?_)
            · exact hHeld
            clear hK K
            (try simp only [Act.put, List.setIfInBounds_toArray, List.set_cons_zero, List.set_cons_succ])
            refine wpAnyH_done (by kernel_rfl) ?_ _
            have O9 := hide own3
            have B9 := hide (b4.trans bb3)
            clear own1 own2 own3 hHeld gr1 gr2 gr3 bb1 bb2 bb3
            go_wp2
            go_ret
            exact ⟨_, rfl, by rw [unhide HIN] at *; exact own_mono (unhide O9) (unhide HB).size, belows (unhide HB) (unhide B9)⟩
          · have b1 : Below V.heap.size V (V.drew.alloc (.cells #[] 56)) := bD.alloc (Nat.le_refl _) _
            have hs1 := b1.size
            go_simp
            refine hK.out _ _ ?_ (fun hHeld => ?_)
            · exact unhide HS _ (b1.alloc hs1 _)
            clear hK K
            (try simp only [Act.put, List.setIfInBounds_toArray, List.set_cons_zero, List.set_cons_succ])
            refine wpAnyH_ready (rs := [4]) (by kernel_rfl) (by simp) ?_
            refine AllReadyH.cons rfl (fun K hK => ?_) AllReadyH.nil
            have b2 : Below V.heap.size V ((V.drew.alloc (.cells #[] 56)).alloc (.cells #[.string nm, .string dt, .int .i64 sy] 56)) := b1.alloc hs1 _
            have K2 : Blk ((V.drew.alloc (.cells #[] 56)).alloc (.cells #[.string nm, .string dt, .int .i64 sy] 56)) (V.drew.alloc (.cells #[] 56)).heap.size 56 #[.string nm, .string dt, .int .i64 sy] := Blk.new (V.drew.alloc (.cells #[] 56)) 56 #[.string nm, .string dt, .int .i64 sy]
            obtain ⟨v1, Y1, hr1, own1, bb1, gr1⟩ := run_append_g ((V.drew.alloc (.cells #[] 56)).alloc (.cells #[.string nm, .string dt, .int .i64 sy] 56)) V.heap.size _ pA [] (l.take c) 22 (own_below (own_emptyF V.drew) ((Below.refl (V.drew.alloc (.cells #[] 56)).heap.size (V.drew.alloc (.cells #[] 56))).alloc (Nat.le_refl _) _)) ((unhide RA).below b2) nA (by have := unhide HN; simp only [List.length_append, List.length_take, List.length_drop, List.length_cons, List.length_nil]; omega) b2.size
            refine step_append_run rfl (.tmp 22) (.tmp 25) 22 22 rfl _ _ _ (by simp [Act.eval]) (by simp [Act.eval]) hr1 ?_
            clear hr1
            refine hK.out _ _ ?_ (fun hHeld => ?_)
            · exact unhide HS _ (b2.trans bb1)
            clear hK K
            (try simp only [Act.put, List.setIfInBounds_toArray, List.set_cons_zero, List.set_cons_succ])
            refine wpAnyH_ready (rs := [7]) (by kernel_rfl) (by simp) ?_
            refine AllReadyH.cons rfl (fun K hK => ?_) AllReadyH.nil
            have b3 : Below V.heap.size V Y1 := b2.trans bb1
            have K3 := blk_grownO K2 gr1 (by simp [Value.ownBlock])
            simp only [World.size_alloc] at K3
            obtain ⟨v2, Y2, hr2, own2, bb2, gr2⟩ := run_append_g (Y1) V.heap.size _ (.slice (some ⟨V.drew.heap.size + 1, 0, none⟩) 1 1) ([] ++ l.take c) [⟨nm, dt, sy⟩] 22 own1 (rowF_one (f := ⟨nm, dt, sy⟩) K3 hft) (neat_one _) (by have := unhide HN; simp only [List.length_append, List.length_take, List.length_drop, List.length_cons, List.length_nil]; omega) b3.size
            refine step_append_run rfl (.tmp 26) (.tmp 28) 22 22 rfl _ _ _ (by simp [Act.eval]) (by simp [Act.eval]) hr2 ?_
            clear hr2
            refine hK.out _ _ ?_ (fun hHeld => ?_)
            · exact unhide HS _ (b3.trans bb2)
            clear hK K
            (try simp only [Act.put, List.setIfInBounds_toArray, List.set_cons_zero, List.set_cons_succ])
            refine wpAnyH_ready (rs := [11]) (by kernel_rfl) (by simp) ?_
            refine AllReadyH.cons rfl (fun K hK => ?_) AllReadyH.nil
            have b4 : Below V.heap.size V Y2 := b3.trans bb2
            obtain ⟨v3, Y3, hr3, own3, bb3, gr3⟩ := run_append_g (Y2) V.heap.size _ pB ([] ++ l.take c ++ [⟨nm, dt, sy⟩]) (l.drop c) 22 own2 ((unhide RB).below b4) nB (by have := unhide HN; simp only [List.length_append, List.length_take, List.length_drop, List.length_cons, List.length_nil]; omega) b4.size
            refine step_append_run rfl (.tmp 29) (.tmp 32) 22 22 rfl _ _ _ (by simp [Act.eval]) (by simp [Act.eval]) hr3 ?_
            clear hr3
            refine hK.out _ _ ?_ (fun hHeld => ?_)
            · exact unhide HS _ (b4.trans bb3)
            clear hK K
            (try simp only [Act.put, List.setIfInBounds_toArray, List.set_cons_zero, List.set_cons_succ])
            refine wpAnyH_ready (rs := [12]) (by kernel_rfl) (by simp) ?_
            refine AllReadyH.cons rfl (fun K hK => ?_) AllReadyH.nil
            go_simp
            refine hK.out _ _ ?_ (fun hHeld => ?_)
            · exact hHeld
            clear hK K
            (try simp only [Act.put, List.setIfInBounds_toArray, List.set_cons_zero, List.set_cons_succ])
            refine wpAnyH_done (by kernel_rfl) ?_ _
            have O9 := hide own3
            have B9 := hide (b4.trans bb3)
            clear own1 own2 own3 hHeld gr1 gr2 gr3 bb1 bb2 bb3
            go_wp2
            go_ret
            exact ⟨_, rfl, by rw [unhide HIN] at *; exact own_mono (unhide O9) (unhide HB).size, belows (unhide HB) (unhide B9)⟩
        · go_simp
          refine hK.out _ _ ?_ (fun hHeld => ?_)
          · exact unhide HS _ ((bD).alloc (Nat.le_refl _) _)
          clear hK K
          (try simp only [Act.put, List.setIfInBounds_toArray, List.set_cons_zero, List.set_cons_succ])
          refine wpAnyH_ready (rs := [0]) (by kernel_rfl) (by simp) ?_
          refine AllReadyH.cons rfl (fun K hK => ?_) AllReadyH.nil
          have b1 : Below V.heap.size V (V.drew.alloc (.cells #[.string nm, .string dt, .int .i64 sy] 56)) := bD.alloc (Nat.le_refl _) _
          have hs1 := b1.size
          go_simp
          refine hK.out _ _ ?_ (fun hHeld => ?_)
          · exact unhide HS _ (b1.alloc hs1 _)
          clear hK K
          (try simp only [Act.put, List.setIfInBounds_toArray, List.set_cons_zero, List.set_cons_succ])
          refine wpAnyH_ready (rs := [4]) (by kernel_rfl) (by simp) ?_
          refine AllReadyH.cons rfl (fun K hK => ?_) AllReadyH.nil
          have b2 : Below V.heap.size V ((V.drew.alloc (.cells #[.string nm, .string dt, .int .i64 sy] 56)).alloc (.cells #[] 56)) := b1.alloc hs1 _
          have K2 : Blk ((V.drew.alloc (.cells #[.string nm, .string dt, .int .i64 sy] 56)).alloc (.cells #[] 56)) V.drew.heap.size 56 #[.string nm, .string dt, .int .i64 sy] := (Blk.new V.drew 56 #[.string nm, .string dt, .int .i64 sy]).below ((Below.refl (V.drew.alloc (.cells #[.string nm, .string dt, .int .i64 sy] 56)).heap.size (V.drew.alloc (.cells #[.string nm, .string dt, .int .i64 sy] 56))).alloc (Nat.le_refl _) _)
          have oe := own_emptyF (V.drew.alloc (.cells #[.string nm, .string dt, .int .i64 sy] 56))
          simp only [World.size_alloc] at oe
          obtain ⟨v1, Y1, hr1, own1, bb1, gr1⟩ := run_append_g ((V.drew.alloc (.cells #[.string nm, .string dt, .int .i64 sy] 56)).alloc (.cells #[] 56)) V.heap.size _ pA [] (l.take c) 22 (own_mono oe (by simp)) ((unhide RA).below b2) nA (by have := unhide HN; simp only [List.length_append, List.length_take, List.length_drop, List.length_cons, List.length_nil]; omega) b2.size
          refine step_append_run rfl (.tmp 22) (.tmp 25) 22 22 rfl _ _ _ (by simp [Act.eval]) (by simp [Act.eval]) hr1 ?_
          clear hr1
          refine hK.out _ _ ?_ (fun hHeld => ?_)
          · exact unhide HS _ (b2.trans bb1)
          clear hK K
          (try simp only [Act.put, List.setIfInBounds_toArray, List.set_cons_zero, List.set_cons_succ])
          refine wpAnyH_ready (rs := [7]) (by kernel_rfl) (by simp) ?_
          refine AllReadyH.cons rfl (fun K hK => ?_) AllReadyH.nil
          have b3 : Below V.heap.size V Y1 := b2.trans bb1
          have K3 := blk_grownO K2 gr1 (by simp [Value.ownBlock])
          obtain ⟨v2, Y2, hr2, own2, bb2, gr2⟩ := run_append_g (Y1) V.heap.size _ (.slice (some ⟨V.drew.heap.size, 0, none⟩) 1 1) ([] ++ l.take c) [⟨nm, dt, sy⟩] 22 own1 (rowF_one (f := ⟨nm, dt, sy⟩) K3 hft) (neat_one _) (by have := unhide HN; simp only [List.length_append, List.length_take, List.length_drop, List.length_cons, List.length_nil]; omega) b3.size
          refine step_append_run rfl (.tmp 26) (.tmp 28) 22 22 rfl _ _ _ (by simp [Act.eval]) (by simp [Act.eval]) hr2 ?_
          clear hr2
          refine hK.out _ _ ?_ (fun hHeld => ?_)
          · exact unhide HS _ (b3.trans bb2)
          clear hK K
          (try simp only [Act.put, List.setIfInBounds_toArray, List.set_cons_zero, List.set_cons_succ])
          refine wpAnyH_ready (rs := [11]) (by kernel_rfl) (by simp) ?_
          refine AllReadyH.cons rfl (fun K hK => ?_) AllReadyH.nil
          have b4 : Below V.heap.size V Y2 := b3.trans bb2
          obtain ⟨v3, Y3, hr3, own3, bb3, gr3⟩ := run_append_g (Y2) V.heap.size _ pB ([] ++ l.take c ++ [⟨nm, dt, sy⟩]) (l.drop c) 22 own2 ((unhide RB).below b4) nB (by have := unhide HN; simp only [List.length_append, List.length_take, List.length_drop, List.length_cons, List.length_nil]; omega) b4.size
          refine step_append_run rfl (.tmp 29) (.tmp 32) 22 22 rfl _ _ _ (by simp [Act.eval]) (by simp [Act.eval]) hr3 ?_
          clear hr3
          refine hK.out _ _ ?_ (fun hHeld => ?_)
          · exact unhide HS _ (b4.trans bb3)
          clear hK K
          (try simp only [Act.put, List.setIfInBounds_toArray, List.set_cons_zero, List.set_cons_succ])
          refine wpAnyH_ready (rs := [12]) (by kernel_rfl) (by simp) ?_
          refine AllReadyH.cons rfl (fun K hK => ?_) AllReadyH.nil
          go_simp
          refine hK.out _ _ ?_ (fun hHeld => ?_)
          · exact hHeld
          clear hK K
          (try simp only [Act.put, List.setIfInBounds_toArray, List.set_cons_zero, List.set_cons_succ])
          refine wpAnyH_done (by kernel_rfl) ?_ _
          have O9 := hide own3
          have B9 := hide (b4.trans bb3)
          clear own1 own2 own3 hHeld gr1 gr2 gr3 bb1 bb2 bb3
          go_wp2
          go_ret
          exact ⟨_, rfl, by rw [unhide HIN] at *; exact own_mono (unhide O9) (unhide HB).size, belows (unhide HB) (unhide B9)⟩
    · have hcN : c = N := by omega
      have hlt1 : ¬ (c : Int) < (N : Int) := by omega
      have d1 : decide ((c : Int) < (N : Int)) = false := decide_eq_false hlt1
      have d1n : decide (c < N) = false := decide_eq_false hlt
      have hcl0 : c ≤ l.length := by have := unhide HN; omega
      have HCN := hide hcN
      clear hcN
      go_wp2
      go_quiet (fail)
      go_wp2
      clear q0
      have HB9 := hide (below_drN (unhide HB) nq)
      have HK9 := hide ((unhide HK).below (below_drN (Below.refl _ _) nq))
      have HRV := hide ((unhide HR0).below (below_drN (unhide HB) nq))
      clear HB HK
      have HB := HB9
      have HK := HK9
      clear HB9 HK9
      generalize wr.drewN nq = V at *
      have HIN : Hid (l.insertIdx (lb l nm) ⟨nm, dt, sy⟩ = [] ++ l.take c ++ [⟨nm, dt, sy⟩] ++ l.drop c) := hide (by rw [lb_is (unhide HRI) hcl0 (unhide HA) (fun h => absurd h (by have := unhide HN; omega)), insertIdx_eq ⟨nm, dt, sy⟩ l c hcl0]; simp)
      have RA := hide (rowF_upto (c := c) (unhide HRV) hcl0)
      have RB := hide (rowF_from (c := c) (unhide HRV) hcl0 (by have := unhide HN; omega))
      rw [unhide HN] at RB
      have nA := neat_sliced (f := 0) (t := c) hnt (by have := unhide HN; omega)
      have nB := neat_sliced (f := c) (t := N) hnt (by omega)
      have hsA := fun W => uptoF_run a N cap c (by omega) W
      have hsB := fun W => fromF_run a N cap c (by omega) W
      generalize sliced a 0 c cap 3 = pA at RA nA hsA
      generalize sliced a c N cap 3 = pB at RB nB hsB
      have bD : Below V.heap.size V V.drew := below_dr1 (Below.refl _ _)
      have HS : Hid (∀ X, Below V.heap.size V X → (fun w' => w'.cell? ⟨w.heap.size, 0, none⟩ = some (.string nm) ∧ w'.cell? ⟨w.heap.size, 1, none⟩ = some (.string dt) ∧ w'.cell? ⟨w.heap.size, 2, none⟩ = some (.int .i64 sy)) X) := hide (fun X hX => by
          have k := (unhide HK).below hX
          have c0 := k.cell 0
          have c1 := k.cell 1
          have c2 := k.cell 2
          simp only [List.getElem?_toArray, List.getElem?_cons_succ, List.getElem?_cons_zero] at c0 c1 c2
          exact ⟨c0, c1, c2⟩)
      clear HA HRV HRI
      refine wp_region_held_drew (S := fun w' => w'.cell? ⟨w.heap.size, 0, none⟩ = some (.string nm) ∧ w'.cell? ⟨w.heap.size, 1, none⟩ = some (.string dt) ∧ w'.cell? ⟨w.heap.size, 2, none⟩ = some (.int .i64 sy)) (by kernel_rfl) ?_ (fun hHeld => ?_)
      · exact unhide HS _ bD
      refine wpAnyH_take (i := 1) (v := .slice a N cap) rfl (by kernel_rfl) (by kernel_rfl) (by kernel_rfl) (fun _ _ _ h => h) (Or.inl ⟨by rfl, fun wS hSw => ?_⟩) (by assumption) ?_
      · (try dsimp only at hSw); go_simp
      (try simp only [Act.put, List.setIfInBounds_toArray, List.set_cons_zero, List.set_cons_succ])
      refine wpAnyH_take (i := 2) (v := .int .i64 (c : Int)) rfl (by kernel_rfl) (by kernel_rfl) (by kernel_rfl) (fun _ _ _ h => h) (Or.inl ⟨by rfl, fun wS hSw => ?_⟩) (by assumption) ?_
      · (try dsimp only at hSw); go_simp
      (try simp only [Act.put, List.setIfInBounds_toArray, List.set_cons_zero, List.set_cons_succ])
      refine wpAnyH_take (i := 3) (v := pA) rfl (by kernel_rfl) (by kernel_rfl) (by kernel_rfl) (fun _ _ _ h => h) (Or.inl ⟨by rfl, fun wS hSw => ?_⟩) (by assumption) ?_
      · (try dsimp only at hSw); go_simp
      (try simp only [Act.put, List.setIfInBounds_toArray, List.set_cons_zero, List.set_cons_succ])
      refine wpAnyH_take (i := 5) (v := .agg #[.string nm, .string dt, .int .i64 sy]) rfl (by kernel_rfl) (by kernel_rfl) (by kernel_rfl) (fun _ _ _ h => h) (Or.inl ⟨by rfl, fun wS hSw => ?_⟩) (by assumption) ?_
      · (try dsimp only at hSw); go_simp
      (try simp only [Act.put, List.setIfInBounds_toArray, List.set_cons_zero, List.set_cons_succ])
      refine wpAnyH_take (i := 8) (v := .slice a N cap) rfl (by kernel_rfl) (by kernel_rfl) (by kernel_rfl) (fun _ _ _ h => h) (Or.inl ⟨by rfl, fun wS hSw => ?_⟩) (by assumption) ?_
      · (try dsimp only at hSw); go_simp
      (try simp only [Act.put, List.setIfInBounds_toArray, List.set_cons_zero, List.set_cons_succ])
      refine wpAnyH_take (i := 9) (v := .int .i64 (c : Int)) rfl (by kernel_rfl) (by kernel_rfl) (by kernel_rfl) (fun _ _ _ h => h) (Or.inl ⟨by rfl, fun wS hSw => ?_⟩) (by assumption) ?_
      · (try dsimp only at hSw); go_simp
      (try simp only [Act.put, List.setIfInBounds_toArray, List.set_cons_zero, List.set_cons_succ])
      refine wpAnyH_take (i := 10) (v := pB) rfl (by kernel_rfl) (by kernel_rfl) (by kernel_rfl) (fun _ _ _ h => h) (Or.inl ⟨by rfl, fun wS hSw => ?_⟩) (by assumption) ?_
      · (try dsimp only at hSw); go_simp
      (try simp only [Act.put, List.setIfInBounds_toArray, List.set_cons_zero, List.set_cons_succ])
      refine wpAnyH_ready (rs := [0, 6]) (by kernel_rfl) (by simp) ?_
      refine (AllReadyH.cons rfl (fun K hK => ?_) (AllReadyH.cons rfl (fun K hK => ?_) AllReadyH.nil))
      · go_simp
        refine hK.out _ _ ?_ (fun hHeld => ?_)
        · exact unhide HS _ ((bD).alloc (Nat.le_refl _) _)
        clear hK K
        (try simp only [Act.put, List.setIfInBounds_toArray, List.set_cons_zero, List.set_cons_succ])
        refine wpAnyH_ready (rs := [4, 6]) (by kernel_rfl) (by simp) ?_
        refine (AllReadyH.cons rfl (fun K hK => ?_) (AllReadyH.cons rfl (fun K hK => ?_) AllReadyH.nil))
        · have b1 : Below V.heap.size V (V.drew.alloc (.cells #[] 56)) := bD.alloc (Nat.le_refl _) _
          obtain ⟨v1, Y1, hr1, own1, bb1, gr1⟩ := run_append_g (V.drew.alloc (.cells #[] 56)) V.heap.size _ pA [] (l.take c) 22 (own_emptyF V.drew) ((unhide RA).below b1) nA (by have := unhide HN; simp only [List.length_append, List.length_take, List.length_drop, List.length_cons, List.length_nil]; omega) (by simp)
          refine step_append_run rfl (.tmp 22) (.tmp 25) 22 22 rfl _ _ _ (by simp [Act.eval]) (by simp [Act.eval]) hr1 ?_
          clear hr1
          refine hK.out _ _ ?_ (fun hHeld => ?_)
          · exact unhide HS _ (b1.trans bb1)
          clear hK K
          (try simp only [Act.put, List.setIfInBounds_toArray, List.set_cons_zero, List.set_cons_succ])
          refine wpAnyH_ready (rs := [6]) (by kernel_rfl) (by simp) ?_
          refine AllReadyH.cons rfl (fun K hK => ?_) AllReadyH.nil
          have b2 : Below V.heap.size V Y1 := b1.trans bb1
          have hs2 := b2.size
          go_simp
          refine hK.out _ _ ?_ (fun hHeld => ?_)
          · exact unhide HS _ (b2.alloc hs2 _)
          clear hK K
          (try simp only [Act.put, List.setIfInBounds_toArray, List.set_cons_zero, List.set_cons_succ])
          refine wpAnyH_ready (rs := [7]) (by kernel_rfl) (by simp) ?_
          refine AllReadyH.cons rfl (fun K hK => ?_) AllReadyH.nil
          have b3 : Below V.heap.size V (Y1.alloc (.cells #[.string nm, .string dt, .int .i64 sy] 56)) := b2.alloc hs2 _
          have K3 : Blk (Y1.alloc (.cells #[.string nm, .string dt, .int .i64 sy] 56)) Y1.heap.size 56 #[.string nm, .string dt, .int .i64 sy] := Blk.new Y1 56 #[.string nm, .string dt, .int .i64 sy]
          obtain ⟨v2, Y2, hr2, own2, bb2, gr2⟩ := run_append_g (Y1.alloc (.cells #[.string nm, .string dt, .int .i64 sy] 56)) V.heap.size _ (.slice (some ⟨Y1.heap.size, 0, none⟩) 1 1) ([] ++ l.take c) [⟨nm, dt, sy⟩] 22 (own_below own1 ((Below.refl (Y1).heap.size (Y1)).alloc (Nat.le_refl _) _)) (rowF_one (f := ⟨nm, dt, sy⟩) K3 hft) (neat_one _) (by have := unhide HN; simp only [List.length_append, List.length_take, List.length_drop, List.length_cons, List.length_nil]; omega) b3.size
          refine step_append_run rfl (.tmp 26) (.tmp 28) 22 22 rfl _ _ _ (by simp [Act.eval]) (by simp [Act.eval]) hr2 ?_
          clear hr2
          refine hK.out _ _ ?_ (fun hHeld => ?_)
          · exact unhide HS _ (b3.trans bb2)
          clear hK K
          (try simp only [Act.put, List.setIfInBounds_toArray, List.set_cons_zero, List.set_cons_succ])
          refine wpAnyH_ready (rs := [11]) (by kernel_rfl) (by simp) ?_
          refine AllReadyH.cons rfl (fun K hK => ?_) AllReadyH.nil
          have b4 : Below V.heap.size V Y2 := b3.trans bb2
          obtain ⟨v3, Y3, hr3, own3, bb3, gr3⟩ := run_append_g (Y2) V.heap.size _ pB ([] ++ l.take c ++ [⟨nm, dt, sy⟩]) (l.drop c) 22 own2 ((unhide RB).below b4) nB (by have := unhide HN; simp only [List.length_append, List.length_take, List.length_drop, List.length_cons, List.length_nil]; omega) b4.size
          refine step_append_run rfl (.tmp 29) (.tmp 32) 22 22 rfl _ _ _ (by simp [Act.eval]) (by simp [Act.eval]) hr3 ?_
          clear hr3
          refine hK.out _ _ ?_ (fun hHeld => ?_)
          · exact unhide HS _ (b4.trans bb3)
          clear hK K
          (try simp only [Act.put, List.setIfInBounds_toArray, List.set_cons_zero, List.set_cons_succ])
          refine wpAnyH_ready (rs := [12]) (by kernel_rfl) (by simp) ?_
          refine AllReadyH.cons rfl (fun K hK => ?_) AllReadyH.nil
          go_simp
          refine hK.out _ _ ?_ (fun hHeld => ?_)
          · exact hHeld
          clear hK K
          (try simp only [Act.put, List.setIfInBounds_toArray, List.set_cons_zero, List.set_cons_succ])
          refine wpAnyH_done (by kernel_rfl) ?_ _
          have O9 := hide own3
          have B9 := hide (b4.trans bb3)
          clear own1 own2 own3 hHeld gr1 gr2 gr3 bb1 bb2 bb3
          go_wp2
          go_ret
          exact ⟨_, rfl, by rw [unhide HIN] at *; exact own_mono (unhide O9) (unhide HB).size, belows (unhide HB) (unhide B9)⟩
        · have b1 : Below V.heap.size V (V.drew.alloc (.cells #[] 56)) := bD.alloc (Nat.le_refl _) _
          have hs1 := b1.size
          go_simp
          refine hK.out _ _ ?_ (fun hHeld => ?_)
          · exact unhide HS _ (b1.alloc hs1 _)
          clear hK K
          (try simp only [Act.put, List.setIfInBounds_toArray, List.set_cons_zero, List.set_cons_succ])
          refine wpAnyH_ready (rs := [4]) (by kernel_rfl) (by simp) ?_
          refine AllReadyH.cons rfl (fun K hK => ?_) AllReadyH.nil
          have b2 : Below V.heap.size V ((V.drew.alloc (.cells #[] 56)).alloc (.cells #[.string nm, .string dt, .int .i64 sy] 56)) := b1.alloc hs1 _
          have K2 : Blk ((V.drew.alloc (.cells #[] 56)).alloc (.cells #[.string nm, .string dt, .int .i64 sy] 56)) (V.drew.alloc (.cells #[] 56)).heap.size 56 #[.string nm, .string dt, .int .i64 sy] := Blk.new (V.drew.alloc (.cells #[] 56)) 56 #[.string nm, .string dt, .int .i64 sy]
          obtain ⟨v1, Y1, hr1, own1, bb1, gr1⟩ := run_append_g ((V.drew.alloc (.cells #[] 56)).alloc (.cells #[.string nm, .string dt, .int .i64 sy] 56)) V.heap.size _ pA [] (l.take c) 22 (own_below (own_emptyF V.drew) ((Below.refl (V.drew.alloc (.cells #[] 56)).heap.size (V.drew.alloc (.cells #[] 56))).alloc (Nat.le_refl _) _)) ((unhide RA).below b2) nA (by have := unhide HN; simp only [List.length_append, List.length_take, List.length_drop, List.length_cons, List.length_nil]; omega) b2.size
          refine step_append_run rfl (.tmp 22) (.tmp 25) 22 22 rfl _ _ _ (by simp [Act.eval]) (by simp [Act.eval]) hr1 ?_
          clear hr1
          refine hK.out _ _ ?_ (fun hHeld => ?_)
          · exact unhide HS _ (b2.trans bb1)
          clear hK K
          (try simp only [Act.put, List.setIfInBounds_toArray, List.set_cons_zero, List.set_cons_succ])
          refine wpAnyH_ready (rs := [7]) (by kernel_rfl) (by simp) ?_
          refine AllReadyH.cons rfl (fun K hK => ?_) AllReadyH.nil
          have b3 : Below V.heap.size V Y1 := b2.trans bb1
          have K3 := blk_grownO K2 gr1 (by simp [Value.ownBlock])
          simp only [World.size_alloc] at K3
          obtain ⟨v2, Y2, hr2, own2, bb2, gr2⟩ := run_append_g (Y1) V.heap.size _ (.slice (some ⟨V.drew.heap.size + 1, 0, none⟩) 1 1) ([] ++ l.take c) [⟨nm, dt, sy⟩] 22 own1 (rowF_one (f := ⟨nm, dt, sy⟩) K3 hft) (neat_one _) (by have := unhide HN; simp only [List.length_append, List.length_take, List.length_drop, List.length_cons, List.length_nil]; omega) b3.size
          refine step_append_run rfl (.tmp 26) (.tmp 28) 22 22 rfl _ _ _ (by simp [Act.eval]) (by simp [Act.eval]) hr2 ?_
          clear hr2
          refine hK.out _ _ ?_ (fun hHeld => ?_)
          · exact unhide HS _ (b3.trans bb2)
          clear hK K
          (try simp only [Act.put, List.setIfInBounds_toArray, List.set_cons_zero, List.set_cons_succ])
          refine wpAnyH_ready (rs := [11]) (by kernel_rfl) (by simp) ?_
          refine AllReadyH.cons rfl (fun K hK => ?_) AllReadyH.nil
          have b4 : Below V.heap.size V Y2 := b3.trans bb2
          obtain ⟨v3, Y3, hr3, own3, bb3, gr3⟩ := run_append_g (Y2) V.heap.size _ pB ([] ++ l.take c ++ [⟨nm, dt, sy⟩]) (l.drop c) 22 own2 ((unhide RB).below b4) nB (by have := unhide HN; simp only [List.length_append, List.length_take, List.length_drop, List.length_cons, List.length_nil]; omega) b4.size
          refine step_append_run rfl (.tmp 29) (.tmp 32) 22 22 rfl _ _ _ (by simp [Act.eval]) (by simp [Act.eval]) hr3 ?_
          clear hr3
          refine hK.out _ _ ?_ (fun hHeld => ?_)
          · exact unhide HS _ (b4.trans bb3)
          clear hK K
          (try simp only [Act.put, List.setIfInBounds_toArray, List.set_cons_zero, List.set_cons_succ])
          refine wpAnyH_ready (rs := [12]) (by kernel_rfl) (by simp) ?_
          refine AllReadyH.cons rfl (fun K hK => ?_) AllReadyH.nil
          go_simp
          refine hK.out _ _ ?_ (fun hHeld => ?_)
          · exact hHeld
          clear hK K
          (try simp only [Act.put, List.setIfInBounds_toArray, List.set_cons_zero, List.set_cons_succ])
          refine wpAnyH_done (by kernel_rfl) ?_ _
          have O9 := hide own3
          have B9 := hide (b4.trans bb3)
          clear own1 own2 own3 hHeld gr1 gr2 gr3 bb1 bb2 bb3
          go_wp2
          go_ret
          exact ⟨_, rfl, by rw [unhide HIN] at *; exact own_mono (unhide O9) (unhide HB).size, belows (unhide HB) (unhide B9)⟩
      · go_simp
        refine hK.out _ _ ?_ (fun hHeld => ?_)
        · exact unhide HS _ ((bD).alloc (Nat.le_refl _) _)
        clear hK K
        (try simp only [Act.put, List.setIfInBounds_toArray, List.set_cons_zero, List.set_cons_succ])
        refine wpAnyH_ready (rs := [0]) (by kernel_rfl) (by simp) ?_
        refine AllReadyH.cons rfl (fun K hK => ?_) AllReadyH.nil
        have b1 : Below V.heap.size V (V.drew.alloc (.cells #[.string nm, .string dt, .int .i64 sy] 56)) := bD.alloc (Nat.le_refl _) _
        have hs1 := b1.size
        go_simp
        refine hK.out _ _ ?_ (fun hHeld => ?_)
        · exact unhide HS _ (b1.alloc hs1 _)
        clear hK K
        (try simp only [Act.put, List.setIfInBounds_toArray, List.set_cons_zero, List.set_cons_succ])
        refine wpAnyH_ready (rs := [4]) (by kernel_rfl) (by simp) ?_
        refine AllReadyH.cons rfl (fun K hK => ?_) AllReadyH.nil
        have b2 : Below V.heap.size V ((V.drew.alloc (.cells #[.string nm, .string dt, .int .i64 sy] 56)).alloc (.cells #[] 56)) := b1.alloc hs1 _
        have K2 : Blk ((V.drew.alloc (.cells #[.string nm, .string dt, .int .i64 sy] 56)).alloc (.cells #[] 56)) V.drew.heap.size 56 #[.string nm, .string dt, .int .i64 sy] := (Blk.new V.drew 56 #[.string nm, .string dt, .int .i64 sy]).below ((Below.refl (V.drew.alloc (.cells #[.string nm, .string dt, .int .i64 sy] 56)).heap.size (V.drew.alloc (.cells #[.string nm, .string dt, .int .i64 sy] 56))).alloc (Nat.le_refl _) _)
        have oe := own_emptyF (V.drew.alloc (.cells #[.string nm, .string dt, .int .i64 sy] 56))
        simp only [World.size_alloc] at oe
        obtain ⟨v1, Y1, hr1, own1, bb1, gr1⟩ := run_append_g ((V.drew.alloc (.cells #[.string nm, .string dt, .int .i64 sy] 56)).alloc (.cells #[] 56)) V.heap.size _ pA [] (l.take c) 22 (own_mono oe (by simp)) ((unhide RA).below b2) nA (by have := unhide HN; simp only [List.length_append, List.length_take, List.length_drop, List.length_cons, List.length_nil]; omega) b2.size
        refine step_append_run rfl (.tmp 22) (.tmp 25) 22 22 rfl _ _ _ (by simp [Act.eval]) (by simp [Act.eval]) hr1 ?_
        clear hr1
        refine hK.out _ _ ?_ (fun hHeld => ?_)
        · exact unhide HS _ (b2.trans bb1)
        clear hK K
        (try simp only [Act.put, List.setIfInBounds_toArray, List.set_cons_zero, List.set_cons_succ])
        refine wpAnyH_ready (rs := [7]) (by kernel_rfl) (by simp) ?_
        refine AllReadyH.cons rfl (fun K hK => ?_) AllReadyH.nil
        have b3 : Below V.heap.size V Y1 := b2.trans bb1
        have K3 := blk_grownO K2 gr1 (by simp [Value.ownBlock])
        obtain ⟨v2, Y2, hr2, own2, bb2, gr2⟩ := run_append_g (Y1) V.heap.size _ (.slice (some ⟨V.drew.heap.size, 0, none⟩) 1 1) ([] ++ l.take c) [⟨nm, dt, sy⟩] 22 own1 (rowF_one (f := ⟨nm, dt, sy⟩) K3 hft) (neat_one _) (by have := unhide HN; simp only [List.length_append, List.length_take, List.length_drop, List.length_cons, List.length_nil]; omega) b3.size
        refine step_append_run rfl (.tmp 26) (.tmp 28) 22 22 rfl _ _ _ (by simp [Act.eval]) (by simp [Act.eval]) hr2 ?_
        clear hr2
        refine hK.out _ _ ?_ (fun hHeld => ?_)
        · exact unhide HS _ (b3.trans bb2)
        clear hK K
        (try simp only [Act.put, List.setIfInBounds_toArray, List.set_cons_zero, List.set_cons_succ])
        refine wpAnyH_ready (rs := [11]) (by kernel_rfl) (by simp) ?_
        refine AllReadyH.cons rfl (fun K hK => ?_) AllReadyH.nil
        have b4 : Below V.heap.size V Y2 := b3.trans bb2
        obtain ⟨v3, Y3, hr3, own3, bb3, gr3⟩ := run_append_g (Y2) V.heap.size _ pB ([] ++ l.take c ++ [⟨nm, dt, sy⟩]) (l.drop c) 22 own2 ((unhide RB).below b4) nB (by have := unhide HN; simp only [List.length_append, List.length_take, List.length_drop, List.length_cons, List.length_nil]; omega) b4.size
        refine step_append_run rfl (.tmp 29) (.tmp 32) 22 22 rfl _ _ _ (by simp [Act.eval]) (by simp [Act.eval]) hr3 ?_
        clear hr3
        refine hK.out _ _ ?_ (fun hHeld => ?_)
        · exact unhide HS _ (b4.trans bb3)
        clear hK K
        (try simp only [Act.put, List.setIfInBounds_toArray, List.set_cons_zero, List.set_cons_succ])
        refine wpAnyH_ready (rs := [12]) (by kernel_rfl) (by simp) ?_
        refine AllReadyH.cons rfl (fun K hK => ?_) AllReadyH.nil
        go_simp
        refine hK.out _ _ ?_ (fun hHeld => ?_)
        · exact hHeld
        clear hK K
        (try simp only [Act.put, List.setIfInBounds_toArray, List.set_cons_zero, List.set_cons_succ])
        refine wpAnyH_done (by kernel_rfl) ?_ _
        have O9 := hide own3
        have B9 := hide (b4.trans bb3)
        clear own1 own2 own3 hHeld gr1 gr2 gr3 bb1 bb2 bb3
        go_wp2
        go_ret
        exact ⟨_, rfl, by rw [unhide HIN] at *; exact own_mono (unhide O9) (unhide HB).size, belows (unhide HB) (unhide B9)⟩
end Go.Proofs.Ytmfkhbofmaonkaa
