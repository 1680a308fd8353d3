/-
  What missiveref04.Copy does, over this seat's program: the same file system, its files in new memory.
-/
import Derived.Test.YtmfkhbofmaonkaaDof
import Derived.Laws.OwnMore
set_option linter.unusedVariables false
set_option linter.unusedSimpArgs false
namespace Go.Proofs.Ytmfkhbofmaonkaa
open Go.RowKit Go.Proofs.Dsk

/-- An append of files that came in behind files of one's own. -/
theorem run_append_rowF (w : World) (B : Nat) (v x : Value) (k l : List File) (ty : TypeId) (hown : w.ownsRow B 56 3 v k.length (flatF k)) (hx : RowF w x l) (hnt : NeatF x) (hkl : k.length + l.length ≤ 2097152) (hB : B ≤ w.heap.size) :
    ∃ v' w', (Builtin.append_ #[22, 22] ty #[v, x]).run Try.prog w = .ok v' w' ∧ w'.ownsRow B 56 3 v' (k ++ l).length (flatF (k ++ l)) ∧ Below B w w' := by
  obtain ⟨i0, hi, hz0, hz1, hz2⟩ := info_parts fileInfo
  obtain ⟨a, cap, rfl, hl, hr, hc⟩ := hx
  cases a with
  | none =>
    obtain ⟨h0, rfl⟩ := hnt _ _ rfl
    have hl : l = [] := List.eq_nil_of_length_eq_zero h0
    subst hl
    refine ⟨v, w, run_append_owned_none (P := Try.prog) (w := w) B 22 ty 56 i0 3 Try.underlying22 hi v _ _ hown, by simpa using hown, Below.refl _ _⟩
  | some ad =>
    have hnews : ∀ j u, (flatF l)[j]? = some u → w.cell? (ad.add j) = some u := by
      intro j u hj
      rcases hc with hc | ⟨b, off, ha, hlt, hc⟩
      · subst hc; simp [flatF] at hj
      · obtain rfl := Option.some.inj ha
        rw [Addr.add_lit]
        exact hc j u hj
    obtain ⟨v', w', hrun, h2, h3, h4⟩ := run_append_own (P := Try.prog) w B 22 ty 56 i0 (.agg #[.string ByteArray.empty, .string ByteArray.empty, .int .i64 0]) 3 40 Try.underlying22 hi hz0 hz1 hz2 rfl (by decide) v k.length (flatF k) hown ad l.length cap (flatF l) (flatF_length l) hnews (flatF_one l) (by unfold maxLen; omega) (by omega) hB
    refine ⟨v', w', hrun, by rw [List.length_append, flatF_append]; exact h2, ?_⟩
    exact (Below.refl _ _).grown h3 hB (fun k hk => (hown.lt k hk).1)
theorem own_emptyF (w : World) : (w.alloc (.cells #[] 56)).ownsRow w.heap.size 56 3 (.slice (some ⟨w.heap.size, 0, none⟩) 0 0) ([] : List File).length (flatF []) :=
  World.ownsRow_lit w #[] 0 (Nat.le_refl _) (by unfold maxLen; omega) rfl

set_option maxHeartbeats 4000000 in
set_option maxRecDepth 100000 in
theorem refCopy_any (d : Fs) (v : Value) (w : World) (h : RowF w v d.files) (hnt : NeatF v) (hl : d.files.length ≤ 1048576) :
    Calls Try.prog 5 #[fsV d v] w fun e w' => ∃ v', e = .returned (fsV d v') ∧ w'.ownsRow w.heap.size 56 3 v' d.files.length (flatF d.files) ∧ Below w.heap.size w w' := by
  obtain ⟨a, cap, hv, h63, _, _⟩ := id h
  subst hv
  obtain ⟨N, hN⟩ : ∃ N, d.files.length = N := ⟨_, rfl⟩
  rw [hN] at h hnt h63 ⊢
  obtain ⟨W2, hW2⟩ : ∃ W2, W2 = (w.alloc (Obj.cells #[.int .i64 d.room, .slice a N cap, .int .i64 d.fuse, .int .i64 d.fault, .bool d.down] 24)).alloc (Obj.cells #[.int .i64 0, .slice none 0 0, .int .i64 0, .int .i64 0, .bool false] 24) := ⟨_, rfl⟩
  have hb2 : Below w.heap.size w W2 := by rw [hW2]; exact ((Below.refl _ w).alloc (Nat.le_refl _) _).alloc (by simp) _
  have hs2 : W2.heap.size = w.heap.size + 1 + 1 := by rw [hW2]; simp
  have z0 : Blk W2 w.heap.size 24 #[.int .i64 d.room, .slice a N cap, .int .i64 d.fuse, .int .i64 d.fault, .bool d.down] := by rw [hW2]; exact (Blk.new w _ _).below ((Below.refl _ _).alloc (Nat.le_refl _) _)
  have z1 : Blk W2 (w.heap.size + 1) 24 #[.int .i64 0, .slice none 0 0, .int .i64 0, .int .i64 0, .bool false] := by rw [hW2]; have := Blk.new (w.alloc (Obj.cells #[.int .i64 d.room, .slice a N cap, .int .i64 d.fuse, .int .i64 d.fault, .bool d.down] 24)) 24 #[.int .i64 0, .slice none 0 0, .int .i64 0, .int .i64 0, .bool false]; simpa only [World.size_alloc] using this
  have hbe : Below W2.heap.size W2 (W2.alloc (.cells #[] 56)) := (Below.refl _ _).alloc (Nat.le_refl _) _
  obtain ⟨v3, W3, hrun, hown, hb3⟩ := run_append_rowF (W2.alloc (.cells #[] 56)) W2.heap.size _ (.slice a N cap) [] d.files 22 (own_emptyF W2) (by exact (h.below hb2).below hbe) hnt (by simp; omega) (by simp)
  have hb23 : Below W2.heap.size W2 W3 := hbe.trans hb3
  have k0 := z0.below hb23
  have k1 := z1.below hb23
  rw [List.nil_append, hN] at hown
  obtain ⟨a3, cap3, rfl⟩ := own_form hown
  have c0 := k0.cell 0
  have c1 := k0.cell 1
  have c2 := k0.cell 2
  have c3 := k0.cell 3
  have c4 := k0.cell 4
  have g1 := k0.frozen 1
  have e1 := (z0.below hbe).cell 1
  have e1' := z0.cell 1
  simp only [List.getElem?_toArray, List.getElem?_cons_succ, List.getElem?_cons_zero] at c0 c1 c2 c3 c4 e1 e1'
  have kA := k0.set 1 (.slice a3 N cap3)
  have kB := blk_far (b := w.heap.size) (i := 1) k1 (by omega) (.slice a3 N cap3)
  have d0 := kA.cell 0
  have d1 := kA.cell 1
  have d2 := kA.cell 2
  have d3 := kA.cell 3
  have d4 := kA.cell 4
  have q0 := kB.cell 0
  have q1 := kB.cell 1
  have q2 := kB.cell 2
  have q3 := kB.cell 3
  have q4 := kB.cell 4
  have f0 := kB.frozen 0
  have f1 := kB.frozen 1
  have f2 := kB.frozen 2
  have f3 := kB.frozen 3
  have f4 := kB.frozen 4
  simp only [List.setIfInBounds_toArray, List.set_cons_zero, List.set_cons_succ, List.getElem?_toArray, List.getElem?_cons_succ, List.getElem?_cons_zero] at d0 d1 d2 d3 d4 q0 q1 q2 q3 q4
  have BW := hide (below5 (s := w.heap.size + 1) ((hb2.trans (hb23.mono (by omega))).setCell (p := ⟨w.heap.size, 1, none⟩) (Nat.le_refl _) (.slice a3 N cap3)) (by omega))
  have hne0 : (Value.slice a3 N cap3).ownBlock ≠ some w.heap.size := fun e => by have := (hown.lt _ e).1; omega
  have RO := hide (own5 (s := w.heap.size + 1) (own_set (B := w.heap.size) (i := 1) (u := .slice a3 N cap3) hown hne0) (by omega))
  have hle2 : w.heap.size + 1 < W2.heap.size := by omega
  clear hs2 hown hb3 hb23 k0 k1 kA kB z0 z1 hbe hb2 h hnt hne0 hN
  simp only [fsV]
  go_enter Try.func5, Try.ntmps5
  go_upto_region 1 with (fail)
  rw [← hW2]
  clear hW2
  go_wp2_with (at_builtin; refine Lib.wpList_append_run _ rfl _ _ _ _ rfl _ _ rfl rfl _ _ hrun ?_)
  (try simp only [Exit.inBlock, Exit.then])
  refine bodyPost_ret (v := .agg #[.int .i64 d.room, .slice a3 N cap3, .int .i64 d.fuse, .int .i64 d.fault, .bool d.down]) ?_ rfl ⟨_, rfl, own_mono (unhide RO _ _ _ _ _) (by omega), unhide BW _ _ _ _ _⟩
  rw [results_cell rfl]
  go_simp
end Go.Proofs.Ytmfkhbofmaonkaa
