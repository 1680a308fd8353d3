/-
  What disk.workOn does, over this seat's program; a row of files beside a block that is written.
-/
import Derived.Test.YtmfkhbofmaonkaaWon
set_option linter.unusedVariables false
namespace Go.Proofs.Ytmfkhbofmaonkaa
open Go.RowKit Go.Proofs.Dsk

theorem grown5 (W : World) (s : Nat) (u0 u1 u2 u3 u4 : Value) : W.grownBy (((((W.setCell ⟨s, 0, none⟩ u0).setCell ⟨s, 1, none⟩ u1).setCell ⟨s, 2, none⟩ u2).setCell ⟨s, 3, none⟩ u3).setCell ⟨s, 4, none⟩ u4) (some s) :=
  grown_trans (grown_trans (grown_trans (grown_trans (grown1 W s 0 u0) (grown1 _ s 1 u1)) (grown1 _ s 2 u2)) (grown1 _ s 3 u3)) (grown1 _ s 4 u4)

/-- A row of files is none of the blocks that have no text. -/
theorem rowF5 {W : World} {v : Value} {l : List File} {s : Nat} {t : TypeId} {cs : Array Value} (h : RowF W v l) (hb : Blk W s t cs) (hs : ∀ (i : Nat) (x : ByteArray), cs[i]? ≠ some (.string x)) :
    ∀ u0 u1 u2 u3 u4, RowF (((((W.setCell ⟨s, 0, none⟩ u0).setCell ⟨s, 1, none⟩ u1).setCell ⟨s, 2, none⟩ u2).setCell ⟨s, 3, none⟩ u3).setCell ⟨s, 4, none⟩ u4) v l := by
  intro u0 u1 u2 u3 u4
  have hg := grown5 W s u0 u1 u2 u3 u4
  obtain ⟨a, cap, hv, h6, hf, hc⟩ := h
  refine ⟨a, cap, hv, h6, hf, ?_⟩
  rcases hc with hc | ⟨b, off, ha, hlt, hc⟩
  · exact Or.inl hc
  · refine Or.inr ⟨b, off, ha, Nat.lt_of_lt_of_le hlt hg.size, fun j u hj => ?_⟩
    have hne : some b ≠ some s := by
      intro e
      simp only [Option.some.injEq] at e
      subst e
      cases l with
      | nil => simp [flatF] at hj
      | cons f l =>
        have := hc 0 (.string f.name) (by simp [flatF, cellsF])
        rw [hb.cell] at this
        exact hs _ _ this
    exact hg.cell (a := ⟨b, off + j, none⟩) (hc j u hj) hne

set_option maxHeartbeats 2000000 in
set_option maxRecDepth 100000 in
theorem workOn_any (d : Fs) (v : Value) (n : ByteArray) (g : Nat) (bs : Array Value) (F : Nat → Fs → Fs × Nat) (w : World) (hfit : FitAll d) (h : RowF w v d.files) (eg : ∀ args w, (callFunc g args).run Try.prog w = .ok (.enter g args) w)
    (hdo : Good d → has d.files n = true → ∀ W C B, w.heap.size ≤ C → Below w.heap.size w W → Sys W C B d → Calls Try.prog g (#[.pointer (some ⟨B, 0, none⟩), .int .i64 (lb d.files n : Nat)] ++ bs) W fun e W' => e = .returned (.int .i64 (F (lb d.files n) d).2) ∧ Sys W' C B (F (lb d.files n) d).1 ∧ Below C W W') :
    Calls Try.prog 45 #[fsV d v, .string n, .func (.func g) #[] bs] w fun e w' => ∃ v', e = .returned (.tuple #[fsV (workR d (onR n F)).1 v', .int .i64 (workR d (onR n F)).2]) ∧ RowF w' v' (workR d (onR n F)).1.files ∧ FitAll (workR d (onR n F)).1 ∧ Below w.heap.size w w' := by
  have hb : Below w.heap.size w ((((w.alloc (Obj.cells #[.int .i64 d.room, v, .int .i64 d.fuse, .int .i64 d.fault, .bool d.down] 24)).alloc (Obj.cells #[.string n] 9)).alloc (Obj.cells #[.func (.func g) #[] bs] 65)).alloc (Obj.cells #[.int .i64 0, .slice none 0 0, .int .i64 0, .int .i64 0, .bool false] 24)) := (((((Below.refl _ w).alloc (by first | omega | (simp only [World.size_alloc]; omega)) (Obj.cells #[.int .i64 d.room, v, .int .i64 d.fuse, .int .i64 d.fault, .bool d.down] 24)).alloc (by first | omega | (simp only [World.size_alloc]; omega)) (Obj.cells #[.string n] 9)).alloc (by first | omega | (simp only [World.size_alloc]; omega)) (Obj.cells #[.func (.func g) #[] bs] 65)).alloc (by first | omega | (simp only [World.size_alloc]; omega)) (Obj.cells #[.int .i64 0, .slice none 0 0, .int .i64 0, .int .i64 0, .bool false] 24))
  have q1 := (((Blk.new (w.alloc (Obj.cells #[.int .i64 d.room, v, .int .i64 d.fuse, .int .i64 d.fault, .bool d.down] 24)) 9 #[.string n]).below ((Below.refl _ _).alloc (Nat.le_refl _) (Obj.cells #[.func (.func g) #[] bs] 65))).below ((Below.refl _ _).alloc (Nat.le_refl _) (Obj.cells #[.int .i64 0, .slice none 0 0, .int .i64 0, .int .i64 0, .bool false] 24)))
  simp only [World.size_alloc] at q1
  have q2 := ((Blk.new ((w.alloc (Obj.cells #[.int .i64 d.room, v, .int .i64 d.fuse, .int .i64 d.fault, .bool d.down] 24)).alloc (Obj.cells #[.string n] 9)) 65 #[.func (.func g) #[] bs]).below ((Below.refl _ _).alloc (Nat.le_refl _) (Obj.cells #[.int .i64 0, .slice none 0 0, .int .i64 0, .int .i64 0, .bool false] 24)))
  simp only [World.size_alloc] at q2
  have hsz : ((((w.alloc (Obj.cells #[.int .i64 d.room, v, .int .i64 d.fuse, .int .i64 d.fault, .bool d.down] 24)).alloc (Obj.cells #[.string n] 9)).alloc (Obj.cells #[.func (.func g) #[] bs] 65)).alloc (Obj.cells #[.int .i64 0, .slice none 0 0, .int .i64 0, .int .i64 0, .bool false] 24)).heap.size = w.heap.size + 1 + 1 + 1 + 1 := by simp only [World.size_alloc]
  have HW := hide (work_any d v 68 #[.pointer (some ⟨w.heap.size + 1, 0, none⟩), .pointer (some ⟨w.heap.size + 1 + 1, 0, none⟩)] (onR n F) ((((w.alloc (Obj.cells #[.int .i64 d.room, v, .int .i64 d.fuse, .int .i64 d.fault, .bool d.down] 24)).alloc (Obj.cells #[.string n] 9)).alloc (Obj.cells #[.func (.func g) #[] bs] 65)).alloc (Obj.cells #[.int .i64 0, .slice none 0 0, .int .i64 0, .int .i64 0, .bool false] 24)) hfit (h.below hb) (enters_of Try.func68 (by kernel_rfl) rfl) (fun hg W C B hC hB hS => workOn1_any d n g bs F W C B _ _ hg hS (q1.below hB) (q2.below hB) eg (fun hh W' hB' hS' => hdo hg hh W' C B (by omega) (hb.trans ((hB.trans (hB'.mono hB.size)).mono hb.size)) hS')))
  have z := Blk.new (((w.alloc (Obj.cells #[.int .i64 d.room, v, .int .i64 d.fuse, .int .i64 d.fault, .bool d.down] 24)).alloc (Obj.cells #[.string n] 9)).alloc (Obj.cells #[.func (.func g) #[] bs] 65)) 24 #[.int .i64 0, .slice none 0 0, .int .i64 0, .int .i64 0, .bool false]
  simp only [World.size_alloc] at z
  have HZ := hide z
  have HB := hide hb
  obtain ⟨a, cap, rfl, _, _, _⟩ := h
  clear z hb hsz q1 q2
  generalize workR d (onR n F) = res at HW ⊢
  obtain ⟨d5, n5⟩ := res
  simp only [fsV] at HW ⊢
  go_enter Try.func45, Try.ntmps45
  go_wp2_with fail
  refine (unhide HW).mono ?_
  rintro e w5 ⟨v5, rfl, hrow5, hfit5, b5⟩
  have k := (unhide HZ).below b5
  have RB := hide (below5 (s := w.heap.size + 1 + 1 + 1) ((unhide HB).trans (b5.mono (unhide HB).size)) (by omega))
  have RR := hide (rowF5 hrow5 k (by intro i x; match i with | 0 | 1 | 2 | 3 | 4 => simp | i + 5 => simp))
  have HF5 := hide hfit5
  have e0 := k.cell 0
  have e1 := k.cell 1
  have e2 := k.cell 2
  have e3 := k.cell 3
  have e4 := k.cell 4
  have f0 := k.frozen 0
  have f1 := k.frozen 1
  have f2 := k.frozen 2
  have f3 := k.frozen 3
  have f4 := k.frozen 4
  simp only [List.getElem?_toArray, List.getElem?_cons_succ, List.getElem?_cons_zero] at e0 e1 e2 e3 e4
  obtain ⟨a5, cap5, rfl, _, _, _⟩ := hrow5
  clear k b5 hfit5 HW
  go_wp2
  (try simp only [Exit.inBlock, Exit.then])
  refine bodyPost_ret (v := .tuple #[.agg #[.int .i64 d5.room, .slice a5 d5.files.length cap5, .int .i64 d5.fuse, .int .i64 d5.fault, .bool d5.down], .int .i64 n5]) ?_ rfl ⟨_, rfl, unhide RR _ _ _ _ _, unhide HF5, unhide RB _ _ _ _ _⟩
  rw [results_cell_tmp rfl]
  go_simp
end Go.Proofs.Ytmfkhbofmaonkaa
