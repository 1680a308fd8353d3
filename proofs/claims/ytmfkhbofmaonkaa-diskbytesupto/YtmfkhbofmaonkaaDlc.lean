/-
  What disk.Delete does, over this seat's program: the file is no more.
-/
import Derived.Test.YtmfkhbofmaonkaaDlb
set_option linter.unusedVariables false
namespace Go.Proofs.Ytmfkhbofmaonkaa
open Go.RowKit Go.Proofs.Dsk

set_option maxHeartbeats 2000000 in
set_option maxRecDepth 100000 in
theorem delete1_any (d : Fs) (i C B : Nat) (W : World) (hS : Sys W C B d) (hi : i < d.files.length) :
    Calls Try.prog 50 (#[.pointer (some ⟨B, 0, none⟩), .int .i64 (i : Nat)] ++ #[]) W fun e W' => e = .returned (.int .i64 (changeR d fun d => { d with files := d.files.eraseIdx i }).2) ∧ Sys W' C B (changeR d fun d => { d with files := d.files.eraseIdx i }).1 ∧ Below C W W' := by
  obtain ⟨v, hV⟩ := hS.val
  have hlt := hS.lt
  have hCB := hS.1
  have hb2 := ((Below.refl W.heap.size W).alloc (Nat.le_refl _) (Obj.cells #[.pointer (some ⟨B, 0, none⟩)] 47)).alloc (by simp) (Obj.cells #[.int .i64 (i : Nat)] 3)
  have q0 := (Blk.new W 47 #[.pointer (some ⟨B, 0, none⟩)]).below ((Below.refl _ _).alloc (Nat.le_refl _) (Obj.cells #[.int .i64 (i : Nat)] 3))
  have q1 := Blk.new (W.alloc (Obj.cells #[.pointer (some ⟨B, 0, none⟩)] 47)) 3 #[.int .i64 (i : Nat)]
  simp only [World.size_alloc] at q1
  have HC := hide (change_any d C B 51 #[.pointer (some ⟨W.heap.size, 0, none⟩), .pointer (some ⟨W.heap.size + 1, 0, none⟩)] (fun d => { d with files := d.files.eraseIdx i }) v _ (hV.below hb2) (enters_of Try.func51 (by kernel_rfl) rfl)
    (fun W' hg hS' => delete11_any (spent d) C B _ _ i v W' hS' hi (blk_grown q0 hg (by omega)) (blk_grown q1 hg (by omega))))
  have HB := hide (hb2.mono (show C ≤ W.heap.size by omega))
  clear q0 q1 hV hS hb2
  generalize (changeR d fun d => { d with files := d.files.eraseIdx i }) = res at HC ⊢
  obtain ⟨d5, n5⟩ := res
  simp only at HC ⊢
  go_enter Try.func50, Try.ntmps50
  go_wp2_with fail
  refine (unhide HC).mono ?_
  rintro e w5 ⟨rfl, s5, b5⟩
  have S5 := hide s5
  have B5 := hide ((unhide HB).trans b5)
  clear s5 b5
  go_wp2
  go_ret
  exact ⟨rfl, unhide S5, unhide B5⟩

set_option maxHeartbeats 2000000 in
set_option maxRecDepth 100000 in
theorem delete_any (d : Fs) (v : Value) (n : ByteArray) (w : World) (hfit : FitAll d) (h : RowF w v d.files) :
    Calls Try.prog 10 #[fsV d v, .string n] w fun e w' => ∃ v', e = .returned (.tuple #[fsV (deleteR d n).1 v', .int .i64 (deleteR d n).2]) ∧ RowF w' v' (deleteR d n).1.files ∧ FitAll (deleteR d n).1 ∧ Below w.heap.size w w' := by
  have hb : Below w.heap.size w ((w.alloc (Obj.cells #[.int .i64 d.room, v, .int .i64 d.fuse, .int .i64 d.fault, .bool d.down] 24)).alloc (Obj.cells #[.int .i64 0, .slice none 0 0, .int .i64 0, .int .i64 0, .bool false] 24)) := (((Below.refl _ w).alloc (by first | omega | (simp only [World.size_alloc]; omega)) (Obj.cells #[.int .i64 d.room, v, .int .i64 d.fuse, .int .i64 d.fault, .bool d.down] 24)).alloc (by first | omega | (simp only [World.size_alloc]; omega)) (Obj.cells #[.int .i64 0, .slice none 0 0, .int .i64 0, .int .i64 0, .bool false] 24))
  have hsz : ((w.alloc (Obj.cells #[.int .i64 d.room, v, .int .i64 d.fuse, .int .i64 d.fault, .bool d.down] 24)).alloc (Obj.cells #[.int .i64 0, .slice none 0 0, .int .i64 0, .int .i64 0, .bool false] 24)).heap.size = w.heap.size + 1 + 1 := by simp only [World.size_alloc]
  have HW := hide (workOn_any d v n 50 #[] (fun i d => changeR d fun d => { d with files := d.files.eraseIdx i }) ((w.alloc (Obj.cells #[.int .i64 d.room, v, .int .i64 d.fuse, .int .i64 d.fault, .bool d.down] 24)).alloc (Obj.cells #[.int .i64 0, .slice none 0 0, .int .i64 0, .int .i64 0, .bool false] 24)) hfit (h.below hb) (enters_of Try.func50 (by kernel_rfl) rfl) (fun hg hh W C B hC hB hS => delete1_any d (lb d.files n) C B W hS (has_lb (right_parts hg.1).2.2.2 hh).1))
  have z := Blk.new (w.alloc (Obj.cells #[.int .i64 d.room, v, .int .i64 d.fuse, .int .i64 d.fault, .bool d.down] 24)) 24 #[.int .i64 0, .slice none 0 0, .int .i64 0, .int .i64 0, .bool false]
  simp only [World.size_alloc] at z
  have HZ := hide z
  have HB := hide hb
  obtain ⟨a, cap, rfl, _, _, _⟩ := h
  clear z hb hsz 
  have hres : deleteR d n = workR d (onR n (fun i d => changeR d fun d => { d with files := d.files.eraseIdx i })) := rfl
  rw [hres]
  clear hres
  generalize workR d (onR n (fun i d => changeR d fun d => { d with files := d.files.eraseIdx i })) = res at HW ⊢
  obtain ⟨d5, n5⟩ := res
  simp only [fsV] at HW ⊢
  go_enter Try.func10, Try.ntmps10
  go_wp2_with fail
  refine (unhide HW).mono ?_
  rintro e w5 ⟨v5, rfl, hrow5, hfit5, b5⟩
  have k := (unhide HZ).below b5
  have RB := hide (below5 (s := w.heap.size + 1) ((unhide HB).trans (b5.mono (unhide HB).size)) (by omega))
  have RR := hide (rowF5 hrow5 k (by intro i x; match i with | 0 | 1 | 2 | 3 | 4 => simp | i + 5 => simp))
  have HF5 := hide hfit5
  have e0 := k.cell 0
  have e1 := k.cell 1
  have e2 := k.cell 2
  have e3 := k.cell 3
  have e4 := k.cell 4
  have f0 := k.frozen 0
  have f1 := k.frozen 1
  have f2 := k.frozen 2
  have f3 := k.frozen 3
  have f4 := k.frozen 4
  simp only [List.getElem?_toArray, List.getElem?_cons_succ, List.getElem?_cons_zero] at e0 e1 e2 e3 e4
  obtain ⟨a5, cap5, rfl, _, _, _⟩ := hrow5
  clear k b5 hfit5 HW
  go_wp2
  (try simp only [Exit.inBlock, Exit.then])
  refine bodyPost_ret (v := .tuple #[.agg #[.int .i64 d5.room, .slice a5 d5.files.length cap5, .int .i64 d5.fuse, .int .i64 d5.fault, .bool d5.down], .int .i64 n5]) ?_ rfl ⟨_, rfl, unhide RR _ _ _ _ _, unhide HF5, unhide RB _ _ _ _ _⟩
  rw [results_cell_tmp rfl]
  go_simp
end Go.Proofs.Ytmfkhbofmaonkaa
