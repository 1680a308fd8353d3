/-
  What disk.Sync does, over this seat's program.
-/
import Derived.Test.YtmfkhbofmaonkaaDfs
set_option linter.unusedVariables false
set_option linter.unusedSimpArgs false
namespace Go.Proofs.Ytmfkhbofmaonkaa
open Go.RowKit Go.Proofs.Dsk

theorem ft_ne {w : World} {p B : Nat} {cs ds : Array Value} (h : Blk w p 69 cs) (k : Blk w B 52 ds) : p ≠ B := blk_ne h k (by decide)
theorem below_dr1 {B : Nat} {a w : World} (h : Below B a w) : Below B a w.drew := ⟨h.os, h.tape, h.output, h.size, h.block⟩
def syncF (f : File) : File := { f with synced := f.data.size }
theorem fits_sync {f : File} (h : Fits f) : Fits (syncF f) := ⟨h.1, h.2.1, by show -9223372036854775808 ≤ (f.data.size : Int); omega, by show (f.data.size : Int) ≤ 9223372036854775807; have := h.2.1; omega⟩

set_option maxHeartbeats 2000000 in
set_option maxRecDepth 100000 in
theorem sync11_any (d : Fs) (C B p g cap i : Nat) (W : World) (hS : SysV W C B (.slice (some ⟨g, 0, none⟩) d.files.length cap) d) (hi : i < d.files.length) (hp : Blk W p 69 #[.pointer (some ⟨g, i * 3, none⟩)]) :
    Calls Try.prog 59 #[.pointer (some ⟨p, 0, none⟩)] W fun e W' => e = .returned (.tuple #[]) ∧ Sys W' C B { d with files := d.files.set i (syncF d.files[i]) } ∧ Below C W W' := by
  obtain ⟨g', cap', hv', hgC, hgw, nBg, x0, x1, x2, hfz, _⟩ := hS.at hi
  injection hv' with e1 e2 e3
  injection e1 with e1
  injection e1 with e1
  subst e1
  have hf2 := hfz (i * 3 + 2)
  have cp := hp.cell 0
  simp only [List.getElem?_toArray, List.getElem?_cons_zero] at cp
  have HN := hide ((hS.file (f := syncF d.files[i]) (u := .int .i64 (d.files[i].data.size : Int)) hi (show 2 < 3 by omega) rfl (fits_sync (hS.2.1.2.1 _ (List.getElem_mem hi)))).sys)
  have HB := hide ((Below.refl C W).setCell (p := ⟨g, i * 3 + 2, none⟩) hgC (.int .i64 (d.files[i].data.size : Int)))
  generalize hsf : syncF d.files[i] = sf at HN ⊢
  generalize d.files[i].data = dt at x1 HN HB
  generalize d.files[i].synced = sy at x2
  clear hsf hfz hS hp e2 e3
  go_enter Try.func59, Try.ntmps59
  go_wp2
  go_region
  all_goals
    go_wp2
    go_end0
    exact ⟨rfl, unhide HN, below_dr1 (unhide HB)⟩

set_option maxHeartbeats 2000000 in
set_option maxRecDepth 100000 in
theorem sync1_any (d : Fs) (i C B : Nat) (W : World) (hS : Sys W C B d) (hi : i < d.files.length) :
    Calls Try.prog 58 (#[.pointer (some ⟨B, 0, none⟩), .int .i64 (i : Nat)] ++ #[]) W fun e W' => e = .returned (.int .i64 (changeR d fun d => { d with files := d.files.modify i syncF }).2) ∧ Sys W' C B (changeR d fun d => { d with files := d.files.modify i syncF }).1 ∧ Below C W W' := by
  obtain ⟨v, hV⟩ := hS.val
  have hlt := hS.lt
  have hCB := hS.1
  obtain ⟨g, cap, hv, hgC, hgw, nBg, _⟩ := hV.at hi
  subst hv
  have hb2 := (Below.refl W.heap.size W).alloc (Nat.le_refl _) (Obj.cells #[.pointer (some ⟨g, i * 3, none⟩)] 69)
  have q0 := Blk.new W 69 #[.pointer (some ⟨g, i * 3, none⟩)]
  have HC := hide (change_any d C B 59 #[.pointer (some ⟨W.heap.size, 0, none⟩)] (fun d => { d with files := d.files.modify i syncF }) _ _ (hV.below hb2) (enters_of Try.func59 (by kernel_rfl) rfl)
    (fun W' hg hS' => by
      have h := sync11_any (spent d) C B W.heap.size g cap i W' hS' hi (blk_grown q0 hg (by omega))
      rw [← modify_set (l := (spent d).files) hi syncF] at h
      exact h))
  have HB := hide (hb2.mono (show C ≤ W.heap.size by omega))
  have c1 := hV.2.2.1.cell 1
  simp only [sysCells, List.getElem?_toArray, List.getElem?_cons_succ, List.getElem?_cons_zero] at c1
  have h63 := hV.2.1.2.2
  obtain ⟨n, hn⟩ : ∃ n, n = d.files.length := ⟨_, rfl⟩
  rw [← hn] at c1 hi h63
  have hil : (i : Int) < (n : Int) := by omega
  clear q0 hV hS hb2 hn
  generalize (changeR d fun d => { d with files := d.files.modify i syncF }) = res at HC ⊢
  obtain ⟨d5, n5⟩ := res
  simp only at HC ⊢
  go_enter Try.func58, Try.ntmps58
  go_wp2_with fail
  refine (unhide HC).mono ?_
  rintro e w5 ⟨rfl, s5, b5⟩
  have S5 := hide s5
  have B5 := hide ((unhide HB).trans b5)
  clear s5 b5
  go_wp2
  go_ret
  exact ⟨rfl, unhide S5, unhide B5⟩

set_option maxHeartbeats 2000000 in
set_option maxRecDepth 100000 in
theorem sync_any (d : Fs) (v : Value) (n : ByteArray) (w : World) (hfit : FitAll d) (h : RowF w v d.files) :
    Calls Try.prog 23 #[fsV d v, .string n] w fun e w' => ∃ v', e = .returned (.tuple #[fsV (syncR d n).1 v', .int .i64 (syncR d n).2]) ∧ RowF w' v' (syncR d n).1.files ∧ FitAll (syncR d n).1 ∧ Below w.heap.size w w' := by
  have hb : Below w.heap.size w ((w.alloc (Obj.cells #[.int .i64 d.room, v, .int .i64 d.fuse, .int .i64 d.fault, .bool d.down] 24)).alloc (Obj.cells #[.int .i64 0, .slice none 0 0, .int .i64 0, .int .i64 0, .bool false] 24)) := (((Below.refl _ w).alloc (by first | omega | (simp only [World.size_alloc]; omega)) (Obj.cells #[.int .i64 d.room, v, .int .i64 d.fuse, .int .i64 d.fault, .bool d.down] 24)).alloc (by first | omega | (simp only [World.size_alloc]; omega)) (Obj.cells #[.int .i64 0, .slice none 0 0, .int .i64 0, .int .i64 0, .bool false] 24))
  have hsz : ((w.alloc (Obj.cells #[.int .i64 d.room, v, .int .i64 d.fuse, .int .i64 d.fault, .bool d.down] 24)).alloc (Obj.cells #[.int .i64 0, .slice none 0 0, .int .i64 0, .int .i64 0, .bool false] 24)).heap.size = w.heap.size + 1 + 1 := by simp only [World.size_alloc]
  have HW := hide (workOn_any d v n 58 #[] (fun i d => changeR d fun d => { d with files := d.files.modify i syncF }) ((w.alloc (Obj.cells #[.int .i64 d.room, v, .int .i64 d.fuse, .int .i64 d.fault, .bool d.down] 24)).alloc (Obj.cells #[.int .i64 0, .slice none 0 0, .int .i64 0, .int .i64 0, .bool false] 24)) hfit (h.below hb) (enters_of Try.func58 (by kernel_rfl) rfl) (fun hg hh W C B hC hB hS => sync1_any d (lb d.files n) C B W hS (has_lb (right_parts hg.1).2.2.2 hh).1))
  have z := Blk.new (w.alloc (Obj.cells #[.int .i64 d.room, v, .int .i64 d.fuse, .int .i64 d.fault, .bool d.down] 24)) 24 #[.int .i64 0, .slice none 0 0, .int .i64 0, .int .i64 0, .bool false]
  simp only [World.size_alloc] at z
  have HZ := hide z
  have HB := hide hb
  obtain ⟨a, cap, rfl, _, _, _⟩ := h
  clear z hb hsz 
  have hres : syncR d n = workR d (onR n (fun i d => changeR d fun d => { d with files := d.files.modify i syncF })) := rfl
  rw [hres]
  clear hres
  generalize workR d (onR n (fun i d => changeR d fun d => { d with files := d.files.modify i syncF })) = res at HW ⊢
  obtain ⟨d5, n5⟩ := res
  simp only [fsV] at HW ⊢
  go_enter Try.func23, Try.ntmps23
  go_wp2_with fail
  refine (unhide HW).mono ?_
  rintro e w5 ⟨v5, rfl, hrow5, hfit5, b5⟩
  have k := (unhide HZ).below b5
  have RB := hide (below5 (s := w.heap.size + 1) ((unhide HB).trans (b5.mono (unhide HB).size)) (by omega))
  have RR := hide (rowF5 hrow5 k (by intro i x; match i with | 0 | 1 | 2 | 3 | 4 => simp | i + 5 => simp))
  have HF5 := hide hfit5
  have e0 := k.cell 0
  have e1 := k.cell 1
  have e2 := k.cell 2
  have e3 := k.cell 3
  have e4 := k.cell 4
  have f0 := k.frozen 0
  have f1 := k.frozen 1
  have f2 := k.frozen 2
  have f3 := k.frozen 3
  have f4 := k.frozen 4
  simp only [List.getElem?_toArray, List.getElem?_cons_succ, List.getElem?_cons_zero] at e0 e1 e2 e3 e4
  obtain ⟨a5, cap5, rfl, _, _, _⟩ := hrow5
  clear k b5 hfit5 HW
  go_wp2
  (try simp only [Exit.inBlock, Exit.then])
  refine bodyPost_ret (v := .tuple #[.agg #[.int .i64 d5.room, .slice a5 d5.files.length cap5, .int .i64 d5.fuse, .int .i64 d5.fault, .bool d5.down], .int .i64 n5]) ?_ rfl ⟨_, rfl, unhide RR _ _ _ _ _, unhide HF5, unhide RB _ _ _ _ _⟩
  rw [results_cell_tmp rfl]
  go_simp
end Go.Proofs.Ytmfkhbofmaonkaa
