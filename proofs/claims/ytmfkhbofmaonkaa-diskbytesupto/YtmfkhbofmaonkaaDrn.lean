/-
  What disk.Rename does, over this seat's program.
-/
import Derived.Test.YtmfkhbofmaonkaaDre
import Derived.Test.YtmfkhbofmaonkaaDrf
import Derived.Deep.RegionHeld3
set_option linter.unusedVariables false
set_option linter.unusedSimpArgs false
namespace Go.Proofs.Ytmfkhbofmaonkaa
open Go.RowKit Go.Proofs.Dsk Go.Lib

/-- What Rename does with the file at a place of its copy. -/
def renameC (to : ByteArray) (i : Nat) (d : Fs) : Fs × Nat := if named to = false then (d, 1) else changeR d fun d => { d with files := renL d.files i to }

theorem rename11_any (d : Fs) (C B p q r i : Nat) (to : ByteArray) (v : Value) (W : World) (hS : SysV W C B v d) (hi : i < d.files.length) (hl : d.files.length ≤ 1024) (hri : Rise d.files) (hto : to.size ≤ 281474976710656) (hp : Blk W p 47 #[.pointer (some ⟨B, 0, none⟩)]) (hq : Blk W q 3 #[.int .i64 i]) (hr : Blk W r 9 #[.string to]) :
    Calls Try.prog 47 #[.pointer (some ⟨p, 0, none⟩), .pointer (some ⟨q, 0, none⟩), .pointer (some ⟨r, 0, none⟩)] W fun e W' => e = .returned (.tuple #[]) ∧ Sys W' C B { d with files := renL d.files i to } ∧ Below C W W' := by
  have hg : d.files[i]! = d.files[i] := getElem!_pos d.files i hi
  by_cases hh : has (d.files.eraseIdx i) to = true
  · have e : renL d.files i to = (d.files.eraseIdx i).set (lb (d.files.eraseIdx i) to) ⟨to, d.files[i].data, d.files[i].synced⟩ := by unfold renL; simp only [hg]; rw [if_pos hh]
    rw [e]
    exact rename11_yes d C B p q r i to v W hS hi hl hri hto hp hq hr hh
  · have e : renL d.files i to = (d.files.eraseIdx i).insertIdx (lb (d.files.eraseIdx i) to) ⟨to, d.files[i].data, d.files[i].synced⟩ := by unfold renL; simp only [hg]; rw [if_neg hh]
    rw [e]
    exact rename11_no d C B p q r i to v W hS hi hl hri hto hp hq hr (by simpa using hh)

set_option maxHeartbeats 2000000 in
set_option maxRecDepth 100000 in
theorem rename1_any (d : Fs) (i C B r : Nat) (to : ByteArray) (W : World) (hgood : Good d) (hto : to.size ≤ 281474976710656) (hS : Sys W C B d) (hi : i < d.files.length) (hr : Blk W r 9 #[.string to]) :
    Calls Try.prog 46 (#[.pointer (some ⟨B, 0, none⟩), .int .i64 (i : Nat)] ++ #[.pointer (some ⟨r, 0, none⟩)]) W fun e W' => e = .returned (.int .i64 (renameC to i d).2) ∧ Sys W' C B (renameC to i d).1 ∧ Below C W W' := by
  have hR := right_parts hgood.1
  obtain ⟨v, hV⟩ := hS.val
  have hlt := hS.lt
  have hCB := hS.1
  have hb2 := ((Below.refl W.heap.size W).alloc (Nat.le_refl _) (Obj.cells #[.pointer (some ⟨B, 0, none⟩)] 47)).alloc (by simp) (Obj.cells #[.int .i64 (i : Nat)] 3)
  have q0 := (Blk.new W 47 #[.pointer (some ⟨B, 0, none⟩)]).below ((Below.refl _ _).alloc (Nat.le_refl _) (Obj.cells #[.int .i64 (i : Nat)] 3))
  have q1 := Blk.new (W.alloc (Obj.cells #[.pointer (some ⟨B, 0, none⟩)] 47)) 3 #[.int .i64 (i : Nat)]
  simp only [World.size_alloc] at q1
  have q2 := hr.below hb2
  have nrB := st_ne hr hV.2.2.1
  have HC := hide (change_any d C B 47 #[.pointer (some ⟨W.heap.size, 0, none⟩), .pointer (some ⟨W.heap.size + 1, 0, none⟩), .pointer (some ⟨r, 0, none⟩)] (fun d => { d with files := renL d.files i to }) v _ (hV.below hb2) (enters_of Try.func47 (by kernel_rfl) rfl)
    (fun W' hg hS' => rename11_any (spent d) C B _ _ r i to v W' hS' hi hR.1.2.2.1 hR.2.2.2 hto (blk_grown q0 hg (by omega)) (blk_grown q1 hg (by omega)) (blk_grown q2 hg nrB)))
  have HB := hide (hb2.mono (show C ≤ W.heap.size by omega))
  have HNM := hide (fun (X : World) => isName_any to X (by omega))
  have cr := q2.cell 0
  have cr0 := hr.cell 0
  have cp := q0.cell 0
  simp only [List.getElem?_toArray, List.getElem?_cons_zero] at cr cp cr0
  have hrl := hr.lt
  have HS0 := hide (hS.below hb2)
  by_cases hnm : named to = false
  · have hc : renameC to i d = (d, 1) := by unfold renameC; rw [if_pos hnm]
    rw [hc]
    rw [hnm] at HNM
    clear hc hnm q0 q1 q2 hV hS hb2 HC hR hgood hr
    go_enter Try.func46, Try.ntmps46
    go_wp2_with (go_at_call 34; refine (unhide HNM _).mono ?_; rintro e w4 ⟨rfl, h4⟩; subst h4)
    go_ret
    exact ⟨rfl, unhide HS0, unhide HB⟩
  · have hc : renameC to i d = changeR d fun d => { d with files := renL d.files i to } := by unfold renameC; rw [if_neg hnm]
    rw [hc]
    rw [show named to = true by simpa using hnm] at HNM
    clear hc hnm q0 q1 q2 hV hS hb2 hR hgood hr
    generalize (changeR d fun d => { d with files := renL d.files i to }) = res at HC ⊢
    obtain ⟨d5, n5⟩ := res
    simp only at HC ⊢
    go_enter Try.func46, Try.ntmps46
    go_wp2_with (first | (go_at_call 34; refine (unhide HNM _).mono ?_; rintro e w4 ⟨rfl, h4⟩; subst h4) | (go_at_call 35; refine (unhide HC).mono ?_; rintro e w5 ⟨rfl, s5, b5⟩; have S5 := hide s5; have B5 := hide ((unhide HB).trans b5); clear s5 b5))
    go_ret
    exact ⟨rfl, unhide S5, unhide B5⟩

set_option maxHeartbeats 2000000 in
set_option maxRecDepth 100000 in
theorem rename_any (d : Fs) (v : Value) (n to : ByteArray) (w : World) (hfit : FitAll d) (h : RowF w v d.files) (hto : to.size ≤ 281474976710656) :
    Calls Try.prog 8 #[fsV d v, .string n, .string to] w fun e w' => ∃ v', e = .returned (.tuple #[fsV (renameR d n to).1 v', .int .i64 (renameR d n to).2]) ∧ RowF w' v' (renameR d n to).1.files ∧ FitAll (renameR d n to).1 ∧ Below w.heap.size w w' := by
  have hb : Below w.heap.size w (((w.alloc (Obj.cells #[.int .i64 d.room, v, .int .i64 d.fuse, .int .i64 d.fault, .bool d.down] 24)).alloc (Obj.cells #[.string to] 9)).alloc (Obj.cells #[.int .i64 0, .slice none 0 0, .int .i64 0, .int .i64 0, .bool false] 24)) := ((((Below.refl _ w).alloc (by first | omega | (simp only [World.size_alloc]; omega)) (Obj.cells #[.int .i64 d.room, v, .int .i64 d.fuse, .int .i64 d.fault, .bool d.down] 24)).alloc (by first | omega | (simp only [World.size_alloc]; omega)) (Obj.cells #[.string to] 9)).alloc (by first | omega | (simp only [World.size_alloc]; omega)) (Obj.cells #[.int .i64 0, .slice none 0 0, .int .i64 0, .int .i64 0, .bool false] 24))
  have q1 := ((Blk.new (w.alloc (Obj.cells #[.int .i64 d.room, v, .int .i64 d.fuse, .int .i64 d.fault, .bool d.down] 24)) 9 #[.string to]).below ((Below.refl _ _).alloc (Nat.le_refl _) (Obj.cells #[.int .i64 0, .slice none 0 0, .int .i64 0, .int .i64 0, .bool false] 24)))
  simp only [World.size_alloc] at q1
  have hsz : (((w.alloc (Obj.cells #[.int .i64 d.room, v, .int .i64 d.fuse, .int .i64 d.fault, .bool d.down] 24)).alloc (Obj.cells #[.string to] 9)).alloc (Obj.cells #[.int .i64 0, .slice none 0 0, .int .i64 0, .int .i64 0, .bool false] 24)).heap.size = w.heap.size + 1 + 1 + 1 := by simp only [World.size_alloc]
  have HW := hide (workOn_any d v n 46 #[.pointer (some ⟨w.heap.size + 1, 0, none⟩)] (renameC to) (((w.alloc (Obj.cells #[.int .i64 d.room, v, .int .i64 d.fuse, .int .i64 d.fault, .bool d.down] 24)).alloc (Obj.cells #[.string to] 9)).alloc (Obj.cells #[.int .i64 0, .slice none 0 0, .int .i64 0, .int .i64 0, .bool false] 24)) hfit (h.below hb) (enters_of Try.func46 (by kernel_rfl) rfl) (fun hg hh W C B hC hB hS => rename1_any d (lb d.files n) C B _ to W hg hto hS (has_lb (right_parts hg.1).2.2.2 hh).1 (q1.below hB)))
  have z := Blk.new ((w.alloc (Obj.cells #[.int .i64 d.room, v, .int .i64 d.fuse, .int .i64 d.fault, .bool d.down] 24)).alloc (Obj.cells #[.string to] 9)) 24 #[.int .i64 0, .slice none 0 0, .int .i64 0, .int .i64 0, .bool false]
  simp only [World.size_alloc] at z
  have HZ := hide z
  have HB := hide hb
  obtain ⟨a, cap, rfl, _, _, _⟩ := h
  clear z hb hsz q1
  have hres : renameR d n to = workR d (onR n (renameC to)) := rfl
  rw [hres]
  clear hres
  generalize workR d (onR n (renameC to)) = res at HW ⊢
  obtain ⟨d5, n5⟩ := res
  simp only [fsV] at HW ⊢
  go_enter Try.func8, Try.ntmps8
  go_wp2_with fail
  refine (unhide HW).mono ?_
  rintro e w5 ⟨v5, rfl, hrow5, hfit5, b5⟩
  have k := (unhide HZ).below b5
  have RB := hide (below5 (s := w.heap.size + 1 + 1) ((unhide HB).trans (b5.mono (unhide HB).size)) (by omega))
  have RR := hide (rowF5 hrow5 k (by intro i x; match i with | 0 | 1 | 2 | 3 | 4 => simp | i + 5 => simp))
  have HF5 := hide hfit5
  have e0 := k.cell 0
  have e1 := k.cell 1
  have e2 := k.cell 2
  have e3 := k.cell 3
  have e4 := k.cell 4
  have f0 := k.frozen 0
  have f1 := k.frozen 1
  have f2 := k.frozen 2
  have f3 := k.frozen 3
  have f4 := k.frozen 4
  simp only [List.getElem?_toArray, List.getElem?_cons_succ, List.getElem?_cons_zero] at e0 e1 e2 e3 e4
  obtain ⟨a5, cap5, rfl, _, _, _⟩ := hrow5
  clear k b5 hfit5 HW
  go_wp2
  (try simp only [Exit.inBlock, Exit.then])
  refine bodyPost_ret (v := .tuple #[.agg #[.int .i64 d5.room, .slice a5 d5.files.length cap5, .int .i64 d5.fuse, .int .i64 d5.fault, .bool d5.down], .int .i64 n5]) ?_ rfl ⟨_, rfl, unhide RR _ _ _ _ _, unhide HF5, unhide RB _ _ _ _ _⟩
  rw [results_cell_tmp rfl]
  go_simp
end Go.Proofs.Ytmfkhbofmaonkaa
