/-
  What disk.Cut does, over this seat's program.
-/
import Derived.Test.YtmfkhbofmaonkaaSyn
import Derived.Deep.QuietTactic
import Derived.BigQuiet
set_option linter.unusedVariables false
set_option linter.unusedSimpArgs false
namespace Go.Proofs.Ytmfkhbofmaonkaa
open Go.RowKit Go.Proofs.Dsk

def cutF (n : Int) (f : File) : File := { f with data := f.data.extract 0 n.toNat, synced := min f.synced n }
def cutC (n : Int) (i : Nat) (d : Fs) : Fs × Nat := if n < 0 ∨ (d.files[i]!).data.size < n then (d, 1) else ({ d with files := d.files.modify i (cutF n) }, 0)
theorem extract_le (s : ByteArray) (n : Nat) : (s.extract 0 n).size ≤ s.size := by simp [ByteArray.size_extract]; omega
theorem below_drN {B : Nat} {a w : World} (h : Below B a w) (n : Nat) : Below B a (w.drewN n) := ⟨h.os, h.tape, h.output, h.size, h.block⟩
theorem below_sh {B : Nat} {a w w' : World} (h : Below B a w) (hw : w' = { w with drawn := w'.drawn }) : Below B a w' := by rw [hw]; exact ⟨h.os, h.tape, h.output, h.size, h.block⟩
theorem setset {l : List File} {i : Nat} (f g : File) : (l.set i f).set i g = l.set i g := by simp

set_option maxHeartbeats 2000000 in
set_option maxRecDepth 100000 in
theorem cut1_any (d : Fs) (i C B r : Nat) (n : Int) (W : World) (hS : Sys W C B d) (hi : i < d.files.length) (hr : Blk W r 3 #[.int .i64 n]) (hn1 : -9223372036854775808 ≤ n) (hn2 : n ≤ 9223372036854775807) :
    Calls Try.prog 60 (#[.pointer (some ⟨B, 0, none⟩), .int .i64 (i : Nat)] ++ #[.pointer (some ⟨r, 0, none⟩)]) W fun e W' => e = .returned (.int .i64 (cutC n i d).2) ∧ Sys W' C B (cutC n i d).1 ∧ Below C W W' := by
  obtain ⟨v, hV⟩ := hS.val
  have hlt := hS.lt
  have hCB := hS.1
  obtain ⟨g, cap, hv, hgC, hgw, nBg, x0, x1, x2, hfz, cur, hgg⟩ := hV.at hi
  subst hv
  have nrg := blk_ne hr hgg (by decide)
  have c1 := hV.2.2.1.cell 1
  have cr := hr.cell 0
  simp only [sysCells, List.getElem?_toArray, List.getElem?_cons_succ, List.getElem?_cons_zero] at c1 cr
  have h63 := hV.2.1.2.2
  have hfit := hV.2.1.2.1 _ (List.getElem_mem hi)
  have hgb : d.files[i]! = d.files[i] := getElem!_pos d.files i hi
  have hbig := hfit.2.1
  by_cases hneg : n < 0
  · have hres : cutC n i d = (d, 1) := by unfold cutC; rw [if_pos (.inl hneg)]
    rw [hres]
    have HS := hide hS
    have hd1 : decide (n < 0) = true := decide_eq_true hneg
    obtain ⟨N, hN⟩ : ∃ n, n = d.files.length := ⟨_, rfl⟩
    rw [← hN] at c1 hi h63
    have hil : (i : Int) < (N : Int) := by omega
    clear hV hS hN x0 x1 x2 hfz hgg hfit hgb hbig hres hr
    go_enter Try.func60, Try.ntmps60
    go_wp2
    go_quiet (fail)
    go_wp2
    go_ret
    exact ⟨rfl, unhide HS, below_drN (Below.refl _ _) _⟩
  · by_cases hbg : (d.files[i].data.size : Int) < n
    · have hres : cutC n i d = (d, 1) := by unfold cutC; rw [if_pos (.inr (by rw [hgb]; exact hbg))]
      rw [hres]
      have HS := hide hS
      have hd1 : decide (n < 0) = false := decide_eq_false hneg
      obtain ⟨N, hN⟩ : ∃ n, n = d.files.length := ⟨_, rfl⟩
      rw [← hN] at c1 h63
      have hil : (i : Int) < (N : Int) := by omega
      have hiN : i < N := by omega
      generalize d.files[i].data = dt at x1 hbg hbig
      have hd2 : decide (n > (dt.size : Int)) = true := decide_eq_true hbg
      have hgt : n > (dt.size : Int) := hbg
      clear hV hS hN x0 x2 hfz hgg hfit hgb hres hr hi
      go_enter Try.func60, Try.ntmps60
      go_wp2
      go_quiet (fail)
      go_wp2
      go_ret
      exact ⟨rfl, unhide HS, below_drN (Below.refl _ _) _⟩
    · have hres : cutC n i d = ({ d with files := d.files.set i (cutF n d.files[i]) }, 0) := by unfold cutC; rw [if_neg (by rw [hgb]; omega), modify_set hi]
      rw [hres]
      obtain ⟨m, rfl⟩ : ∃ m : Nat, n = (m : Int) := ⟨n.toNat, by omega⟩
      have hd1 : decide ((m : Int) < 0) = false := decide_eq_false hneg
      have hf1 := hfz (i * 3 + 1)
      have hf2 := hfz (i * 3 + 2)
      have hmid : Fits { d.files[i] with data := d.files[i].data.extract 0 m } := ⟨hfit.1, Nat.le_trans (extract_le _ _) hfit.2.1, hfit.2.2⟩
      have hend : Fits (cutF (m : Int) d.files[i]) := ⟨hfit.1, Nat.le_trans (extract_le _ _) hfit.2.1, by show -9223372036854775808 ≤ min d.files[i].synced (m : Int); have := hfit.2.2; omega, by show min d.files[i].synced (m : Int) ≤ 9223372036854775807; have := hfit.2.2; omega⟩
      have hV1 := hV.file (f := { d.files[i] with data := d.files[i].data.extract 0 m }) (u := .string (d.files[i].data.extract 0 m)) hi (show 1 < 3 by omega) rfl hmid
      have hi1 : i < (d.files.set i { d.files[i] with data := d.files[i].data.extract 0 m }).length := by rw [List.length_set]; exact hi
      have hV2 := SysV.file (f := cutF (m : Int) d.files[i]) (u := .int .i64 (min d.files[i].synced (m : Int))) hV1 hi1 (show 2 < 3 by omega) (by simp [cutF, cellsF]) hend
      simp only [setset] at hV2
      have HN := hide hV2.sys
      have HB := hide (((Below.refl C W).setCell (p := ⟨g, i * 3 + 1, none⟩) hgC (.string (d.files[i].data.extract 0 m))).setCell (p := ⟨g, i * 3 + 2, none⟩) hgC (.int .i64 (min d.files[i].synced (m : Int))))
      generalize hcf : cutF (m : Int) d.files[i] = cf at HN ⊢
      have HW1 : Hid ((W.setCell ⟨g, i * 3 + 1, none⟩ (.string (d.files[i].data.extract 0 m))).cell? ⟨r, 0, none⟩ = some (.int .i64 (m : Int)) ∧ (W.setCell ⟨g, i * 3 + 1, none⟩ (.string (d.files[i].data.extract 0 m))).cell? ⟨g, i * 3 + 2, none⟩ = some (.int .i64 d.files[i].synced) ∧ (W.setCell ⟨g, i * 3 + 1, none⟩ (.string (d.files[i].data.extract 0 m))).frozen? ⟨g, i * 3 + 2, none⟩ = false) := hide ⟨(World.cell?_setCell_far _ _ _ _ (fun e => nrg e.symm)).trans cr, (World.cell?_setCell_other _ _ _ _ (by simp)).trans x2, by simp [hf2]⟩
      obtain ⟨N, hN⟩ : ∃ n, n = d.files.length := ⟨_, rfl⟩
      rw [← hN] at c1 h63
      have hil : (i : Int) < (N : Int) := by omega
      have hiN : i < N := by omega
      generalize d.files[i].data = dt at x1 hbg hbig HN HB HW1
      generalize d.files[i].synced = sy at x2 HN HB HW1
      have hd2 : decide ((m : Int) > (dt.size : Int)) = false := decide_eq_false (by omega)
      have hms : (m : Int) ≤ (dt.size : Int) := by omega
      have hmn : m ≤ dt.size := by omega
      have hms2 : ¬ (m : Int) > (dt.size : Int) := by omega
      clear x0 hV hS hN hfz hgg hfit hgb hres hr hcf hV1 hV2 hmid hend hi1 hbg
      go_enter Try.func60, Try.ntmps60
      go_wp2
      go_quiet (fail)
      go_wp2
      go_region
      all_goals
        obtain ⟨y1, y2, y3⟩ := unhide HW1
        go_wp2
        go_region
        all_goals
          go_wp2
          go_ret
          exact ⟨rfl, unhide HN, below_sh (unhide HB) rfl⟩

set_option maxHeartbeats 2000000 in
set_option maxRecDepth 100000 in
theorem cut_any (d : Fs) (v : Value) (n : ByteArray) (m : Int) (w : World) (hfit : FitAll d) (h : RowF w v d.files) (hm1 : -9223372036854775808 ≤ m) (hm2 : m ≤ 9223372036854775807) :
    Calls Try.prog 25 #[fsV d v, .string n, .int .i64 m] w fun e w' => ∃ v', e = .returned (.tuple #[fsV (cutR d n m).1 v', .int .i64 (cutR d n m).2]) ∧ RowF w' v' (cutR d n m).1.files ∧ FitAll (cutR d n m).1 ∧ Below w.heap.size w w' := by
  have hb : Below w.heap.size w (((w.alloc (Obj.cells #[.int .i64 d.room, v, .int .i64 d.fuse, .int .i64 d.fault, .bool d.down] 24)).alloc (Obj.cells #[.int .i64 m] 3)).alloc (Obj.cells #[.int .i64 0, .slice none 0 0, .int .i64 0, .int .i64 0, .bool false] 24)) := ((((Below.refl _ w).alloc (by first | omega | (simp only [World.size_alloc]; omega)) (Obj.cells #[.int .i64 d.room, v, .int .i64 d.fuse, .int .i64 d.fault, .bool d.down] 24)).alloc (by first | omega | (simp only [World.size_alloc]; omega)) (Obj.cells #[.int .i64 m] 3)).alloc (by first | omega | (simp only [World.size_alloc]; omega)) (Obj.cells #[.int .i64 0, .slice none 0 0, .int .i64 0, .int .i64 0, .bool false] 24))
  have q1 := ((Blk.new (w.alloc (Obj.cells #[.int .i64 d.room, v, .int .i64 d.fuse, .int .i64 d.fault, .bool d.down] 24)) 3 #[.int .i64 m]).below ((Below.refl _ _).alloc (Nat.le_refl _) (Obj.cells #[.int .i64 0, .slice none 0 0, .int .i64 0, .int .i64 0, .bool false] 24)))
  simp only [World.size_alloc] at q1
  have hsz : (((w.alloc (Obj.cells #[.int .i64 d.room, v, .int .i64 d.fuse, .int .i64 d.fault, .bool d.down] 24)).alloc (Obj.cells #[.int .i64 m] 3)).alloc (Obj.cells #[.int .i64 0, .slice none 0 0, .int .i64 0, .int .i64 0, .bool false] 24)).heap.size = w.heap.size + 1 + 1 + 1 := by simp only [World.size_alloc]
  have HW := hide (workOn_any d v n 60 #[.pointer (some ⟨w.heap.size + 1, 0, none⟩)] (cutC m) (((w.alloc (Obj.cells #[.int .i64 d.room, v, .int .i64 d.fuse, .int .i64 d.fault, .bool d.down] 24)).alloc (Obj.cells #[.int .i64 m] 3)).alloc (Obj.cells #[.int .i64 0, .slice none 0 0, .int .i64 0, .int .i64 0, .bool false] 24)) hfit (h.below hb) (enters_of Try.func60 (by kernel_rfl) rfl) (fun hg hh W C B hC hB hS => cut1_any d (lb d.files n) C B _ m W hS (has_lb (right_parts hg.1).2.2.2 hh).1 (q1.below hB) hm1 hm2))
  have z := Blk.new ((w.alloc (Obj.cells #[.int .i64 d.room, v, .int .i64 d.fuse, .int .i64 d.fault, .bool d.down] 24)).alloc (Obj.cells #[.int .i64 m] 3)) 24 #[.int .i64 0, .slice none 0 0, .int .i64 0, .int .i64 0, .bool false]
  simp only [World.size_alloc] at z
  have HZ := hide z
  have HB := hide hb
  obtain ⟨a, cap, rfl, _, _, _⟩ := h
  clear z hb hsz q1
  have hres : cutR d n m = workR d (onR n (cutC m)) := rfl
  rw [hres]
  clear hres
  generalize workR d (onR n (cutC m)) = res at HW ⊢
  obtain ⟨d5, n5⟩ := res
  simp only [fsV] at HW ⊢
  go_enter Try.func25, Try.ntmps25
  go_wp2_with fail
  refine (unhide HW).mono ?_
  rintro e w5 ⟨v5, rfl, hrow5, hfit5, b5⟩
  have k := (unhide HZ).below b5
  have RB := hide (below5 (s := w.heap.size + 1 + 1) ((unhide HB).trans (b5.mono (unhide HB).size)) (by omega))
  have RR := hide (rowF5 hrow5 k (by intro i x; match i with | 0 | 1 | 2 | 3 | 4 => simp | i + 5 => simp))
  have HF5 := hide hfit5
  have e0 := k.cell 0
  have e1 := k.cell 1
  have e2 := k.cell 2
  have e3 := k.cell 3
  have e4 := k.cell 4
  have f0 := k.frozen 0
  have f1 := k.frozen 1
  have f2 := k.frozen 2
  have f3 := k.frozen 3
  have f4 := k.frozen 4
  simp only [List.getElem?_toArray, List.getElem?_cons_succ, List.getElem?_cons_zero] at e0 e1 e2 e3 e4
  obtain ⟨a5, cap5, rfl, _, _, _⟩ := hrow5
  clear k b5 hfit5 HW
  go_wp2
  (try simp only [Exit.inBlock, Exit.then])
  refine bodyPost_ret (v := .tuple #[.agg #[.int .i64 d5.room, .slice a5 d5.files.length cap5, .int .i64 d5.fuse, .int .i64 d5.fault, .bool d5.down], .int .i64 n5]) ?_ rfl ⟨_, rfl, unhide RR _ _ _ _ _, unhide HF5, unhide RB _ _ _ _ _⟩
  rw [results_cell_tmp rfl]
  go_simp
end Go.Proofs.Ytmfkhbofmaonkaa
