/-
  What disk.Delete's innermost step does, over this seat's program.
-/
import Derived.Test.YtpfmhlldkikbjaaDoorBnd1
import Derived.Deep.RegionHeld3
import Derived.Deep.QuietTactic
import Derived.BigQuiet
import Derived.Laws.AppendOwn
import Derived.OwnWalk
import Derived.Test.YtpfmhlldkikbjaaDoorWrb
set_option linter.unusedVariables false
set_option linter.unusedSimpArgs false
namespace Go.Proofs.YtpfmhlldkikbjaaDoor
open Go.RowKit Go.Proofs.Dsk

theorem below_undrew {B n : Nat} {a w : World} (h : Below B (a.drewN n) w) : Below B a w := ⟨h.os, h.tape, h.output, h.size, h.block⟩
theorem pt_ne {w : World} {p B : Nat} {cs ds : Array Value} (h : Blk w p 60 cs) (k : Blk w B 65 ds) : p ≠ B := blk_ne h k (by decide)
theorem it_ne {w : World} {p B : Nat} {cs ds : Array Value} (h : Blk w p 3 cs) (k : Blk w B 65 ds) : p ≠ B := blk_ne h k (by decide)
theorem st_ne {w : World} {p B : Nat} {cs ds : Array Value} (h : Blk w p 9 cs) (k : Blk w B 65 ds) : p ≠ B := blk_ne h k (by decide)

end Go.Proofs.YtpfmhlldkikbjaaDoor

/-
  What disk.Delete does, over this seat's program: the file is no more.
-/
set_option linter.unusedVariables false
namespace Go.Proofs.YtpfmhlldkikbjaaDoor
open Go.RowKit Go.Proofs.Dsk

end Go.Proofs.YtpfmhlldkikbjaaDoor

/-
  A field of a file is written over, in this seat's program's world.
-/
set_option linter.unusedVariables false
namespace Go.Proofs.YtpfmhlldkikbjaaDoor
open Go.RowKit Go.Proofs.Dsk

theorem flatF_set1 : ∀ (l : List File) (i : Nat) (h : i < l.length) (f : File) (k : Nat) (u : Value), k < 3 → cellsF f = (cellsF l[i]).set k u → (flatF l).set (i * 3 + k) u = flatF (l.set i f)
  | [], i, h, _, _, _, _, _ => by simp at h
  | y :: r, 0, h, f, k, u, hk, hx => by
    simp only [List.getElem_cons_zero] at hx
    rw [Nat.zero_mul, Nat.zero_add, flatF_cons, List.set_cons_zero, flatF_cons, List.set_append_left _ _ (by show k < 3; exact hk), hx]
  | y :: r, i + 1, h, f, k, u, hk, hx => by
    have ih := flatF_set1 r i (by simpa using h) f k u hk (by simpa using hx)
    rw [flatF_cons, List.set_cons_succ, flatF_cons, ← ih, List.set_append_right _ _ (by show 3 ≤ _; omega), show (cellsF y).length = 3 from rfl, show (i + 1) * 3 + k - 3 = i * 3 + k by omega]
theorem fit_set {d : Fs} {i : Nat} {f : File} (h : FitAll d) (hf : Fits f) : FitAll { d with files := d.files.set i f } :=
  ⟨h.1, fun x hx => by
    rcases List.mem_or_eq_of_mem_set hx with h1 | h1
    · exact h.2.1 x h1
    · rw [h1]; exact hf, by rw [List.length_set]; exact h.2.2⟩
/-- A field of a file is written over. -/
theorem SysV.file {w : World} {C B g cap i k : Nat} {d : Fs} {f : File} {u : Value} (h : SysV w C B (.slice (some ⟨g, 0, none⟩) d.files.length cap) d) (hi : i < d.files.length) (hk : k < 3) (hx : cellsF f = (cellsF d.files[i]).set k u) (hf : Fits f) :
    SysV (w.setCell ⟨g, i * 3 + k, none⟩ u) C B (.slice (some ⟨g, 0, none⟩) (d.files.set i f).length cap) { d with files := d.files.set i f } := by
  obtain ⟨h0, hfit, h1, h2, h3⟩ := h
  have hne : B ≠ g := fun e => h3 (by rw [e]; rfl)
  have hlen : (d.files.set i f).length = d.files.length := List.length_set ..
  refine ⟨h0, fit_set hfit hf, ?_, ?_, by rw [hlen]; exact h3⟩
  · rw [hlen]; exact h1.other (a := ⟨g, i * 3 + k, none⟩) hne u
  · have := (h2.stored (i * 3 + k) u).1
    rw [flatF_set1 d.files i hi f k u hk hx] at this
    rw [hlen]
    exact this
theorem SysV.lenSet {w : World} {C B i : Nat} {v : Value} {d : Fs} {f : File} (h : SysV w C B v { d with files := d.files.set i f }) : SysV w C B v { d with files := d.files.set i f } := h
/-- The cells of a file at work. -/
theorem SysV.at {w : World} {C B : Nat} {v : Value} {d : Fs} (h : SysV w C B v d) {i : Nat} (hi : i < d.files.length) :
    ∃ g cap, v = .slice (some ⟨g, 0, none⟩) d.files.length cap ∧ C ≤ g ∧ g < w.heap.size ∧ B ≠ g ∧ w.cell? ⟨g, i * 3, none⟩ = some (.string d.files[i].name) ∧ w.cell? ⟨g, i * 3 + 1, none⟩ = some (.string d.files[i].data) ∧ w.cell? ⟨g, i * 3 + 2, none⟩ = some (.int .i64 d.files[i].synced) ∧ (∀ j, w.frozen? ⟨g, j, none⟩ = false) ∧ ∃ cur, w.heap[g]? = some (.cells cur 69 (0, 0)) := by
  obtain ⟨h0, hfit, h1, h2, h3⟩ := h
  rcases h2.2 with ⟨_, hz⟩ | ⟨g, cap, cur, hv, hb, hg, _⟩
  · omega
  · subst hv
    obtain ⟨t0, t1, t2⟩ := flatF_get d.files i hi
    exact ⟨g, cap, rfl, hb, (Array.getElem?_eq_some_iff.1 hg).1, fun e => h3 (by rw [e]; rfl), (h2.cellAt (i * 3) (by omega)).trans t0, (h2.cellAt (i * 3 + 1) (by omega)).trans t1, (h2.cellAt (i * 3 + 2) (by omega)).trans t2, fun j => h2.frozenAt _, cur, hg⟩
theorem modify_set {l : List File} {i : Nat} (h : i < l.length) (g : File → File) : l.modify i g = l.set i (g l[i]) := by
  apply List.ext_getElem?
  intro j
  rw [List.getElem?_modify, List.getElem?_set]
  by_cases hj : i = j
  · subst hj; simp [h]
  · simp [hj]
end Go.Proofs.YtpfmhlldkikbjaaDoor

/-
  What disk.Sync does, over this seat's program.
-/
set_option linter.unusedVariables false
set_option linter.unusedSimpArgs false
namespace Go.Proofs.YtpfmhlldkikbjaaDoor
open Go.RowKit Go.Proofs.Dsk

theorem ft_ne {w : World} {p B : Nat} {cs ds : Array Value} (h : Blk w p 75 cs) (k : Blk w B 65 ds) : p ≠ B := blk_ne h k (by decide)
theorem below_dr1 {B : Nat} {a w : World} (h : Below B a w) : Below B a w.drew := ⟨h.os, h.tape, h.output, h.size, h.block⟩
def syncF (f : File) : File := { f with synced := f.data.size }
theorem fits_sync {f : File} (h : Fits f) : Fits (syncF f) := ⟨h.1, h.2.1, by show -9223372036854775808 ≤ (f.data.size : Int); omega, by show (f.data.size : Int) ≤ 9223372036854775807; have := h.2.1; omega⟩

set_option maxHeartbeats 2000000 in
set_option maxRecDepth 100000 in
theorem sync11_any (d : Fs) (C B p g cap i : Nat) (W : World) (hS : SysV W C B (.slice (some ⟨g, 0, none⟩) d.files.length cap) d) (hi : i < d.files.length) (hp : Blk W p 75 #[.pointer (some ⟨g, i * 3, none⟩)]) :
    Calls Tryd.prog 34 #[.pointer (some ⟨p, 0, none⟩)] W fun e W' => e = .returned (.tuple #[]) ∧ Sys W' C B { d with files := d.files.set i (syncF d.files[i]) } ∧ Below C W W' := by
  obtain ⟨g', cap', hv', hgC, hgw, nBg, x0, x1, x2, hfz, _⟩ := hS.at hi
  injection hv' with e1 e2 e3
  injection e1 with e1
  injection e1 with e1
  subst e1
  have hf2 := hfz (i * 3 + 2)
  have cp := hp.cell 0
  simp only [List.getElem?_toArray, List.getElem?_cons_zero] at cp
  have HN := hide ((hS.file (f := syncF d.files[i]) (u := .int .i64 (d.files[i].data.size : Int)) hi (show 2 < 3 by omega) rfl (fits_sync (hS.2.1.2.1 _ (List.getElem_mem hi)))).sys)
  have HB := hide ((Below.refl C W).setCell (p := ⟨g, i * 3 + 2, none⟩) hgC (.int .i64 (d.files[i].data.size : Int)))
  generalize hsf : syncF d.files[i] = sf at HN ⊢
  generalize d.files[i].data = dt at x1 HN HB
  generalize d.files[i].synced = sy at x2
  clear hsf hfz hS hp e2 e3
  go_enter Tryd.func34, Tryd.ntmps34
  go_wp2
  go_region
  all_goals
    go_wp2
    go_end0
    exact ⟨rfl, unhide HN, below_dr1 (unhide HB)⟩

set_option maxHeartbeats 2000000 in
set_option maxRecDepth 100000 in
theorem sync1_any (d : Fs) (i C B : Nat) (W : World) (hS : Sys W C B d) (hi : i < d.files.length) :
    Calls Tryd.prog 33 (#[.pointer (some ⟨B, 0, none⟩), .int .i64 (i : Nat)] ++ #[]) W fun e W' => e = .returned (.int .i64 (changeR d fun d => { d with files := d.files.modify i syncF }).2) ∧ Sys W' C B (changeR d fun d => { d with files := d.files.modify i syncF }).1 ∧ Below C W W' := by
  obtain ⟨v, hV⟩ := hS.val
  have hlt := hS.lt
  have hCB := hS.1
  obtain ⟨g, cap, hv, hgC, hgw, nBg, _⟩ := hV.at hi
  subst hv
  have hb2 := (Below.refl W.heap.size W).alloc (Nat.le_refl _) (Obj.cells #[.pointer (some ⟨g, i * 3, none⟩)] 75)
  have q0 := Blk.new W 75 #[.pointer (some ⟨g, i * 3, none⟩)]
  have HC := hide (change_any d C B 34 #[.pointer (some ⟨W.heap.size, 0, none⟩)] (fun d => { d with files := d.files.modify i syncF }) _ _ (hV.below hb2) (enters_of Tryd.func34 (by kernel_rfl) rfl)
    (fun W' hg hS' => by
      have h := sync11_any (spent d) C B W.heap.size g cap i W' hS' hi (blk_grown q0 hg (by omega))
      rw [← modify_set (l := (spent d).files) hi syncF] at h
      exact h))
  have HB := hide (hb2.mono (show C ≤ W.heap.size by omega))
  have c1 := hV.2.2.1.cell 1
  simp only [sysCells, List.getElem?_toArray, List.getElem?_cons_succ, List.getElem?_cons_zero] at c1
  have h63 := hV.2.1.2.2
  obtain ⟨n, hn⟩ : ∃ n, n = d.files.length := ⟨_, rfl⟩
  rw [← hn] at c1 hi h63
  have hil : (i : Int) < (n : Int) := by omega
  clear q0 hV hS hb2 hn
  generalize (changeR d fun d => { d with files := d.files.modify i syncF }) = res at HC ⊢
  obtain ⟨d5, n5⟩ := res
  simp only at HC ⊢
  go_enter Tryd.func33, Tryd.ntmps33
  go_wp2_with fail
  refine (unhide HC).mono ?_
  rintro e w5 ⟨rfl, s5, b5⟩
  have S5 := hide s5
  have B5 := hide ((unhide HB).trans b5)
  clear s5 b5
  go_wp2
  go_ret
  exact ⟨rfl, unhide S5, unhide B5⟩

set_option maxHeartbeats 2000000 in
set_option maxRecDepth 100000 in
theorem sync_any (d : Fs) (v : Value) (n : ByteArray) (w : World) (hfit : FitAll d) (h : RowF w v d.files) :
    Calls Tryd.prog 9 #[fsV d v, .string n] w fun e w' => ∃ v', e = .returned (.tuple #[fsV (syncR d n).1 v', .int .i64 (syncR d n).2]) ∧ RowF w' v' (syncR d n).1.files ∧ FitAll (syncR d n).1 ∧ Below w.heap.size w w' := by
  have hb : Below w.heap.size w ((w.alloc (Obj.cells #[.int .i64 d.room, v, .int .i64 d.fuse, .int .i64 d.fault, .bool d.down] 31)).alloc (Obj.cells #[.int .i64 0, .slice none 0 0, .int .i64 0, .int .i64 0, .bool false] 31)) := (((Below.refl _ w).alloc (by first | omega | (simp only [World.size_alloc]; omega)) (Obj.cells #[.int .i64 d.room, v, .int .i64 d.fuse, .int .i64 d.fault, .bool d.down] 31)).alloc (by first | omega | (simp only [World.size_alloc]; omega)) (Obj.cells #[.int .i64 0, .slice none 0 0, .int .i64 0, .int .i64 0, .bool false] 31))
  have hsz : ((w.alloc (Obj.cells #[.int .i64 d.room, v, .int .i64 d.fuse, .int .i64 d.fault, .bool d.down] 31)).alloc (Obj.cells #[.int .i64 0, .slice none 0 0, .int .i64 0, .int .i64 0, .bool false] 31)).heap.size = w.heap.size + 1 + 1 := by simp only [World.size_alloc]
  have HW := hide (workOn_any d v n 33 #[] (fun i d => changeR d fun d => { d with files := d.files.modify i syncF }) ((w.alloc (Obj.cells #[.int .i64 d.room, v, .int .i64 d.fuse, .int .i64 d.fault, .bool d.down] 31)).alloc (Obj.cells #[.int .i64 0, .slice none 0 0, .int .i64 0, .int .i64 0, .bool false] 31)) hfit (h.below hb) (enters_of Tryd.func33 (by kernel_rfl) rfl) (fun hg hh W C B hC hB hS => sync1_any d (lb d.files n) C B W hS (has_lb (right_parts hg.1).2.2.2 hh).1))
  have z := Blk.new (w.alloc (Obj.cells #[.int .i64 d.room, v, .int .i64 d.fuse, .int .i64 d.fault, .bool d.down] 31)) 31 #[.int .i64 0, .slice none 0 0, .int .i64 0, .int .i64 0, .bool false]
  simp only [World.size_alloc] at z
  have HZ := hide z
  have HB := hide hb
  obtain ⟨a, cap, rfl, _, _, _⟩ := h
  clear z hb hsz 
  have hres : syncR d n = workR d (onR n (fun i d => changeR d fun d => { d with files := d.files.modify i syncF })) := rfl
  rw [hres]
  clear hres
  generalize workR d (onR n (fun i d => changeR d fun d => { d with files := d.files.modify i syncF })) = res at HW ⊢
  obtain ⟨d5, n5⟩ := res
  simp only [fsV] at HW ⊢
  go_enter Tryd.func9, Tryd.ntmps9
  go_wp2_with fail
  refine (unhide HW).mono ?_
  rintro e w5 ⟨v5, rfl, hrow5, hfit5, b5⟩
  have k := (unhide HZ).below b5
  have RB := hide (below5 (s := w.heap.size + 1) ((unhide HB).trans (b5.mono (unhide HB).size)) (by omega))
  have RR := hide (rowF5 hrow5 k (by intro i x; match i with | 0 | 1 | 2 | 3 | 4 => simp | i + 5 => simp))
  have HF5 := hide hfit5
  have e0 := k.cell 0
  have e1 := k.cell 1
  have e2 := k.cell 2
  have e3 := k.cell 3
  have e4 := k.cell 4
  have f0 := k.frozen 0
  have f1 := k.frozen 1
  have f2 := k.frozen 2
  have f3 := k.frozen 3
  have f4 := k.frozen 4
  simp only [List.getElem?_toArray, List.getElem?_cons_succ, List.getElem?_cons_zero] at e0 e1 e2 e3 e4
  obtain ⟨a5, cap5, rfl, _, _, _⟩ := hrow5
  clear k b5 hfit5 HW
  go_wp2
  (try simp only [Exit.inBlock, Exit.then])
  refine bodyPost_ret (v := .tuple #[.agg #[.int .i64 d5.room, .slice a5 d5.files.length cap5, .int .i64 d5.fuse, .int .i64 d5.fault, .bool d5.down], .int .i64 n5]) ?_ rfl ⟨_, rfl, unhide RR _ _ _ _ _, unhide HF5, unhide RB _ _ _ _ _⟩
  rw [results_cell_tmp rfl]
  go_simp
end Go.Proofs.YtpfmhlldkikbjaaDoor

/-
  What disk.Cut does, over this seat's program.
-/
set_option linter.unusedVariables false
set_option linter.unusedSimpArgs false
namespace Go.Proofs.YtpfmhlldkikbjaaDoor
open Go.RowKit Go.Proofs.Dsk

def cutF (n : Int) (f : File) : File := { f with data := f.data.extract 0 n.toNat, synced := min f.synced n }
def cutC (n : Int) (i : Nat) (d : Fs) : Fs × Nat := if n < 0 ∨ (d.files[i]!).data.size < n then (d, 1) else ({ d with files := d.files.modify i (cutF n) }, 0)
theorem extract_le (s : ByteArray) (n : Nat) : (s.extract 0 n).size ≤ s.size := by simp [ByteArray.size_extract]; omega
theorem below_drN {B : Nat} {a w : World} (h : Below B a w) (n : Nat) : Below B a (w.drewN n) := ⟨h.os, h.tape, h.output, h.size, h.block⟩
theorem below_sh {B : Nat} {a w w' : World} (h : Below B a w) (hw : w' = { w with drawn := w'.drawn }) : Below B a w' := by rw [hw]; exact ⟨h.os, h.tape, h.output, h.size, h.block⟩
theorem setset {l : List File} {i : Nat} (f g : File) : (l.set i f).set i g = l.set i g := by simp

end Go.Proofs.YtpfmhlldkikbjaaDoor

/-
  Texts in memory, and what missiveref02.Same does, over this seat's program.
-/
set_option linter.unusedVariables false
namespace Go.Proofs.YtpfmhlldkikbjaaDoor
open Go.RowKit Go.Proofs.Dsk

/-- The value v is a slice of texts whose elements are l. -/
def RowS (w : World) (v : Value) (l : List ByteArray) : Prop :=
  ∃ (a : Option Addr) (cap : Nat), v = .slice a l.length cap ∧ l.length ≤ 9223372036854775807 ∧ (∀ s ∈ l, s.size ≤ 9223372036854775807) ∧
    (l = [] ∨ ∃ b off, a = some ⟨b, off, none⟩ ∧ b < w.heap.size ∧ ∀ j (h : j < l.length), w.cell? ⟨b, off + j, none⟩ = some (.string l[j]))


theorem RowS.below {w w' : World} {v : Value} {l : List ByteArray} (h : RowS w v l) (hb : Below w.heap.size w w') : RowS w' v l := by
  obtain ⟨a, cap, hv, hl, hn, hc⟩ := h
  refine ⟨a, cap, hv, hl, hn, ?_⟩
  rcases hc with hc | ⟨b, off, ha, hlt, hc⟩
  · exact Or.inl hc
  · have := hb.size
    refine Or.inr ⟨b, off, ha, by omega, fun j hj => ?_⟩
    rw [hb.cell (p := ⟨b, off + j, none⟩) hlt]
    exact hc j hj


theorem strInfo : (Tryd.prog.info? 9).map (fun i => (i.zero, i.size, i.bytes)) = some (some (.string ByteArray.empty), 1, 16) := by kernel_rfl


/-- Texts as cells of a row. -/
def cellsS (l : List ByteArray) : List Value := l.map Value.string


theorem cellsS_snoc (l : List ByteArray) (x : ByteArray) : cellsS l ++ [Value.string x] = cellsS (l ++ [x]) := by simp [cellsS]


theorem rowS_of_own {w : World} {B : Nat} {e : TypeId} {v : Value} {l : List ByteArray} (h : w.ownsRow B e 1 v l.length (cellsS l)) (h6 : l.length ≤ 9223372036854775807) (hn : ∀ s ∈ l, s.size ≤ 9223372036854775807) : RowS w v l := by
  rcases h.2 with ⟨hv, h0⟩ | ⟨g, cap, cur, hv, hg, hh, hc, hm, hs, ht⟩
  · have : l = [] := List.eq_nil_of_length_eq_zero h0
    subst this
    exact ⟨none, 0, hv, by simp, by simp, Or.inl rfl⟩
  · refine ⟨_, cap, hv, h6, hn, Or.inr ⟨g, 0, rfl, (Array.getElem?_eq_some_iff.1 hh).1, fun j hj => ?_⟩⟩
    have h1 : (cur.toList.take (l.length * 1))[j]? = (cellsS l)[j]? := by rw [ht]
    have h2 : (cellsS l)[j]? = some (.string l[j]) := by simp [cellsS, List.getElem?_eq_getElem hj]
    rw [h2, List.getElem?_take, if_pos (by omega)] at h1
    simp only [World.cell?, hh, Nat.zero_add]
    simpa using h1


theorem takeS_next {l r : List ByteArray} {k : Nat} (hl : k < l.length) (hr : k < r.length) : l.take (k + 1) = r.take (k + 1) ↔ l.take k = r.take k ∧ l[k] = r[k] := by
  rw [List.take_succ_eq_append_getElem hl, List.take_succ_eq_append_getElem hr]
  constructor
  · intro h
    have := List.append_inj' h rfl
    exact ⟨this.1, by simpa using this.2⟩
  · rintro ⟨h1, h2⟩
    rw [h1, h2]


end Go.Proofs.YtpfmhlldkikbjaaDoor

/-
  What disk.joined and (disk.system).fits do, over this seat's program.
-/
set_option linter.unusedVariables false
set_option linter.unusedSimpArgs false
namespace Go.Proofs.YtpfmhlldkikbjaaDoor
open Go.RowKit Go.Proofs.Dsk

theorem total_take {l : List ByteArray} {k : Nat} (h : k < l.length) : total (l.take (k + 1)) = total (l.take k) + l[k].size := by
  unfold total
  rw [List.take_succ_eq_append_getElem h, List.map_append, List.sum_append_nat]
  simp
theorem total_le (l : List ByteArray) (k : Nat) : total (l.take k) ≤ total l := by
  have : total l = total (l.take k) + total (l.drop k) := by
    unfold total
    rw [← List.sum_append_nat, ← List.map_append, List.take_append_drop]
  omega
def flatB (l : List ByteArray) : List UInt8 := l.flatMap fun t => t.data.toList
theorem flatB_take {l : List ByteArray} {k : Nat} (h : k < l.length) : flatB (l.take (k + 1)) = flatB (l.take k) ++ l[k].data.toList := by
  unfold flatB
  rw [List.take_succ_eq_append_getElem h, List.flatMap_append]
  simp
theorem flatB_length (l : List ByteArray) : (flatB l).length = total l := by
  induction l with
  | nil => rfl
  | cons x r ih => simp only [flatB, total, List.flatMap_cons, List.length_append, List.map_cons, List.sum_cons, sizeL] at ih ⊢; rw [ih]
theorem joinB_size (s : ByteArray) (l : List ByteArray) : (joinB s l).size = s.size + total l := by
  rw [← sizeL]
  show (s.data.toList ++ flatB l).toArray.toList.length = _
  rw [List.toList_toArray, List.length_append, sizeL, flatB_length]

set_option maxHeartbeats 2000000 in
set_option maxRecDepth 100000 in
theorem joined_any (s : ByteArray) (v : Value) (l : List ByteArray) (w : World) (h : RowS w v l) (hs : s.size + total l ≤ 1099511627776) :
    Calls Tryd.prog 32 #[.string s, v] w fun e w' => e = .returned (.string (joinB s l)) ∧ Below w.heap.size w w' := by
  obtain ⟨a, cap, rfl, h63, hsz, hc⟩ := h
  have HC := hide hc
  clear hc
  have HW0 := hide (Wr.new w)
  go_enter Tryd.func32, Tryd.ntmps32
  go_wp2_with fail
  refine (wStr (unhide HW0) s (by simp; omega)).mono ?_
  rintro e w1 ⟨rfl, hw1⟩
  have HW1 := hide hw1
  clear hw1 HW0
  go_wp2
  go_loopw [7, 12] (fun x z wr => ∃ k : Nat, z = .int .i64 k ∧ k ≤ l.length ∧ Wr w wr (s.data.toList ++ flatB (l.take k))) (fun _ z _ => l.length - (intOf z).toNat)
  case atStart => exact ⟨0, rfl, Nat.zero_le _, by simpa [flatB] using unhide HW1⟩
  case round =>
    obtain ⟨k, rfl, hk, hwr⟩ := hrel
    by_cases hlt : k < l.length
    · rcases unhide HC with h0 | ⟨b, off, rfl, hb, hcl⟩
      · rw [h0] at hlt; simp at hlt
      · have hcx : wr.cell? ⟨b, off + k, none⟩ = some (.string l[k]) := (hwr.bel.cell (p := ⟨b, off + k, none⟩) hb).trans (hcl k hlt)
        have hlt1 : (k : Int) < (l.length : Int) := by omega
        have hfl : (s.data.toList ++ flatB (l.take k)).length + l[k].size ≤ 1099511627776 := by
          rw [List.length_append, sizeL, flatB_length]
          have h1 := total_take hlt
          have h2 := total_le l (k + 1)
          omega
        have hnx : (s.data.toList ++ flatB (l.take k)) ++ l[k].data.toList = s.data.toList ++ flatB (l.take (k + 1)) := by rw [flatB_take hlt, List.append_assoc]
        have HWS := hide (wStr hwr l[k] hfl)
        rw [hnx] at HWS
        clear hfl hnx hwr hcl
        generalize l[k] = x at hcx HWS
        go_wp2_with fail
        refine (unhide HWS).mono ?_
        rintro e w2 ⟨rfl, hw2⟩
        have HW2 := hide hw2
        clear hw2
        go_wp2
        exact ⟨⟨k + 1, by go_num, by omega, unhide HW2⟩, by simp [intOf]; omega⟩
    · have hke : k = l.length := by omega
      have htl : l.take k = l := by rw [hke]; simp
      rw [htl] at hwr
      have HS := hide (Tryd.Builder_String_any_k w.heap.size w.heap.size (s.data.toList ++ flatB l) wr hwr.isb hwr.bel.size)
      have HB := hide hwr.bel
      clear hwr htl
      go_wp2_with fail
      refine (unhide HS).mono ?_
      rintro e w2 ⟨rfl, _, b2, _⟩
      have B2 := hide ((unhide HB).trans b2)
      clear b2
      go_wp2
      go_ret
      exact ⟨rfl, unhide B2⟩

set_option maxHeartbeats 4000000 in
set_option maxRecDepth 100000 in
theorem fits_any (d : Fs) (v vs : Value) (data : List ByteArray) (w : World) (hr : right d = true) (h : RowF w v d.files) (hs : RowS w vs data) :
    Calls Tryd.prog 30 #[fsV d v, vs] w fun e w' => e = .returned (.bool (decide ((used d.files + total data : Int) ≤ d.room))) ∧ Below w.heap.size w w' := by
  obtain ⟨hp1, hp2, hp3, hp4⟩ := right_parts hr
  obtain ⟨a, cap, rfl, h63, hff, hc⟩ := h
  obtain ⟨sa, scap, rfl, hs63, hsz, hsc⟩ := hs
  obtain ⟨room, files, fuse, fault, down⟩ := d
  simp only [fsV] at *
  generalize hres : decide ((used files + total data : Int) ≤ room) = res
  have HRES := hide hres
  have HC := hide hc
  have HSC := hide hsc
  have HSZ := hide hsz
  have hus := hp2
  have hroom := hp1.2.1
  have hb0 : Below w.heap.size w (w.alloc (.cells #[.int .i64 room, .slice a files.length cap, .int .i64 fuse, .int .i64 fault, .bool down] 65)) := (Below.refl _ w).alloc (Nat.le_refl _) _
  clear hc hsc hsz hff hp1 hp2 hp3 hp4 hr hres
  go_enter Tryd.func30, Tryd.ntmps30
  go_wp2
  generalize hW : w.alloc (.cells #[.int .i64 room, .slice a files.length cap, .int .i64 fuse, .int .i64 fault, .bool down] 65) = W at *
  clear hW
  go_loopw [5, 7, 17] (fun x y z wr => ∃ k : Nat, z = .int .i64 k ∧ x = .int .i64 (room - used (files.take k)) ∧ k ≤ files.length ∧ Below w.heap.size w wr) (fun _ _ z _ => files.length - (intOf z).toNat)
  case atStart => exact ⟨0, rfl, by simp [used], Nat.zero_le _, hb0⟩
  case round =>
    obtain ⟨k, rfl, rfl, hk, hbw⟩ := hrel
    have hul := used_le files k
    by_cases hlt : k < files.length
    · rcases unhide HC with h0 | ⟨b, off, rfl, hb, hcl⟩
      · rw [h0] at hlt; simp at hlt
      · obtain ⟨c0, c1, c2⟩ := row_cells hcl hlt
        have x0 : wr.cell? ⟨b, off + k * 3, none⟩ = some (.string files[k].name) := (hbw.cell (p := ⟨b, off + k * 3, none⟩) hb).trans c0
        have x1 : wr.cell? ⟨b, off + k * 3 + 1, none⟩ = some (.string files[k].data) := (hbw.cell (p := ⟨b, off + k * 3 + 1, none⟩) hb).trans c1
        have x2 : wr.cell? ⟨b, off + k * 3 + 2, none⟩ = some (.int .i64 files[k].synced) := (hbw.cell (p := ⟨b, off + k * 3 + 2, none⟩) hb).trans c2
        have ht := used_take hlt
        have hul2 := used_le files (k + 1)
        have hnx : room - (used (files.take k) : Int) - (files[k].data.size : Int) = room - (used (files.take (k + 1)) : Int) := by omega
        have HNX := hide hnx
        have hws := hbw.size
        have hlt1 : (k : Int) < (files.length : Int) := by omega
        have hq1 : (files[k].data.size : Int) ≤ 16777216 := by omega
        have hq2 : (used (files.take k) : Int) ≤ 16777216 := by omega
        clear c0 c1 c2 hcl ht hul2 hnx hul
        generalize files[k].name = n0 at x0
        generalize files[k].data = d0 at x1 HNX hq1
        generalize files[k].synced = s0 at x2
        have HBA := hide (hbw.alloc hws (Obj.cells #[Value.string n0, Value.string d0, Value.int IntKind.i64 s0] 69))
        clear hbw
        go_wp2
        exact ⟨⟨k + 1, by go_num, by rw [← unhide HNX], by omega, unhide HBA⟩, by simp [intOf]; omega⟩
    · have hke : k = files.length := by omega
      have htl : files.take k = files := by rw [hke]; simp
      rw [htl]
      clear htl hul
      have hu0 : (used files : Int) ≤ 16777216 := by omega
      generalize used files = U at *
      have HBW := hide hbw
      obtain ⟨left, hleft⟩ : ∃ left : Int, left = room - (U : Int) := ⟨_, rfl⟩
      rw [← hleft]
      have hl0 : 0 ≤ left := by omega
      have hl1 : left ≤ 16777216 := by omega
      have HLEFT := hide hleft
      clear hbw hleft
      generalize hwq : wr = wq at *
      clear hwq
      go_wp2
      go_loopw [5, 9, 29] (fun x y z wr => ∃ k : Nat, z = .int .i64 k ∧ x = .int .i64 (left - total (data.take k)) ∧ (total (data.take k) : Int) ≤ left ∧ k ≤ data.length ∧ wr = wq) (fun _ _ z _ => data.length - (intOf z).toNat)
      case atStart => exact ⟨0, rfl, by simp [total], by simpa [total] using hl0, Nat.zero_le _, rfl⟩
      case round =>
        obtain ⟨k, rfl, rfl, htk, hk, hwq⟩ := hrel
        have HQ := hide hwq
        have HBR : Hid (Below w.heap.size w wr) := by rw [hwq]; exact HBW
        by_cases hlt : k < data.length
        · rcases unhide HSC with h0 | ⟨b, off, rfl, hb, hcl⟩
          · rw [h0] at hlt; simp at hlt
          · have x0 : wr.cell? ⟨b, off + k, none⟩ = some (.string data[k]) := by rw [hwq]; exact ((unhide HBW).cell (p := ⟨b, off + k, none⟩) hb).trans (hcl k hlt)
            clear hwq
            have hz := unhide HSZ _ (List.getElem_mem hlt)
            have ht := total_take hlt
            have hlt1 : (k : Int) < (data.length : Int) := by omega
            have htl := total_le data (k + 1)
            by_cases hfit : (total (data.take (k + 1)) : Int) ≤ left
            · have hnx : left - (total (data.take k) : Int) - (data[k].size : Int) = left - (total (data.take (k + 1)) : Int) := by omega
              have HNX := hide hnx
              have HF := hide hfit
              have hn0 : ¬ (left - (total (data.take k) : Int) - (data[k].size : Int) < 0) := by omega
              have hz2 : (data[k].size : Int) ≤ left := by omega
              have htk2 : (total (data.take k) : Int) + (data[k].size : Int) ≤ left := by omega
              clear hnx hfit hcl ht htl
              generalize data[k] = x at x0 HNX hz hn0 hz2 htk2
              go_wp2
              exact ⟨⟨k + 1, by go_num, by rw [← unhide HNX], unhide HF, by omega, unhide HQ⟩, by simp [intOf]; omega⟩
            · have hno : (false : Bool) = res := by
                rw [← unhide HRES]
                symm
                rw [decide_eq_false_iff_not]
                have := unhide HLEFT
                omega
              have HNO := hide hno
              have hn0 : left - (total (data.take k) : Int) - (data[k].size : Int) < 0 := by omega
              clear hno hfit hcl ht htl
              generalize data[k] = x at x0 hz hn0
              go_wp2
              go_ret
              exact ⟨by rw [← unhide HNO]; rfl, unhide HBR⟩
        · have hke : k = data.length := by omega
          have htl : data.take k = data := by rw [hke]; simp
          rw [htl] at htk
          have hyes : (true : Bool) = res := by
            rw [← unhide HRES]
            symm
            rw [decide_eq_true_eq]
            have := unhide HLEFT
            omega
          have HYES := hide hyes
          clear hyes htl htk hwq
          go_wp2
          go_ret
          exact ⟨by rw [← unhide HYES]; rfl, unhide HBR⟩

end Go.Proofs.YtpfmhlldkikbjaaDoor
