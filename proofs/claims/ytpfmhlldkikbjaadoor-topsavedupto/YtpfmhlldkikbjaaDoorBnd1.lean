/-
  A file system at work, in this seat's program's world; what (*disk.system).change does.
-/
import Derived.Test.YtpfmhlldkikbjaaDoorCpo
import Derived.Laws.IdiomCopy
import Derived.Deep.RegionLaw
set_option linter.unusedVariables false
namespace Go.Proofs.YtpfmhlldkikbjaaDoor
open Go.RowKit Go.Proofs.Dsk

/-- All numbers are such as a program can hold. -/
def FitAll (d : Fs) : Prop := FitsFs d ∧ (∀ f ∈ d.files, Fits f) ∧ d.files.length ≤ 9223372036854775807

def sysCells (d : Fs) (v : Value) : Array Value := #[.int .i64 d.room, v, .int .i64 d.fuse, .int .i64 d.fault, .bool d.down]

/-- At block B lies the file system d at work; its files lie in a row of its own; both from block C on. -/
def Sys (w : World) (C B : Nat) (d : Fs) : Prop :=
  C ≤ B ∧ FitAll d ∧ ∃ v, Blk w B 65 (sysCells d v) ∧ w.ownsRow C 69 3 v d.files.length (flatF d.files) ∧ v.ownBlock ≠ some B

/-- The same, with the slice of its files told. -/
def SysV (w : World) (C B : Nat) (v : Value) (d : Fs) : Prop :=
  C ≤ B ∧ FitAll d ∧ Blk w B 65 (sysCells d v) ∧ w.ownsRow C 69 3 v d.files.length (flatF d.files) ∧ v.ownBlock ≠ some B
theorem SysV.sys {w : World} {C B : Nat} {v : Value} {d : Fs} (h : SysV w C B v d) : Sys w C B d := ⟨h.1, h.2.1, v, h.2.2.1, h.2.2.2.1, h.2.2.2.2⟩
theorem Sys.val {w : World} {C B : Nat} {d : Fs} (h : Sys w C B d) : ∃ v, SysV w C B v d := by
  obtain ⟨h1, h2, v, h3, h4, h5⟩ := h
  exact ⟨v, h1, h2, h3, h4, h5⟩
theorem SysV.below {w w' : World} {C B : Nat} {v : Value} {d : Fs} (h : SysV w C B v d) (hb : Below w.heap.size w w') : SysV w' C B v d :=
  ⟨h.1, h.2.1, h.2.2.1.below hb, own_below h.2.2.2.1 hb, h.2.2.2.2⟩

theorem Sys.lt {w : World} {C B : Nat} {d : Fs} (h : Sys w C B d) : B < w.heap.size := by
  obtain ⟨_, _, v, hb, _⟩ := h
  exact hb.lt
theorem Sys.below {w w' : World} {C B : Nat} {d : Fs} (h : Sys w C B d) (hb : Below w.heap.size w w') : Sys w' C B d := by
  obtain ⟨h0, hf, v, h1, h2, h3⟩ := h
  exact ⟨h0, hf, v, h1.below hb, own_below h2 hb, h3⟩

theorem own_set {w : World} {C B i : Nat} {e : TypeId} {size n : Nat} {v u : Value} {xs : List Value} (h : w.ownsRow C e size v n xs) (hne : v.ownBlock ≠ some B) : (w.setCell ⟨B, i, none⟩ u).ownsRow C e size v n xs :=
  h.kept (row := some B) ⟨rfl, rfl, rfl, by simp, fun k hk hn => Below.heap_setCell _ _ _ _ (fun e => hn (by rw [e]))⟩ (Or.inr hne)

/-- One of its numbers is turned. -/
theorem SysV.put {w : World} {C B : Nat} {v : Value} {d d' : Fs} (h : SysV w C B v d) (i : Nat) (u : Value) (hf : d'.files = d.files) (hfit : FitAll d') (he : ∀ v, (sysCells d v).setIfInBounds i u = sysCells d' v) : SysV (w.setCell ⟨B, i, none⟩ u) C B v d' := by
  obtain ⟨h0, _, h1, h2, h3⟩ := h
  refine ⟨h0, hfit, ?_, ?_, h3⟩
  · rw [← he v]; exact h1.set i u
  · rw [hf]; exact own_set h2 h3

theorem fit_spent {d : Fs} (h : FitAll d) : FitAll (spent d) := by
  obtain ⟨⟨h1, h2, h3⟩, h4⟩ := h
  refine ⟨⟨h1, ?_, ?_⟩, h4⟩
  · simp only [spent]; split <;> omega
  · simp only [spent]; split <;> omega

theorem grown0 (w : World) (B : Nat) : w.grownBy w (some B) := ⟨rfl, rfl, rfl, Nat.le_refl _, fun _ _ _ => rfl⟩
theorem grown1 (w : World) (B i : Nat) (u : Value) : w.grownBy (w.setCell ⟨B, i, none⟩ u) (some B) :=
  ⟨rfl, rfl, rfl, by simp, fun k hk hn => Below.heap_setCell _ _ _ _ (fun e => hn (by rw [e]))⟩
theorem grown_trans {a b c : World} {B : Nat} (h : a.grownBy b (some B)) (k : b.grownBy c (some B)) : a.grownBy c (some B) :=
  ⟨k.os.trans h.os, k.tape.trans h.tape, k.output.trans h.output, Nat.le_trans h.size k.size, fun i hi hn => (k.block i (by have := h.size; omega) hn).trans (h.block i hi hn)⟩
theorem grown2 (w : World) (B i j : Nat) (u x : Value) : w.grownBy ((w.setCell ⟨B, i, none⟩ u).setCell ⟨B, j, none⟩ x) (some B) := grown_trans (grown1 w B i u) (grown1 _ B j x)
theorem grown_below {w W : World} {B C : Nat} (h : w.grownBy W (some B)) (hC : C ≤ B) (hw : C ≤ w.heap.size) : Below C w W :=
  ⟨h.os, h.tape, h.output, h.size, fun k hk => h.block k (by omega) (fun e => by simp at e; omega)⟩

set_option maxHeartbeats 4000000 in
set_option maxRecDepth 100000 in
/-- What a change asks, and then does. -/
theorem change_any (d : Fs) (C B g : Nat) (lb : Array Value) (f : Fs → Fs) (v : Value) (w : World) (h : SysV w C B v d) (eg : ∀ args w, (callFunc g args).run Tryd.prog w = .ok (.enter g args) w)
    (hdo : ∀ W, w.grownBy W (some B) → SysV W C B v (spent d) → Calls Tryd.prog g lb W fun e W' => e = .returned (.tuple #[]) ∧ Sys W' C B (f (spent d)) ∧ Below C W W') :
    Calls Tryd.prog 24 #[.pointer (some ⟨B, 0, none⟩), .func (.func g) #[] lb] w fun e w' => e = .returned (.int .i64 (changeR d f).2) ∧ Sys w' C B (changeR d f).1 ∧ Below C w w' := by
  have HS := hide h
  obtain ⟨hCB, hfit, k0, hown, hne⟩ := h
  have c2 := k0.cell 2
  have c3 := k0.cell 3
  have c4 := k0.cell 4
  have f2 := k0.frozen 2
  have f3 := k0.frozen 3
  have f4 := k0.frozen 4
  simp only [sysCells, List.getElem?_toArray, List.getElem?_cons_succ, List.getElem?_cons_zero] at c2 c3 c4
  have HFIT := hide hfit
  obtain ⟨⟨_, ⟨hu1, hu2⟩, hu3, hu4⟩, _⟩ := hfit
  have HB := hide hCB
  have HCW := hide (show C ≤ w.heap.size by have := k0.lt; omega)
  have HDO := hide hdo
  clear hdo k0 hown hne
  by_cases e0 : d.fuse = 0
  · have hr : changeR d f = ({ d with down := true }, 9) := by unfold changeR; rw [if_pos e0]
    rw [hr]
    have HN := hide ((unhide HS).put (d' := { d with down := true }) 4 (.bool true) rfl (unhide HFIT) (fun v => rfl))
    rw [e0] at c2
    clear hr e0
    go_enter Tryd.func24, Tryd.ntmps24
    go_wp2
    go_ret
    exact ⟨rfl, (unhide HN).sys, (Below.refl C w).setCell (p := ⟨B, 4, none⟩) (unhide HB) _⟩
  · by_cases e1 : d.fault = 0
    · have hr : changeR d f = ({ d with fuse := if 0 < d.fuse then d.fuse - 1 else d.fuse, fault := -1 }, 10) := by unfold changeR; rw [if_neg e0, if_pos e1]
      rw [hr]
      by_cases p0 : 0 < d.fuse
      · rw [if_pos p0]
        have hf1 : FitAll { d with fuse := d.fuse - 1 } := ⟨⟨(unhide HFIT).1.1, ⟨by simp only; omega, by simp only; omega⟩, (unhide HFIT).1.2.2⟩, (unhide HFIT).2⟩
        have hf2 : FitAll { d with fuse := d.fuse - 1, fault := -1 } := ⟨⟨(unhide HFIT).1.1, ⟨by simp only; omega, by simp only; omega⟩, ⟨by simp, by simp⟩⟩, (unhide HFIT).2⟩
        have HN := hide (((unhide HS).put (d' := { d with fuse := d.fuse - 1 }) 2 (.int .i64 (d.fuse - 1)) rfl hf1 (fun v => rfl)).put (d' := { d with fuse := d.fuse - 1, fault := -1 }) 3 (.int .i64 (-1)) rfl hf2 (fun v => rfl))
        rw [e1] at c3
        clear hr e1 hf1 hf2
        go_enter Tryd.func24, Tryd.ntmps24
        go_wp2
        go_ret
        exact ⟨rfl, (unhide HN).sys, ((Below.refl C w).setCell (p := ⟨B, 2, none⟩) (unhide HB) _).setCell (p := ⟨B, 3, none⟩) (unhide HB) _⟩
      · rw [if_neg p0]
        have hf2 : FitAll { d with fault := -1 } := ⟨⟨(unhide HFIT).1.1, (unhide HFIT).1.2.1, ⟨by simp, by simp⟩⟩, (unhide HFIT).2⟩
        have HN := hide ((unhide HS).put (d' := { d with fault := -1 }) 3 (.int .i64 (-1)) rfl hf2 (fun v => rfl))
        rw [e1] at c3
        clear hr e1 hf2
        go_enter Tryd.func24, Tryd.ntmps24
        go_wp2
        go_ret
        exact ⟨rfl, (unhide HN).sys, (Below.refl C w).setCell (p := ⟨B, 3, none⟩) (unhide HB) _⟩
    · have hr : changeR d f = (f (spent d), 0) := by unfold changeR; rw [if_neg e0, if_neg e1]
      rw [hr]
      have hf0 := fit_spent (unhide HFIT)
      clear hr
      by_cases p0 : 0 < d.fuse
      · have hf1 : FitAll { d with fuse := d.fuse - 1 } := ⟨⟨(unhide HFIT).1.1, ⟨by simp only; omega, by simp only; omega⟩, (unhide HFIT).1.2.2⟩, (unhide HFIT).2⟩
        by_cases p1 : 0 < d.fault
        · have hsp : spent d = { d with fuse := d.fuse - 1, fault := d.fault - 1 } := by simp [spent, p0, p1]
          have HX := hide (grown2 w B 2 3 (.int .i64 (d.fuse - 1)) (.int .i64 (d.fault - 1)))
          have HN : Hid (SysV ((w.setCell ⟨B, 2, none⟩ (.int .i64 (d.fuse - 1))).setCell ⟨B, 3, none⟩ (.int .i64 (d.fault - 1))) C B v (spent d)) := hide (((unhide HS).put (d' := { d with fuse := d.fuse - 1 }) 2 (.int .i64 (d.fuse - 1)) rfl hf1 (fun v => rfl)).put (d' := spent d) 3 (.int .i64 (d.fault - 1)) rfl hf0 (fun v => by rw [hsp]; rfl))
          clear hf0 hf1 hsp
          go_enter Tryd.func24, Tryd.ntmps24
          go_wp2_with fail
          refine (unhide HDO _ (unhide HX) (unhide HN)).mono ?_
          rintro e w1 ⟨rfl, s1, b1⟩
          have B1 := hide ((grown_below (unhide HX) (unhide HB) (unhide HCW)).trans b1)
          have S1 := hide s1
          clear b1 s1
          go_wp2
          go_ret
          exact ⟨rfl, unhide S1, unhide B1⟩
        · have hsp : spent d = { d with fuse := d.fuse - 1 } := by simp [spent, p0, p1]
          have HX := hide (grown1 w B 2 (.int .i64 (d.fuse - 1)))
          have HN : Hid (SysV (w.setCell ⟨B, 2, none⟩ (.int .i64 (d.fuse - 1))) C B v (spent d)) := hide ((unhide HS).put (d' := spent d) 2 (.int .i64 (d.fuse - 1)) rfl hf0 (fun v => by rw [hsp]; rfl))
          clear hf0 hf1 hsp
          go_enter Tryd.func24, Tryd.ntmps24
          go_wp2_with fail
          refine (unhide HDO _ (unhide HX) (unhide HN)).mono ?_
          rintro e w1 ⟨rfl, s1, b1⟩
          have B1 := hide ((grown_below (unhide HX) (unhide HB) (unhide HCW)).trans b1)
          have S1 := hide s1
          clear b1 s1
          go_wp2
          go_ret
          exact ⟨rfl, unhide S1, unhide B1⟩
      · by_cases p1 : 0 < d.fault
        · have hsp : spent d = { d with fault := d.fault - 1 } := by simp [spent, p0, p1]
          have HX := hide (grown1 w B 3 (.int .i64 (d.fault - 1)))
          have HN : Hid (SysV (w.setCell ⟨B, 3, none⟩ (.int .i64 (d.fault - 1))) C B v (spent d)) := hide ((unhide HS).put (d' := spent d) 3 (.int .i64 (d.fault - 1)) rfl hf0 (fun v => by rw [hsp]; rfl))
          clear hf0 hsp
          go_enter Tryd.func24, Tryd.ntmps24
          go_wp2_with fail
          refine (unhide HDO _ (unhide HX) (unhide HN)).mono ?_
          rintro e w1 ⟨rfl, s1, b1⟩
          have B1 := hide ((grown_below (unhide HX) (unhide HB) (unhide HCW)).trans b1)
          have S1 := hide s1
          clear b1 s1
          go_wp2
          go_ret
          exact ⟨rfl, unhide S1, unhide B1⟩
        · have hsp : spent d = d := by simp [spent, p0, p1]
          have HN : Hid (SysV w C B v (spent d)) := hide (by rw [hsp]; exact unhide HS)
          clear hf0 hsp
          go_enter Tryd.func24, Tryd.ntmps24
          go_wp2_with fail
          refine (unhide HDO _ (grown0 w B) (unhide HN)).mono ?_
          rintro e w1 ⟨rfl, s1, b1⟩
          have B1 := hide b1
          have S1 := hide s1
          clear b1 s1
          go_wp2
          go_ret
          exact ⟨rfl, unhide S1, unhide B1⟩

end Go.Proofs.YtpfmhlldkikbjaaDoor

/-
  What disk.work does, over this seat's program: a copy is worked on by a function that is handed in.
-/
set_option linter.unusedVariables false
namespace Go.Proofs.YtpfmhlldkikbjaaDoor
open Go.RowKit Go.Proofs.Dsk

theorem rowF_of_own {w : World} {C : Nat} {v : Value} {l : List File} (h : w.ownsRow C 69 3 v l.length (flatF l)) (h6 : l.length ≤ 9223372036854775807) (hf : ∀ f ∈ l, Fits f) : RowF w v l := by
  have hc := fun g => h.cells (g := g)
  rcases h.2 with ⟨rfl, h0⟩ | ⟨g, cap, cur, rfl, hb, hg, _⟩
  · exact ⟨none, 0, by rw [h0], h6, hf, Or.inl (List.eq_nil_of_length_eq_zero h0)⟩
  · refine ⟨some ⟨g, 0, none⟩, cap, rfl, h6, hf, Or.inr ⟨g, 0, rfl, (Array.getElem?_eq_some_iff.1 hg).1, fun j u hj => ?_⟩⟩
    have := hc g rfl j u hj
    rwa [Addr.add_lit] at this

theorem below5 {B s : Nat} {w W : World} (h : Below B w W) (hs : B ≤ s) : ∀ u0 u1 u2 u3 u4, Below B w (((((W.setCell ⟨s, 0, none⟩ u0).setCell ⟨s, 1, none⟩ u1).setCell ⟨s, 2, none⟩ u2).setCell ⟨s, 3, none⟩ u3).setCell ⟨s, 4, none⟩ u4) := by
  intro u0 u1 u2 u3 u4
  exact (((((h.setCell (p := ⟨s, 0, none⟩) hs _).setCell (p := ⟨s, 1, none⟩) hs _).setCell (p := ⟨s, 2, none⟩) hs _).setCell (p := ⟨s, 3, none⟩) hs _).setCell (p := ⟨s, 4, none⟩) hs _)
theorem own5 {W : World} {C s : Nat} {e : TypeId} {size n : Nat} {v : Value} {xs : List Value} (h : W.ownsRow C e size v n xs) (hs : s < C) : ∀ u0 u1 u2 u3 u4, (((((W.setCell ⟨s, 0, none⟩ u0).setCell ⟨s, 1, none⟩ u1).setCell ⟨s, 2, none⟩ u2).setCell ⟨s, 3, none⟩ u3).setCell ⟨s, 4, none⟩ u4).ownsRow C e size v n xs := by
  intro u0 u1 u2 u3 u4
  have hne : v.ownBlock ≠ some s := fun e => by have := (h.lt s e).1; omega
  exact own_set (own_set (own_set (own_set (own_set h hne) hne) hne) hne) hne
theorem Blk.belowC {w w' : World} {B C : Nat} {t : TypeId} {cs : Array Value} (h : Blk w B t cs) (hb : Below C w w') (hC : B < C) : Blk w' B t cs := by
  unfold Blk at *
  rw [hb.block B hC]; exact h

/-- A file system that is right, with its power on. -/
def Good (d : Fs) : Prop := right d = true ∧ d.down = false

theorem right_parts {d : Fs} (h : right d = true) : (0 ≤ d.room ∧ d.room ≤ 16777216 ∧ d.files.length ≤ 1024 ∧ -1 ≤ d.fuse ∧ -1 ≤ d.fault) ∧ (used d.files : Int) ≤ d.room ∧ (∀ f ∈ d.files, fileOk f = true) ∧ Rise d.files := by
  simp only [right, Bool.and_eq_true, decide_eq_true_eq, List.all_eq_true] at h
  exact ⟨headOk_yes.1 h.1, h.2.1, h.2.2.1, h.2.2.2⟩

theorem size_le_used {l : List File} {f : File} (h : f ∈ l) : f.data.size ≤ used l := by
  unfold used
  induction l with
  | nil => simp at h
  | cons a l ih =>
    simp only [List.map_cons, List.sum_cons]
    rcases List.mem_cons.1 h with rfl | h
    · omega
    · have := ih h; omega

theorem small_of_right {d : Fs} (h : right d = true) : ∀ f ∈ d.files, f.name.size ≤ 281474976710656 ∧ f.data.size ≤ 281474976710656 := by
  obtain ⟨h1, h2, h3, _⟩ := right_parts h
  intro f hf
  have a := size_le_used hf
  have b := h3 f hf
  simp only [fileOk, named, Bool.and_eq_true, decide_eq_true_eq] at b
  omega

set_option maxHeartbeats 4000000 in
set_option maxRecDepth 100000 in
theorem work_any (d : Fs) (v : Value) (g : Nat) (lb : Array Value) (f : Fs → Fs × Nat) (w : World) (hfit : FitAll d) (h : RowF w v d.files) (eg : ∀ args w, (callFunc g args).run Tryd.prog w = .ok (.enter g args) w)
    (hdo : Good d → ∀ W C B, w.heap.size ≤ C → Below w.heap.size w W → Sys W C B d → Calls Tryd.prog g (#[.pointer (some ⟨B, 0, none⟩)] ++ lb) W fun e W' => e = .returned (.int .i64 (f d).2) ∧ Sys W' C B (f d).1 ∧ Below C W W') :
    Calls Tryd.prog 20 #[fsV d v, .func (.func g) #[] lb] w fun e w' => ∃ v', e = .returned (.tuple #[fsV (workR d f).1 v', .int .i64 (workR d f).2]) ∧ RowF w' v' (workR d f).1.files ∧ FitAll (workR d f).1 ∧ Below w.heap.size w w' := by
  have HDO := hide hdo
  have HFIT := hide hfit
  have hb1 := (((Below.refl _ w).alloc (Nat.le_refl _) (Obj.cells #[.int .i64 d.room, v, .int .i64 d.fuse, .int .i64 d.fault, .bool d.down] 31)).alloc (by simp) (Obj.cells #[.int .i64 0, .slice none 0 0, .int .i64 0, .int .i64 0, .bool false] 31))
  have hrd := ready_any d v _ hfit.1 (h.below hb1)
  have HRW := hide (h.below hb1)
  obtain ⟨a, cap, rfl, h63, hff, hc⟩ := h
  clear hc hff hdo
  have z0 := ((Blk.new w 31 #[.int .i64 d.room, .slice a d.files.length cap, .int .i64 d.fuse, .int .i64 d.fault, .bool d.down]).below ((Below.refl _ _).alloc (Nat.le_refl _) (Obj.cells #[.int .i64 0, .slice none 0 0, .int .i64 0, .int .i64 0, .bool false] 31)))
  have z1 := (Blk.new (w.alloc (Obj.cells #[.int .i64 d.room, .slice a d.files.length cap, .int .i64 d.fuse, .int .i64 d.fault, .bool d.down] 31)) 31 #[.int .i64 0, .slice none 0 0, .int .i64 0, .int .i64 0, .bool false])
  simp only [World.size_alloc] at z1
  cases hr : right d with
  | false =>
    have hw : workR d f = (zeroFs, 2) := by unfold workR; rw [if_pos hr]
    have hr2 : ready d = 2 := by unfold ready; rw [if_pos hr]
    rw [hr2] at hrd
    rw [hw]
    simp only [fsV] at hrd ⊢
    go_enter Tryd.func20, Tryd.ntmps20
    go_wp2_with fail
    refine hrd.mono ?_
    rintro e w1 ⟨rfl, b1⟩
    have k1 := z1.below b1
    have e0 := k1.cell 0
    have e1 := k1.cell 1
    have e2 := k1.cell 2
    have e3 := k1.cell 3
    have e4 := k1.cell 4
    have f0 := k1.frozen 0
    have f1 := k1.frozen 1
    have f2 := k1.frozen 2
    have f3 := k1.frozen 3
    have f4 := k1.frozen 4
    simp only [List.getElem?_toArray, List.getElem?_cons_succ, List.getElem?_cons_zero] at e0 e1 e2 e3 e4
    have BW := hide (hb1.trans (b1.mono (by simp; omega)))
    clear k1 z0 z1 hb1 b1 hrd hr hw hr2
    have hlow := below5 (s := w.heap.size + 1) (unhide BW) (by omega)
    have BF := hide hlow
    clear hlow
    go_wp2
    (try simp only [Exit.inBlock, Exit.then])
    refine bodyPost_ret (v := .tuple #[.agg #[.int .i64 0, .slice none 0 0, .int .i64 0, .int .i64 0, .bool false], .int .i64 2]) ?_ rfl ⟨_, rfl, ⟨none, 0, rfl, by simp [zeroFs], by simp [zeroFs], Or.inl rfl⟩, ⟨⟨⟨by simp [zeroFs], by simp [zeroFs]⟩, ⟨by simp [zeroFs], by simp [zeroFs]⟩, ⟨by simp [zeroFs], by simp [zeroFs]⟩⟩, by simp [zeroFs], by simp [zeroFs]⟩, unhide BF _ _ _ _ _⟩
    rw [results_cell_tmp rfl]
    go_simp
  | true =>
    have hs := small_of_right hr
    have hp := right_parts hr
    have hn : d.files.length ≤ 1024 := hp.1.2.2.1
    have hcp := fun (W : World) (hW : RowF W (.slice a d.files.length cap) d.files) => copyOf_any d (.slice a d.files.length cap) W hn hs hW
    have HCP := hide hcp
    clear hcp hp hs
    simp only [fsV] at hrd HCP ⊢
    by_cases hdn : d.down = true
    · skip
      have hw : workR d f = (d, 9) := by unfold workR; rw [if_neg (by simp [hr]), if_pos hdn]
      have hr2 : ready d = 9 := by unfold ready; rw [if_neg (by simp [hr]), if_pos hdn]
      rw [hr2] at hrd
      rw [hw]
      clear hw hr2 hdn
      go_enter Tryd.func20, Tryd.ntmps20
      go_wp2_with fail
      refine hrd.mono ?_
      rintro e w1 ⟨rfl, b1⟩
      have k0 := z0.below b1
      have k1 := z1.below b1
      have c0 := k0.cell 0
      have c1 := k0.cell 1
      have c2 := k0.cell 2
      have c3 := k0.cell 3
      have c4 := k0.cell 4
      simp only [List.getElem?_toArray, List.getElem?_cons_succ, List.getElem?_cons_zero] at c0 c1 c2 c3 c4
      have hs1 := b1.size
      have hbw1 := hb1.trans (b1.mono (by simp; omega))
      have hrw1 := (unhide HRW).below b1
      simp only [World.size_alloc] at hs1
      have BW1 := hide hbw1
      have K1 := hide k1
      have CP := hide (unhide HCP w1 hrw1)
      clear k0 k1 z0 z1 hb1 b1 hrd hr hbw1 hrw1 HRW HCP
      go_wp2_with fail
      refine (unhide CP).mono ?_
      rintro e w2 ⟨v', rfl, hown, b2⟩
      obtain ⟨a', cap', rfl⟩ := own_form hown
      have hs2 := b2.size
      have BW2 := hide ((unhide BW1).trans (b2.mono (unhide BW1).size))
      have K1' := hide ((unhide K1).below b2)
      have OWN := hide hown
      clear hown b2 c0 c1 c2 c3 c4 CP K1
      have BW := hide (unhide BW2)
      have hown3 := hide ((unhide OWN).alloc (Obj.cells #[.int .i64 d.room, .slice a' d.files.length cap', .int .i64 d.fuse, .int .i64 d.fault, .bool d.down] 65))
      have k1 := (unhide K1').below ((Below.refl _ w2).alloc (Nat.le_refl _) (Obj.cells #[.int .i64 d.room, .slice a' d.files.length cap', .int .i64 d.fuse, .int .i64 d.fault, .bool d.down] 65))
      have BW3 := hide ((unhide BW2).alloc (unhide BW2).size (Obj.cells #[.int .i64 d.room, .slice a' d.files.length cap', .int .i64 d.fuse, .int .i64 d.fault, .bool d.down] 65))
      have e0 := k1.cell 0
      have e1 := k1.cell 1
      have e2 := k1.cell 2
      have e3 := k1.cell 3
      have e4 := k1.cell 4
      have f0 := k1.frozen 0
      have f1 := k1.frozen 1
      have f2 := k1.frozen 2
      have f3 := k1.frozen 3
      have f4 := k1.frozen 4
      simp only [List.getElem?_toArray, List.getElem?_cons_succ, List.getElem?_cons_zero] at e0 e1 e2 e3 e4
      have RB := hide (below5 (s := w.heap.size + 1) (unhide BW3) (by omega))
      have RO := hide (own5 (s := w.heap.size + 1) (unhide hown3) (by omega))
      clear k1 K1'
      go_wp2
      (try simp only [Exit.inBlock, Exit.then])
      refine bodyPost_ret (v := .tuple #[.agg #[.int .i64 d.room, .slice a' d.files.length cap', .int .i64 d.fuse, .int .i64 d.fault, .bool d.down], .int .i64 9]) ?_ rfl ⟨_, rfl, rowF_of_own (unhide RO _ _ _ _ _) (unhide HFIT).2.2 (unhide HFIT).2.1, unhide HFIT, unhide RB _ _ _ _ _⟩
      rw [results_cell_tmp rfl]
      go_simp
    · have hw : workR d f = f d := by unfold workR; rw [if_neg (by simp [hr]), if_neg hdn]
      have hr2 : ready d = 0 := by unfold ready; rw [if_neg (by simp [hr]), if_neg hdn]
      rw [hr2] at hrd
      rw [hw]
      have HD := hide (unhide HDO ⟨hr, by simpa using hdn⟩)
      clear HDO
      generalize f d = fd at HD ⊢
      obtain ⟨d4, n4⟩ := fd
      simp only at HD ⊢
      clear hw hr2 hdn
      go_enter Tryd.func20, Tryd.ntmps20
      go_wp2_with fail
      refine hrd.mono ?_
      rintro e w1 ⟨rfl, b1⟩
      have k0 := z0.below b1
      have k1 := z1.below b1
      have c0 := k0.cell 0
      have c1 := k0.cell 1
      have c2 := k0.cell 2
      have c3 := k0.cell 3
      have c4 := k0.cell 4
      simp only [List.getElem?_toArray, List.getElem?_cons_succ, List.getElem?_cons_zero] at c0 c1 c2 c3 c4
      have hs1 := b1.size
      have hbw1 := hb1.trans (b1.mono (by simp; omega))
      have hrw1 := (unhide HRW).below b1
      simp only [World.size_alloc] at hs1
      have BW1 := hide hbw1
      have K1 := hide k1
      have CP := hide (unhide HCP w1 hrw1)
      clear k0 k1 z0 z1 hb1 b1 hrd hr hbw1 hrw1 HRW HCP
      go_wp2_with fail
      refine (unhide CP).mono ?_
      rintro e w2 ⟨v', rfl, hown, b2⟩
      obtain ⟨a', cap', rfl⟩ := own_form hown
      have hs2 := b2.size
      have BW2 := hide ((unhide BW1).trans (b2.mono (unhide BW1).size))
      have K1' := hide ((unhide K1).below b2)
      have OWN := hide hown
      clear hown b2 c0 c1 c2 c3 c4 CP K1
      have hal := (Below.refl w2.heap.size w2).alloc (Nat.le_refl _) (Obj.cells #[.int .i64 d.room, .slice a' d.files.length cap', .int .i64 d.fuse, .int .i64 d.fault, .bool d.down] 65)
      have hown3 := (unhide OWN).alloc (Obj.cells #[.int .i64 d.room, .slice a' d.files.length cap', .int .i64 d.fuse, .int .i64 d.fault, .bool d.down] 65)
      have hsys : Sys (w2.alloc (Obj.cells #[.int .i64 d.room, .slice a' d.files.length cap', .int .i64 d.fuse, .int .i64 d.fault, .bool d.down] 65)) w1.heap.size w2.heap.size d := by
        refine ⟨hs2, unhide HFIT, .slice a' d.files.length cap', Blk.new w2 _ _, hown3, fun e => ?_⟩
        have := ((unhide OWN).lt _ e).2
        omega
      have BW3 := hide ((unhide BW2).alloc (unhide BW2).size (Obj.cells #[.int .i64 d.room, .slice a' d.files.length cap', .int .i64 d.fuse, .int .i64 d.fault, .bool d.down] 65))
      have K3 := hide ((unhide K1').below hal)
      have HDD := hide (unhide HD _ w1.heap.size w2.heap.size (by omega) (unhide BW3) hsys)
      clear hal hown3 hsys K1' HD
      go_wp2_with fail
      refine (unhide HDD).mono ?_
      rintro e w4 ⟨rfl, s4, b4⟩
      have K4 := (unhide K3).belowC b4 (by omega)
      have BW4 := hide ((unhide BW3).trans (b4.mono (by omega)))
      obtain ⟨_, hfit4, v4, hb4, hown4, hne4⟩ := s4
      simp only [sysCells] at hb4 hown4 hfit4 ⊢
      obtain ⟨a4, cap4, rfl⟩ := own_form hown4
      have RB := hide (below5 (s := w.heap.size + 1) (unhide BW4) (by omega))
      have RO := hide (own5 (s := w.heap.size + 1) hown4 (by omega))
      have HF4 := hide hfit4
      have c0 := hb4.cell 0
      have c1 := hb4.cell 1
      have c2 := hb4.cell 2
      have c3 := hb4.cell 3
      have c4 := hb4.cell 4
      have e0 := K4.cell 0
      have e1 := K4.cell 1
      have e2 := K4.cell 2
      have e3 := K4.cell 3
      have e4 := K4.cell 4
      have f0 := K4.frozen 0
      have f1 := K4.frozen 1
      have f2 := K4.frozen 2
      have f3 := K4.frozen 3
      have f4 := K4.frozen 4
      simp only [List.getElem?_toArray, List.getElem?_cons_succ, List.getElem?_cons_zero] at c0 c1 c2 c3 c4 e0 e1 e2 e3 e4
      clear hb4 hown4 hne4 K4 b4 hfit4 HDD
      go_wp2
      (try simp only [Exit.inBlock, Exit.then])
      refine bodyPost_ret (v := .tuple #[.agg #[.int .i64 d4.room, .slice a4 d4.files.length cap4, .int .i64 d4.fuse, .int .i64 d4.fault, .bool d4.down], .int .i64 n4]) ?_ rfl ⟨_, rfl, rowF_of_own (unhide RO _ _ _ _ _) (unhide HF4).2.2 (unhide HF4).2.1, unhide HF4, unhide RB _ _ _ _ _⟩
      rw [results_cell_tmp rfl]
      go_simp

end Go.Proofs.YtpfmhlldkikbjaaDoor

/-
  What disk.workOn does, over this seat's program: a copy is worked on by a function that is told where the file is.
-/
set_option linter.unusedVariables false
namespace Go.Proofs.YtpfmhlldkikbjaaDoor
open Go.RowKit Go.Proofs.Dsk

set_option maxHeartbeats 2000000 in
set_option maxRecDepth 100000 in
theorem workOn1_any (d : Fs) (n : ByteArray) (g : Nat) (bs : Array Value) (F : Nat → Fs → Fs × Nat) (W : World) (C B p q : Nat) (hgood : Good d) (hS : Sys W C B d) (hp : Blk W p 9 #[.string n]) (hq : Blk W q 77 #[.func (.func g) #[] bs])
    (eg : ∀ args w, (callFunc g args).run Tryd.prog w = .ok (.enter g args) w)
    (hdo : has d.files n = true → ∀ W', Below W.heap.size W W' → Sys W' C B d → Calls Tryd.prog g (#[.pointer (some ⟨B, 0, none⟩), .int .i64 (lb d.files n : Nat)] ++ bs) W' fun e W'' => e = .returned (.int .i64 (F (lb d.files n) d).2) ∧ Sys W'' C B (F (lb d.files n) d).1 ∧ Below C W' W'') :
    Calls Tryd.prog 49 #[.pointer (some ⟨B, 0, none⟩), .pointer (some ⟨p, 0, none⟩), .pointer (some ⟨q, 0, none⟩)] W fun e W' => e = .returned (.int .i64 (onR n F d).2) ∧ Sys W' C B (onR n F d).1 ∧ Below C W W' := by
  have hR := right_parts hgood.1
  have HS := hide hS
  obtain ⟨hCB, hfit, v, k0, hown, hne⟩ := hS
  have hrow : RowF W v d.files := rowF_of_own hown hfit.2.2 hfit.2.1
  have hlt := k0.lt
  have HF := hide (fun (X : World) (hX : RowF X v d.files) => find_any d v n X hR.2.2.2 hR.1.2.2.1 hX)
  have HROW := hide hrow
  have cp := hp.cell 0
  have cq := hq.cell 0
  have c0 := k0.cell 0
  have c1 := k0.cell 1
  have c2 := k0.cell 2
  have c3 := k0.cell 3
  have c4 := k0.cell 4
  obtain ⟨a, cap, rfl⟩ := own_form hown
  simp only [fsV, sysCells, List.getElem?_toArray, List.getElem?_cons_succ, List.getElem?_cons_zero] at c0 c1 c2 c3 c4 cp cq HF
  have HQ := hide hq
  have HDO := hide hdo
  clear hdo hown hne hfit k0 hrow hp hq hR hgood
  cases hh : has d.files n with
  | true =>
    have ho : onR n F d = F (lb d.files n) d := by unfold onR; rw [if_pos hh]
    rw [ho]
    have HD := hide (unhide HDO hh)
    rw [hh] at HF
    clear HDO hh ho
    generalize F (lb d.files n) d = fd at HD ⊢
    obtain ⟨d4, n4⟩ := fd
    simp only at HD ⊢
    generalize lb d.files n = at_ at *
    go_enter Tryd.func49, Tryd.ntmps49
    go_wp2
    go_region_with (first | (go_at_call 22; refine (unhide HF W.drew (unhide HROW)).mono ?_; rintro e w3 ⟨rfl, b3⟩))
    all_goals (
      have b5 : Below W.heap.size W w3 := ⟨b3.os, b3.tape, b3.output, b3.size, b3.block⟩
      have cq3 := ((unhide HQ).below b5).cell 0
      simp only [List.getElem?_toArray, List.getElem?_cons_zero] at cq3
      have H3 := hide (unhide HD w3 b5 ((unhide HS).below b5))
      have B5 := hide (b5.mono (show C ≤ W.heap.size by omega))
      clear b3 b5
      go_wp2_with fail
      refine (unhide H3).mono ?_
      rintro e w4 ⟨rfl, s4, b4⟩
      have S4 := hide s4
      have B4 := hide ((unhide B5).trans b4)
      clear s4 b4
      go_wp2
      go_ret
      exact ⟨rfl, unhide S4, unhide B4⟩)
  | false =>
    have ho : onR n F d = (d, 3) := by unfold onR; rw [if_neg (by simp [hh])]
    rw [ho]
    rw [hh] at HF
    clear HDO hh ho
    generalize lb d.files n = at_ at *
    go_enter Tryd.func49, Tryd.ntmps49
    go_wp2
    go_region_with (first | (go_at_call 22; refine (unhide HF W.drew (unhide HROW)).mono ?_; rintro e w3 ⟨rfl, b3⟩))
    all_goals (
      have b5 : Below W.heap.size W w3 := ⟨b3.os, b3.tape, b3.output, b3.size, b3.block⟩
      have S5 := hide ((unhide HS).below b5)
      have B5 := hide (b5.mono (show C ≤ W.heap.size by omega))
      clear b3 b5
      go_wp2
      go_ret
      exact ⟨rfl, unhide S5, unhide B5⟩)

end Go.Proofs.YtpfmhlldkikbjaaDoor

/-
  What disk.workOn does, over this seat's program; a row of files beside a block that is written.
-/
set_option linter.unusedVariables false
namespace Go.Proofs.YtpfmhlldkikbjaaDoor
open Go.RowKit Go.Proofs.Dsk

theorem grown5 (W : World) (s : Nat) (u0 u1 u2 u3 u4 : Value) : W.grownBy (((((W.setCell ⟨s, 0, none⟩ u0).setCell ⟨s, 1, none⟩ u1).setCell ⟨s, 2, none⟩ u2).setCell ⟨s, 3, none⟩ u3).setCell ⟨s, 4, none⟩ u4) (some s) :=
  grown_trans (grown_trans (grown_trans (grown_trans (grown1 W s 0 u0) (grown1 _ s 1 u1)) (grown1 _ s 2 u2)) (grown1 _ s 3 u3)) (grown1 _ s 4 u4)

/-- A row of files is none of the blocks that have no text. -/
theorem rowF5 {W : World} {v : Value} {l : List File} {s : Nat} {t : TypeId} {cs : Array Value} (h : RowF W v l) (hb : Blk W s t cs) (hs : ∀ (i : Nat) (x : ByteArray), cs[i]? ≠ some (.string x)) :
    ∀ u0 u1 u2 u3 u4, RowF (((((W.setCell ⟨s, 0, none⟩ u0).setCell ⟨s, 1, none⟩ u1).setCell ⟨s, 2, none⟩ u2).setCell ⟨s, 3, none⟩ u3).setCell ⟨s, 4, none⟩ u4) v l := by
  intro u0 u1 u2 u3 u4
  have hg := grown5 W s u0 u1 u2 u3 u4
  obtain ⟨a, cap, hv, h6, hf, hc⟩ := h
  refine ⟨a, cap, hv, h6, hf, ?_⟩
  rcases hc with hc | ⟨b, off, ha, hlt, hc⟩
  · exact Or.inl hc
  · refine Or.inr ⟨b, off, ha, Nat.lt_of_lt_of_le hlt hg.size, fun j u hj => ?_⟩
    have hne : some b ≠ some s := by
      intro e
      simp only [Option.some.injEq] at e
      subst e
      cases l with
      | nil => simp [flatF] at hj
      | cons f l =>
        have := hc 0 (.string f.name) (by simp [flatF, cellsF])
        rw [hb.cell] at this
        exact hs _ _ this
    exact hg.cell (a := ⟨b, off + j, none⟩) (hc j u hj) hne

set_option maxHeartbeats 2000000 in
set_option maxRecDepth 100000 in
theorem workOn_any (d : Fs) (v : Value) (n : ByteArray) (g : Nat) (bs : Array Value) (F : Nat → Fs → Fs × Nat) (w : World) (hfit : FitAll d) (h : RowF w v d.files) (eg : ∀ args w, (callFunc g args).run Tryd.prog w = .ok (.enter g args) w)
    (hdo : Good d → has d.files n = true → ∀ W C B, w.heap.size ≤ C → Below w.heap.size w W → Sys W C B d → Calls Tryd.prog g (#[.pointer (some ⟨B, 0, none⟩), .int .i64 (lb d.files n : Nat)] ++ bs) W fun e W' => e = .returned (.int .i64 (F (lb d.files n) d).2) ∧ Sys W' C B (F (lb d.files n) d).1 ∧ Below C W W') :
    Calls Tryd.prog 28 #[fsV d v, .string n, .func (.func g) #[] bs] w fun e w' => ∃ v', e = .returned (.tuple #[fsV (workR d (onR n F)).1 v', .int .i64 (workR d (onR n F)).2]) ∧ RowF w' v' (workR d (onR n F)).1.files ∧ FitAll (workR d (onR n F)).1 ∧ Below w.heap.size w w' := by
  have hb : Below w.heap.size w ((((w.alloc (Obj.cells #[.int .i64 d.room, v, .int .i64 d.fuse, .int .i64 d.fault, .bool d.down] 31)).alloc (Obj.cells #[.string n] 9)).alloc (Obj.cells #[.func (.func g) #[] bs] 77)).alloc (Obj.cells #[.int .i64 0, .slice none 0 0, .int .i64 0, .int .i64 0, .bool false] 31)) := (((((Below.refl _ w).alloc (by first | omega | (simp only [World.size_alloc]; omega)) (Obj.cells #[.int .i64 d.room, v, .int .i64 d.fuse, .int .i64 d.fault, .bool d.down] 31)).alloc (by first | omega | (simp only [World.size_alloc]; omega)) (Obj.cells #[.string n] 9)).alloc (by first | omega | (simp only [World.size_alloc]; omega)) (Obj.cells #[.func (.func g) #[] bs] 77)).alloc (by first | omega | (simp only [World.size_alloc]; omega)) (Obj.cells #[.int .i64 0, .slice none 0 0, .int .i64 0, .int .i64 0, .bool false] 31))
  have q1 := (((Blk.new (w.alloc (Obj.cells #[.int .i64 d.room, v, .int .i64 d.fuse, .int .i64 d.fault, .bool d.down] 31)) 9 #[.string n]).below ((Below.refl _ _).alloc (Nat.le_refl _) (Obj.cells #[.func (.func g) #[] bs] 77))).below ((Below.refl _ _).alloc (Nat.le_refl _) (Obj.cells #[.int .i64 0, .slice none 0 0, .int .i64 0, .int .i64 0, .bool false] 31)))
  simp only [World.size_alloc] at q1
  have q2 := ((Blk.new ((w.alloc (Obj.cells #[.int .i64 d.room, v, .int .i64 d.fuse, .int .i64 d.fault, .bool d.down] 31)).alloc (Obj.cells #[.string n] 9)) 77 #[.func (.func g) #[] bs]).below ((Below.refl _ _).alloc (Nat.le_refl _) (Obj.cells #[.int .i64 0, .slice none 0 0, .int .i64 0, .int .i64 0, .bool false] 31)))
  simp only [World.size_alloc] at q2
  have hsz : ((((w.alloc (Obj.cells #[.int .i64 d.room, v, .int .i64 d.fuse, .int .i64 d.fault, .bool d.down] 31)).alloc (Obj.cells #[.string n] 9)).alloc (Obj.cells #[.func (.func g) #[] bs] 77)).alloc (Obj.cells #[.int .i64 0, .slice none 0 0, .int .i64 0, .int .i64 0, .bool false] 31)).heap.size = w.heap.size + 1 + 1 + 1 + 1 := by simp only [World.size_alloc]
  have HW := hide (work_any d v 49 #[.pointer (some ⟨w.heap.size + 1, 0, none⟩), .pointer (some ⟨w.heap.size + 1 + 1, 0, none⟩)] (onR n F) ((((w.alloc (Obj.cells #[.int .i64 d.room, v, .int .i64 d.fuse, .int .i64 d.fault, .bool d.down] 31)).alloc (Obj.cells #[.string n] 9)).alloc (Obj.cells #[.func (.func g) #[] bs] 77)).alloc (Obj.cells #[.int .i64 0, .slice none 0 0, .int .i64 0, .int .i64 0, .bool false] 31)) hfit (h.below hb) (enters_of Tryd.func49 (by kernel_rfl) rfl) (fun hg W C B hC hB hS => workOn1_any d n g bs F W C B _ _ hg hS (q1.below hB) (q2.below hB) eg (fun hh W' hB' hS' => hdo hg hh W' C B (by omega) (hb.trans ((hB.trans (hB'.mono hB.size)).mono hb.size)) hS')))
  have z := Blk.new (((w.alloc (Obj.cells #[.int .i64 d.room, v, .int .i64 d.fuse, .int .i64 d.fault, .bool d.down] 31)).alloc (Obj.cells #[.string n] 9)).alloc (Obj.cells #[.func (.func g) #[] bs] 77)) 31 #[.int .i64 0, .slice none 0 0, .int .i64 0, .int .i64 0, .bool false]
  simp only [World.size_alloc] at z
  have HZ := hide z
  have HB := hide hb
  obtain ⟨a, cap, rfl, _, _, _⟩ := h
  clear z hb hsz q1 q2
  generalize workR d (onR n F) = res at HW ⊢
  obtain ⟨d5, n5⟩ := res
  simp only [fsV] at HW ⊢
  go_enter Tryd.func28, Tryd.ntmps28
  go_wp2_with fail
  refine (unhide HW).mono ?_
  rintro e w5 ⟨v5, rfl, hrow5, hfit5, b5⟩
  have k := (unhide HZ).below b5
  have RB := hide (below5 (s := w.heap.size + 1 + 1 + 1) ((unhide HB).trans (b5.mono (unhide HB).size)) (by omega))
  have RR := hide (rowF5 hrow5 k (by intro i x; match i with | 0 | 1 | 2 | 3 | 4 => simp | i + 5 => simp))
  have HF5 := hide hfit5
  have e0 := k.cell 0
  have e1 := k.cell 1
  have e2 := k.cell 2
  have e3 := k.cell 3
  have e4 := k.cell 4
  have f0 := k.frozen 0
  have f1 := k.frozen 1
  have f2 := k.frozen 2
  have f3 := k.frozen 3
  have f4 := k.frozen 4
  simp only [List.getElem?_toArray, List.getElem?_cons_succ, List.getElem?_cons_zero] at e0 e1 e2 e3 e4
  obtain ⟨a5, cap5, rfl, _, _, _⟩ := hrow5
  clear k b5 hfit5 HW
  go_wp2
  (try simp only [Exit.inBlock, Exit.then])
  refine bodyPost_ret (v := .tuple #[.agg #[.int .i64 d5.room, .slice a5 d5.files.length cap5, .int .i64 d5.fuse, .int .i64 d5.fault, .bool d5.down], .int .i64 n5]) ?_ rfl ⟨_, rfl, unhide RR _ _ _ _ _, unhide HF5, unhide RB _ _ _ _ _⟩
  rw [results_cell_tmp rfl]
  go_simp
end Go.Proofs.YtpfmhlldkikbjaaDoor

/-
  What slices.Delete does to a row of files of its own, over this seat's program.
-/
set_option linter.unusedVariables false
namespace Go.Proofs.YtpfmhlldkikbjaaDoor
open Go.RowKit Go.Proofs.Dsk

/-- Cells laid over others from place o on. -/
def laid (cur : Array Value) : Nat → List Value → Array Value
  | _, [] => cur
  | o, v :: r => laid (cur.setIfInBounds o v) (o + 1) r

theorem laid_size : ∀ (vs : List Value) (cur : Array Value) (o : Nat), (laid cur o vs).size = cur.size
  | [], _, _ => rfl
  | v :: r, cur, o => by rw [laid, laid_size r, Array.size_setIfInBounds]
theorem laid_get : ∀ (vs : List Value) (cur : Array Value) (o t : Nat), (laid cur o vs)[t]? = if o ≤ t ∧ t < o + vs.length ∧ t < cur.size then vs[t - o]? else cur[t]?
  | [], cur, o, t => by
    rw [laid, if_neg]
    simp only [List.length_nil]
    omega
  | v :: r, cur, o, t => by
    rw [laid, laid_get r, Array.size_setIfInBounds, Array.getElem?_setIfInBounds]
    simp only [List.length_cons]
    by_cases h0 : t = o
    · subst h0
      rw [if_neg (by omega)]
      by_cases h1 : t < cur.size
      · rw [if_pos rfl, if_pos h1, if_pos ⟨Nat.le_refl _, by omega, h1⟩]; simp
      · rw [if_pos rfl, if_neg h1, if_neg (by omega), Array.getElem?_eq_none (by omega)]
    · by_cases h1 : o + 1 ≤ t ∧ t < o + 1 + r.length ∧ t < cur.size
      · rw [if_pos h1, if_pos (by omega), show t - o = (t - (o + 1)) + 1 by omega, List.getElem?_cons_succ]
      · rw [if_neg h1, if_neg (Ne.symm h0), if_neg (by omega)]

theorem heap_setCells (b : Nat) : ∀ (vs : List Value) (o : Nat) (w : World) (cur : Array Value) (t : TypeId) (fr : Nat × Nat), w.heap[b]? = some (.cells cur t fr) → (w.setCells b o vs).heap[b]? = some (.cells (laid cur o vs) t fr)
  | [], _, _, _, _, _, h => h
  | v :: r, o, w, cur, t, fr, h => by
    rw [World.setCells, laid]
    refine heap_setCells b r (o + 1) _ _ t fr ?_
    simp [World.setCell, Array.getElem?_modify, h]
theorem grown_setCells (b : Nat) : ∀ (vs : List Value) (o : Nat) (w : World), w.grownBy (w.setCells b o vs) (some b)
  | [], _, w => grown0 w b
  | v :: r, o, w => grown_trans (grown1 w b o v) (grown_setCells b r (o + 1) _)

def zeroF : List Value := [.string ByteArray.empty, .string ByteArray.empty, .int .i64 0]

theorem run_clear1 (w : World) (ty : TypeId) (b o c : Nat) (hc : ∀ j, j < 3 → (w.cell? ⟨b, o + j, none⟩).isSome = true) (hf : ∀ j, j < 3 → w.frozen? ⟨b, o + j, none⟩ = false) :
    (Builtin.clear_ #[29] ty #[.slice (some ⟨b, o, none⟩) 1 c]).run Tryd.prog w = .ok (.tuple #[]) (w.setCells b o zeroF) := by
  have hst := run_storeCells_cells (P := Tryd.prog) b o zeroF 0 w (fun j hj => by have := hc j (by simpa [zeroF] using hj); simpa using this) (fun j hj => by have := hf j (by simpa [zeroF] using hj); simpa using this) (by intro v hv; simp [zeroF] at hv; rcases hv with rfl | rfl <;> rfl)
  simp only [Nat.add_zero] at hst
  have hzc : (Builtin.zeroCells (Value.agg #[.string { data := #[] }, .string { data := #[] }, .int .i64 0]).cells 1).toList = zeroF := by simp [Builtin.zeroCells, Value.cells, zeroF, Array.range]; rfl
  simp [Builtin.clear_, run_underlying Tryd.underlying29, Tryd.zeroValue69, hzc, hst]

end Go.Proofs.YtpfmhlldkikbjaaDoor

/-
  What slices.Delete does to a file system's files, over this seat's program.
-/
set_option linter.unusedVariables false
namespace Go.Proofs.YtpfmhlldkikbjaaDoor
open Go.RowKit Go.Proofs.Dsk

theorem blk_ne {w : World} {p g : Nat} {t e : TypeId} {cs cur : Array Value} {fr : Nat × Nat} (h : Blk w p t cs) (hg : w.heap[g]? = some (.cells cur e fr)) (hte : t ≠ e) : p ≠ g := by
  intro h'
  subst h'
  unfold Blk at h
  rw [h] at hg
  simp only [Option.some.injEq, Obj.cells.injEq] at hg
  exact hte hg.2.1

theorem blk_grown {w W : World} {p B : Nat} {t : TypeId} {cs : Array Value} (h : Blk w p t cs) (hg : w.grownBy W (some B)) (hne : p ≠ B) : Blk W p t cs := by
  unfold Blk at *
  rw [hg.block p (Array.getElem?_eq_some_iff.1 h).1 (fun e => hne (by simpa using e))]; exact h

theorem own_drew {w : World} {C : Nat} {e : TypeId} {size n : Nat} {v : Value} {xs : List Value} (h : w.ownsRow C e size v n xs) : w.drew.ownsRow C e size v n xs := h
theorem blk_drew {w : World} {p : Nat} {t : TypeId} {cs : Array Value} (h : Blk w p t cs) : Blk w.drew p t cs := h

theorem fit_sub {d : Fs} {l : List File} (h : FitAll d) (hs : ∀ f ∈ l, f ∈ d.files) (hl : l.length ≤ 9223372036854775807) : FitAll { d with files := l } := ⟨h.1, fun f hf => h.2.1 f (hs f hf), hl⟩

theorem flatF_erase (l : List File) (i : Nat) : flatF (l.eraseIdx i) = (flatF l).take (i * 3) ++ (flatF l).drop ((i + 1) * 3) := by
  rw [List.eraseIdx_eq_take_drop_succ, flatF_append, flatF_take, flatF_drop]

end Go.Proofs.YtpfmhlldkikbjaaDoor

/-
  What disk.Make does, over this seat's program.
-/
set_option linter.unusedVariables false
namespace Go.Proofs.YtpfmhlldkikbjaaDoor
open Go.RowKit Go.Proofs.Dsk

theorem right_make (room : Int) : right ⟨room, [], -1, -1, false⟩ = (decide (0 ≤ room) && decide (room ≤ 16777216)) := by
  by_cases h1 : 0 ≤ room <;> by_cases h2 : room ≤ 16777216 <;> simp [right, headOk, used, Rise, h1, h2]
theorem fit_empty {room fuse fault : Int} {down : Bool} (h1 : -9223372036854775808 ≤ room) (h2 : room ≤ 9223372036854775807) (h3 : -9223372036854775808 ≤ fuse) (h4 : fuse ≤ 9223372036854775807) (h5 : -9223372036854775808 ≤ fault) (h6 : fault ≤ 9223372036854775807) : FitAll ⟨room, [], fuse, fault, down⟩ :=
  ⟨⟨⟨h1, h2⟩, ⟨h3, h4⟩, ⟨h5, h6⟩⟩, by simp, by simp⟩
theorem rowF_nil (w : World) (a : Option Addr) (cap : Nat) : RowF w (.slice a 0 cap) [] := ⟨a, cap, rfl, by simp, by simp, Or.inl rfl⟩

set_option maxHeartbeats 2000000 in
set_option maxRecDepth 100000 in
theorem make_any (room : Int) (w : World) (h1 : -9223372036854775808 ≤ room) (h2 : room ≤ 9223372036854775807) :
    Calls Tryd.prog 6 #[.int .i64 room] w fun e w' => ∃ v', e = .returned (.tuple #[fsV (makeR room).1 v', .int .i64 (makeR room).2]) ∧ RowF w' v' (makeR room).1.files ∧ FitAll (makeR room).1 ∧ Below w.heap.size w w' := by
  have hb := ((Below.refl _ w).alloc (Nat.le_refl _) (Obj.cells #[.int .i64 0, .slice none 0 0, .int .i64 0, .int .i64 0, .bool false] 31)).alloc (by simp) (Obj.cells #[.int .i64 room, .slice none 0 0, .int .i64 (-1), .int .i64 (-1), .bool false] 31)
  have hfit : FitAll ⟨room, [], -1, -1, false⟩ := fit_empty h1 h2 (by omega) (by omega) (by omega) (by omega)
  have hck := check_any ⟨room, [], -1, -1, false⟩ (.slice none 0 0) _ hfit.1 (rowF_nil ((w.alloc (Obj.cells #[.int .i64 0, .slice none 0 0, .int .i64 0, .int .i64 0, .bool false] 31)).alloc (Obj.cells #[.int .i64 room, .slice none 0 0, .int .i64 (-1), .int .i64 (-1), .bool false] 31)) none 0)
  rw [right_make] at hck
  simp only [fsV] at hck
  have z0 := (Blk.new w 31 #[.int .i64 0, .slice none 0 0, .int .i64 0, .int .i64 0, .bool false]).below ((Below.refl _ _).alloc (Nat.le_refl _) (Obj.cells #[.int .i64 room, .slice none 0 0, .int .i64 (-1), .int .i64 (-1), .bool false] 31))
  have z1 := Blk.new (w.alloc (Obj.cells #[.int .i64 0, .slice none 0 0, .int .i64 0, .int .i64 0, .bool false] 31)) 31 #[.int .i64 room, .slice none 0 0, .int .i64 (-1), .int .i64 (-1), .bool false]
  simp only [World.size_alloc] at z1
  by_cases hr : 0 ≤ room ∧ room ≤ 16777216
  · have hm : makeR room = (⟨room, [], -1, -1, false⟩, 0) := by unfold makeR; rw [if_pos hr]
    rw [hm]
    rw [decide_eq_true hr.1, decide_eq_true hr.2] at hck
    simp only [Bool.and_self, if_true] at hck
    have HCK := hide hck
    have HFIT := hide hfit
    clear hck hr hm hfit
    go_enter Tryd.func6, Tryd.ntmps6
    go_wp2_with fail
    refine (unhide HCK).mono ?_
    rintro e w1 ⟨rfl, b1⟩
    have k0 := z0.below b1
    have k1 := z1.below b1
    have c0 := k1.cell 0
    have c1 := k1.cell 1
    have c2 := k1.cell 2
    have c3 := k1.cell 3
    have c4 := k1.cell 4
    have e0 := k0.cell 0
    have e1 := k0.cell 1
    have e2 := k0.cell 2
    have e3 := k0.cell 3
    have e4 := k0.cell 4
    have f0 := k0.frozen 0
    have f1 := k0.frozen 1
    have f2 := k0.frozen 2
    have f3 := k0.frozen 3
    have f4 := k0.frozen 4
    simp only [List.getElem?_toArray, List.getElem?_cons_succ, List.getElem?_cons_zero] at e0 e1 e2 e3 e4 c0 c1 c2 c3 c4
    have BF := hide (below5 (s := w.heap.size) (hb.trans (b1.mono (by simp; omega))) (Nat.le_refl _))
    clear k0 k1 z0 z1 hb b1 HCK
    go_wp2
    (try simp only [Exit.inBlock, Exit.then])
    refine bodyPost_ret (v := .tuple #[.agg #[.int .i64 room, .slice none 0 0, .int .i64 (-1), .int .i64 (-1), .bool false], .int .i64 0]) ?_ rfl ⟨_, rfl, rowF_nil _ _ _, unhide HFIT, unhide BF _ _ _ _ _⟩
    rw [results_cell_tmp rfl]
    go_simp
  · have hm : makeR room = (zeroFs, 1) := by unfold makeR; rw [if_neg hr]
    rw [hm]
    have hd : (decide (0 ≤ room) && decide (room ≤ 16777216)) = false := by
      rw [Bool.and_eq_false_iff, decide_eq_false_iff_not, decide_eq_false_iff_not]; omega
    rw [hd] at hck
    simp only [Bool.false_eq_true, if_false] at hck
    have HCK := hide hck
    clear hck hr hm hd hfit
    go_enter Tryd.func6, Tryd.ntmps6
    go_wp2_with fail
    refine (unhide HCK).mono ?_
    rintro e w1 ⟨rfl, b1⟩
    have k0 := z0.below b1
    have e0 := k0.cell 0
    have e1 := k0.cell 1
    have e2 := k0.cell 2
    have e3 := k0.cell 3
    have e4 := k0.cell 4
    have f0 := k0.frozen 0
    have f1 := k0.frozen 1
    have f2 := k0.frozen 2
    have f3 := k0.frozen 3
    have f4 := k0.frozen 4
    simp only [List.getElem?_toArray, List.getElem?_cons_succ, List.getElem?_cons_zero] at e0 e1 e2 e3 e4
    have BF := hide (below5 (s := w.heap.size) (hb.trans (b1.mono (by simp; omega))) (Nat.le_refl _))
    clear k0 z0 z1 hb b1 HCK
    go_wp2
    (try simp only [Exit.inBlock, Exit.then])
    refine bodyPost_ret (v := .tuple #[.agg #[.int .i64 0, .slice none 0 0, .int .i64 0, .int .i64 0, .bool false], .int .i64 1]) ?_ rfl ⟨_, rfl, rowF_nil _ _ _, fit_empty (by omega) (by omega) (by omega) (by omega) (by omega) (by omega), unhide BF _ _ _ _ _⟩
    rw [results_cell_tmp rfl]
    go_simp
end Go.Proofs.YtpfmhlldkikbjaaDoor

/-
  What disk.Read, List and Make do, over this seat's program.
-/
set_option linter.unusedVariables false
namespace Go.Proofs.YtpfmhlldkikbjaaDoor
open Go.RowKit Go.Proofs.Dsk

set_option maxHeartbeats 2000000 in
set_option maxRecDepth 100000 in
theorem read_any (d : Fs) (v : Value) (n : ByteArray) (w : World) (hfit : FitAll d) (h : RowF w v d.files) :
    Calls Tryd.prog 11 #[fsV d v, .string n] w fun e w' => e = .returned (.tuple #[.string (readR d n).1, .int .i64 (readR d n).2]) ∧ Below w.heap.size w w' := by
  have hb := (Below.refl w.heap.size w).alloc (Nat.le_refl _) (Obj.cells #[.int .i64 d.room, v, .int .i64 d.fuse, .int .i64 d.fault, .bool d.down] 31)
  have hrd := ready_any d v _ hfit.1 (h.below hb)
  have z0 := Blk.new w 31 #[.int .i64 d.room, v, .int .i64 d.fuse, .int .i64 d.fault, .bool d.down]
  have HROW := hide (h.below hb)
  have HB := hide hb
  cases hr : right d with
  | false =>
    have hr2 : ready d = 2 := by unfold ready; rw [if_pos hr]
    have hw : readR d n = (ByteArray.empty, 2) := by unfold readR; rw [if_pos hr]
    rw [hr2] at hrd
    rw [hw]
    obtain ⟨a, cap, rfl, _, _, _⟩ := h
    simp only [fsV] at hrd ⊢
    have HRD := hide hrd
    clear hrd hb z0 hr hr2 hw
    go_enter Tryd.func11, Tryd.ntmps11
    go_wp2_with fail
    refine (unhide HRD).mono ?_
    rintro e w1 ⟨rfl, b1⟩
    have B1 := hide (below_alloc' b1)
    clear b1
    go_wp2
    go_ret2
    exact ⟨rfl, unhide B1⟩
  | true =>
    obtain ⟨hp1, hp2, hp3, hp4⟩ := right_parts hr
    have hn10 := hp1.2.2.1
    by_cases hdn : d.down = true
    · have hr2 : ready d = 9 := by unfold ready; rw [if_neg (by simp [hr]), if_pos hdn]
      have hw : readR d n = (ByteArray.empty, 9) := by unfold readR; rw [if_neg (by simp [hr]), if_pos hdn]
      rw [hr2] at hrd
      rw [hw]
      obtain ⟨a, cap, rfl, _, _, _⟩ := h
      simp only [fsV] at hrd ⊢
      have HRD := hide hrd
      clear hrd hb z0 hr hr2 hw hdn hp1 hp2 hp3 hp4
      go_enter Tryd.func11, Tryd.ntmps11
      go_wp2_with fail
      refine (unhide HRD).mono ?_
      rintro e w1 ⟨rfl, b1⟩
      have B1 := hide (below_alloc' b1)
      clear b1
      go_wp2
      go_ret2
      exact ⟨rfl, unhide B1⟩
    · have hr2 : ready d = 0 := by unfold ready; rw [if_neg (by simp [hr]), if_neg hdn]
      have hw : readR d n = if has d.files n = true then ((d.files[lb d.files n]!).data, 0) else (ByteArray.empty, 3) := by unfold readR; rw [if_neg (by simp [hr]), if_neg hdn]
      rw [hr2] at hrd
      rw [hw]
      have HF := hide (fun (X : World) (hX : RowF X v d.files) => find_any d v n X hp4 hn10 hX)
      have hsm := small_of_right hr
      cases hh : has d.files n with
      | false =>
        rw [hh] at HF
        obtain ⟨a, cap, rfl, _, _, _⟩ := h
        simp only [fsV, Bool.false_eq_true, if_false] at hrd HF ⊢
        have HRD := hide hrd
        have Z := hide z0
        clear hrd hb z0 hr hr2 hw hdn hp1 hp2 hp3 hp4 hh hsm
        generalize lb d.files n = at_ at *
        go_enter Tryd.func11, Tryd.ntmps11
        go_wp2_with fail
        refine (unhide HRD).mono ?_
        rintro e w1 ⟨rfl, b1⟩
        have k := (unhide Z).below b1
        have c0 := k.cell 0
        have c1 := k.cell 1
        have c2 := k.cell 2
        have c3 := k.cell 3
        have c4 := k.cell 4
        simp only [List.getElem?_toArray, List.getElem?_cons_succ, List.getElem?_cons_zero] at c0 c1 c2 c3 c4
        have B1 := hide (below_alloc' b1)
        have R1 := hide ((unhide HROW).below b1)
        clear b1 k
        go_wp2_with fail
        refine (unhide HF _ (unhide R1)).mono ?_
        rintro e w2 ⟨rfl, b2⟩
        have B2 := hide (belows (unhide B1) b2)
        clear b2
        go_wp2
        go_ret2
        exact ⟨rfl, unhide B2⟩
      | true =>
        obtain ⟨hl, hnm⟩ := has_lb hp4 hh
        have e1 : d.files[lb d.files n]! = d.files[lb d.files n] := getElem!_pos d.files (lb d.files n) hl
        rw [hh] at HF
        obtain ⟨a, cap, rfl, _, _, hc⟩ := h
        rcases hc with h0 | ⟨b, off, rfl, hbl, hcl⟩
        · rw [h0] at hl; simp at hl
        · obtain ⟨_, x1, _⟩ := row_cells hcl hl
          have hcn := fun w => clone_any d.files[lb d.files n].data w (hsm _ (List.getElem_mem hl)).2
          rw [e1]
          simp only [fsV, if_true] at hrd HF ⊢
          have HRD := hide hrd
          have Z := hide z0
          have hli : ((lb d.files n : Nat) : Int) < (d.files.length : Int) := by omega
          clear hrd hb z0 hr hr2 hw hdn hp1 hp2 hp3 hp4 hh hsm e1 hnm hcl
          generalize d.files[lb d.files n].data = dt at *
          generalize lb d.files n = at_ at *
          go_enter Tryd.func11, Tryd.ntmps11
          go_wp2_with fail
          refine (unhide HRD).mono ?_
          rintro e w1 ⟨rfl, b1⟩
          have k := (unhide Z).below b1
          have c0 := k.cell 0
          have c1 := k.cell 1
          have c2 := k.cell 2
          have c3 := k.cell 3
          have c4 := k.cell 4
          simp only [List.getElem?_toArray, List.getElem?_cons_succ, List.getElem?_cons_zero] at c0 c1 c2 c3 c4
          have B1 := hide (below_alloc' b1)
          have R1 := hide ((unhide HROW).below b1)
          have K := hide k
          clear b1 k
          go_wp2_with fail
          refine (unhide HF _ (unhide R1)).mono ?_
          rintro e w2 ⟨rfl, b2⟩
          have d1 := ((unhide K).below b2).cell 1
          simp only [List.getElem?_toArray, List.getElem?_cons_succ, List.getElem?_cons_zero] at d1
          have B2 := hide (belows (unhide B1) b2)
          have x2 : w2.cell? ⟨b, off + at_ * 3 + 1, none⟩ = some (.string dt) := ((unhide B2).cell (p := ⟨b, off + at_ * 3 + 1, none⟩) hbl).trans x1
          clear b2 c0 c1 c2 c3 c4
          go_wp2_with fail
          refine (hcn _).mono ?_
          rintro e w3 ⟨rfl, b3⟩
          have B3 := hide (belows (unhide B2) b3)
          clear b3
          go_wp2
          go_ret2
          exact ⟨rfl, unhide B3⟩

end Go.Proofs.YtpfmhlldkikbjaaDoor
