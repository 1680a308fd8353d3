/-
  A file system at work, in this seat's program's world; what (*disk.system).change does.
-/
import Derived.Test.YtmfkhbofmaonkaaCpo
set_option linter.unusedVariables false
namespace Go.Proofs.Ytmfkhbofmaonkaa
open Go.RowKit Go.Proofs.Dsk

/-- All numbers are such as a program can hold. -/
def FitAll (d : Fs) : Prop := FitsFs d ∧ (∀ f ∈ d.files, Fits f) ∧ d.files.length ≤ 9223372036854775807

def sysCells (d : Fs) (v : Value) : Array Value := #[.int .i64 d.room, v, .int .i64 d.fuse, .int .i64 d.fault, .bool d.down]

/-- At block B lies the file system d at work; its files lie in a row of its own; both from block C on. -/
def Sys (w : World) (C B : Nat) (d : Fs) : Prop :=
  C ≤ B ∧ FitAll d ∧ ∃ v, Blk w B 52 (sysCells d v) ∧ w.ownsRow C 56 3 v d.files.length (flatF d.files) ∧ v.ownBlock ≠ some B

/-- The same, with the slice of its files told. -/
def SysV (w : World) (C B : Nat) (v : Value) (d : Fs) : Prop :=
  C ≤ B ∧ FitAll d ∧ Blk w B 52 (sysCells d v) ∧ w.ownsRow C 56 3 v d.files.length (flatF d.files) ∧ v.ownBlock ≠ some B
theorem SysV.sys {w : World} {C B : Nat} {v : Value} {d : Fs} (h : SysV w C B v d) : Sys w C B d := ⟨h.1, h.2.1, v, h.2.2.1, h.2.2.2.1, h.2.2.2.2⟩
theorem Sys.val {w : World} {C B : Nat} {d : Fs} (h : Sys w C B d) : ∃ v, SysV w C B v d := by
  obtain ⟨h1, h2, v, h3, h4, h5⟩ := h
  exact ⟨v, h1, h2, h3, h4, h5⟩
theorem SysV.below {w w' : World} {C B : Nat} {v : Value} {d : Fs} (h : SysV w C B v d) (hb : Below w.heap.size w w') : SysV w' C B v d :=
  ⟨h.1, h.2.1, h.2.2.1.below hb, own_below h.2.2.2.1 hb, h.2.2.2.2⟩

theorem Sys.lt {w : World} {C B : Nat} {d : Fs} (h : Sys w C B d) : B < w.heap.size := by
  obtain ⟨_, _, v, hb, _⟩ := h
  exact hb.lt
theorem Sys.below {w w' : World} {C B : Nat} {d : Fs} (h : Sys w C B d) (hb : Below w.heap.size w w') : Sys w' C B d := by
  obtain ⟨h0, hf, v, h1, h2, h3⟩ := h
  exact ⟨h0, hf, v, h1.below hb, own_below h2 hb, h3⟩

theorem own_set {w : World} {C B i : Nat} {e : TypeId} {size n : Nat} {v u : Value} {xs : List Value} (h : w.ownsRow C e size v n xs) (hne : v.ownBlock ≠ some B) : (w.setCell ⟨B, i, none⟩ u).ownsRow C e size v n xs :=
  h.kept (row := some B) ⟨rfl, rfl, rfl, by simp, fun k hk hn => Below.heap_setCell _ _ _ _ (fun e => hn (by rw [e]))⟩ (Or.inr hne)

/-- One of its numbers is turned. -/
theorem SysV.put {w : World} {C B : Nat} {v : Value} {d d' : Fs} (h : SysV w C B v d) (i : Nat) (u : Value) (hf : d'.files = d.files) (hfit : FitAll d') (he : ∀ v, (sysCells d v).setIfInBounds i u = sysCells d' v) : SysV (w.setCell ⟨B, i, none⟩ u) C B v d' := by
  obtain ⟨h0, _, h1, h2, h3⟩ := h
  refine ⟨h0, hfit, ?_, ?_, h3⟩
  · rw [← he v]; exact h1.set i u
  · rw [hf]; exact own_set h2 h3

theorem fit_spent {d : Fs} (h : FitAll d) : FitAll (spent d) := by
  obtain ⟨⟨h1, h2, h3⟩, h4⟩ := h
  refine ⟨⟨h1, ?_, ?_⟩, h4⟩
  · simp only [spent]; split <;> omega
  · simp only [spent]; split <;> omega

theorem grown0 (w : World) (B : Nat) : w.grownBy w (some B) := ⟨rfl, rfl, rfl, Nat.le_refl _, fun _ _ _ => rfl⟩
theorem grown1 (w : World) (B i : Nat) (u : Value) : w.grownBy (w.setCell ⟨B, i, none⟩ u) (some B) :=
  ⟨rfl, rfl, rfl, by simp, fun k hk hn => Below.heap_setCell _ _ _ _ (fun e => hn (by rw [e]))⟩
theorem grown_trans {a b c : World} {B : Nat} (h : a.grownBy b (some B)) (k : b.grownBy c (some B)) : a.grownBy c (some B) :=
  ⟨k.os.trans h.os, k.tape.trans h.tape, k.output.trans h.output, Nat.le_trans h.size k.size, fun i hi hn => (k.block i (by have := h.size; omega) hn).trans (h.block i hi hn)⟩
theorem grown2 (w : World) (B i j : Nat) (u x : Value) : w.grownBy ((w.setCell ⟨B, i, none⟩ u).setCell ⟨B, j, none⟩ x) (some B) := grown_trans (grown1 w B i u) (grown1 _ B j x)
theorem grown_below {w W : World} {B C : Nat} (h : w.grownBy W (some B)) (hC : C ≤ B) (hw : C ≤ w.heap.size) : Below C w W :=
  ⟨h.os, h.tape, h.output, h.size, fun k hk => h.block k (by omega) (fun e => by simp at e; omega)⟩

set_option maxHeartbeats 4000000 in
set_option maxRecDepth 100000 in
/-- What a change asks, and then does. -/
theorem change_any (d : Fs) (C B g : Nat) (lb : Array Value) (f : Fs → Fs) (v : Value) (w : World) (h : SysV w C B v d) (eg : ∀ args w, (callFunc g args).run Try.prog w = .ok (.enter g args) w)
    (hdo : ∀ W, w.grownBy W (some B) → SysV W C B v (spent d) → Calls Try.prog g lb W fun e W' => e = .returned (.tuple #[]) ∧ Sys W' C B (f (spent d)) ∧ Below C W W') :
    Calls Try.prog 35 #[.pointer (some ⟨B, 0, none⟩), .func (.func g) #[] lb] w fun e w' => e = .returned (.int .i64 (changeR d f).2) ∧ Sys w' C B (changeR d f).1 ∧ Below C w w' := by
  have HS := hide h
  obtain ⟨hCB, hfit, k0, hown, hne⟩ := h
  have c2 := k0.cell 2
  have c3 := k0.cell 3
  have c4 := k0.cell 4
  have f2 := k0.frozen 2
  have f3 := k0.frozen 3
  have f4 := k0.frozen 4
  simp only [sysCells, List.getElem?_toArray, List.getElem?_cons_succ, List.getElem?_cons_zero] at c2 c3 c4
  have HFIT := hide hfit
  obtain ⟨⟨_, ⟨hu1, hu2⟩, hu3, hu4⟩, _⟩ := hfit
  have HB := hide hCB
  have HCW := hide (show C ≤ w.heap.size by have := k0.lt; omega)
  have HDO := hide hdo
  clear hdo k0 hown hne
  by_cases e0 : d.fuse = 0
  · have hr : changeR d f = ({ d with down := true }, 9) := by unfold changeR; rw [if_pos e0]
    rw [hr]
    have HN := hide ((unhide HS).put (d' := { d with down := true }) 4 (.bool true) rfl (unhide HFIT) (fun v => rfl))
    rw [e0] at c2
    clear hr e0
    go_enter Try.func35, Try.ntmps35
    go_wp2
    go_ret
    exact ⟨rfl, (unhide HN).sys, (Below.refl C w).setCell (p := ⟨B, 4, none⟩) (unhide HB) _⟩
  · by_cases e1 : d.fault = 0
    · have hr : changeR d f = ({ d with fuse := if 0 < d.fuse then d.fuse - 1 else d.fuse, fault := -1 }, 10) := by unfold changeR; rw [if_neg e0, if_pos e1]
      rw [hr]
      by_cases p0 : 0 < d.fuse
      · rw [if_pos p0]
        have hf1 : FitAll { d with fuse := d.fuse - 1 } := ⟨⟨(unhide HFIT).1.1, ⟨by simp only; omega, by simp only; omega⟩, (unhide HFIT).1.2.2⟩, (unhide HFIT).2⟩
        have hf2 : FitAll { d with fuse := d.fuse - 1, fault := -1 } := ⟨⟨(unhide HFIT).1.1, ⟨by simp only; omega, by simp only; omega⟩, ⟨by simp, by simp⟩⟩, (unhide HFIT).2⟩
        have HN := hide (((unhide HS).put (d' := { d with fuse := d.fuse - 1 }) 2 (.int .i64 (d.fuse - 1)) rfl hf1 (fun v => rfl)).put (d' := { d with fuse := d.fuse - 1, fault := -1 }) 3 (.int .i64 (-1)) rfl hf2 (fun v => rfl))
        rw [e1] at c3
        clear hr e1 hf1 hf2
        go_enter Try.func35, Try.ntmps35
        go_wp2
        go_ret
        exact ⟨rfl, (unhide HN).sys, ((Below.refl C w).setCell (p := ⟨B, 2, none⟩) (unhide HB) _).setCell (p := ⟨B, 3, none⟩) (unhide HB) _⟩
      · rw [if_neg p0]
        have hf2 : FitAll { d with fault := -1 } := ⟨⟨(unhide HFIT).1.1, (unhide HFIT).1.2.1, ⟨by simp, by simp⟩⟩, (unhide HFIT).2⟩
        have HN := hide ((unhide HS).put (d' := { d with fault := -1 }) 3 (.int .i64 (-1)) rfl hf2 (fun v => rfl))
        rw [e1] at c3
        clear hr e1 hf2
        go_enter Try.func35, Try.ntmps35
        go_wp2
        go_ret
        exact ⟨rfl, (unhide HN).sys, (Below.refl C w).setCell (p := ⟨B, 3, none⟩) (unhide HB) _⟩
    · have hr : changeR d f = (f (spent d), 0) := by unfold changeR; rw [if_neg e0, if_neg e1]
      rw [hr]
      have hf0 := fit_spent (unhide HFIT)
      clear hr
      by_cases p0 : 0 < d.fuse
      · have hf1 : FitAll { d with fuse := d.fuse - 1 } := ⟨⟨(unhide HFIT).1.1, ⟨by simp only; omega, by simp only; omega⟩, (unhide HFIT).1.2.2⟩, (unhide HFIT).2⟩
        by_cases p1 : 0 < d.fault
        · have hsp : spent d = { d with fuse := d.fuse - 1, fault := d.fault - 1 } := by simp [spent, p0, p1]
          have HX := hide (grown2 w B 2 3 (.int .i64 (d.fuse - 1)) (.int .i64 (d.fault - 1)))
          have HN : Hid (SysV ((w.setCell ⟨B, 2, none⟩ (.int .i64 (d.fuse - 1))).setCell ⟨B, 3, none⟩ (.int .i64 (d.fault - 1))) C B v (spent d)) := hide (((unhide HS).put (d' := { d with fuse := d.fuse - 1 }) 2 (.int .i64 (d.fuse - 1)) rfl hf1 (fun v => rfl)).put (d' := spent d) 3 (.int .i64 (d.fault - 1)) rfl hf0 (fun v => by rw [hsp]; rfl))
          clear hf0 hf1 hsp
          go_enter Try.func35, Try.ntmps35
          go_wp2_with fail
          refine (unhide HDO _ (unhide HX) (unhide HN)).mono ?_
          rintro e w1 ⟨rfl, s1, b1⟩
          have B1 := hide ((grown_below (unhide HX) (unhide HB) (unhide HCW)).trans b1)
          have S1 := hide s1
          clear b1 s1
          go_wp2
          go_ret
          exact ⟨rfl, unhide S1, unhide B1⟩
        · have hsp : spent d = { d with fuse := d.fuse - 1 } := by simp [spent, p0, p1]
          have HX := hide (grown1 w B 2 (.int .i64 (d.fuse - 1)))
          have HN : Hid (SysV (w.setCell ⟨B, 2, none⟩ (.int .i64 (d.fuse - 1))) C B v (spent d)) := hide ((unhide HS).put (d' := spent d) 2 (.int .i64 (d.fuse - 1)) rfl hf0 (fun v => by rw [hsp]; rfl))
          clear hf0 hf1 hsp
          go_enter Try.func35, Try.ntmps35
          go_wp2_with fail
          refine (unhide HDO _ (unhide HX) (unhide HN)).mono ?_
          rintro e w1 ⟨rfl, s1, b1⟩
          have B1 := hide ((grown_below (unhide HX) (unhide HB) (unhide HCW)).trans b1)
          have S1 := hide s1
          clear b1 s1
          go_wp2
          go_ret
          exact ⟨rfl, unhide S1, unhide B1⟩
      · by_cases p1 : 0 < d.fault
        · have hsp : spent d = { d with fault := d.fault - 1 } := by simp [spent, p0, p1]
          have HX := hide (grown1 w B 3 (.int .i64 (d.fault - 1)))
          have HN : Hid (SysV (w.setCell ⟨B, 3, none⟩ (.int .i64 (d.fault - 1))) C B v (spent d)) := hide ((unhide HS).put (d' := spent d) 3 (.int .i64 (d.fault - 1)) rfl hf0 (fun v => by rw [hsp]; rfl))
          clear hf0 hsp
          go_enter Try.func35, Try.ntmps35
          go_wp2_with fail
          refine (unhide HDO _ (unhide HX) (unhide HN)).mono ?_
          rintro e w1 ⟨rfl, s1, b1⟩
          have B1 := hide ((grown_below (unhide HX) (unhide HB) (unhide HCW)).trans b1)
          have S1 := hide s1
          clear b1 s1
          go_wp2
          go_ret
          exact ⟨rfl, unhide S1, unhide B1⟩
        · have hsp : spent d = d := by simp [spent, p0, p1]
          have HN : Hid (SysV w C B v (spent d)) := hide (by rw [hsp]; exact unhide HS)
          clear hf0 hsp
          go_enter Try.func35, Try.ntmps35
          go_wp2_with fail
          refine (unhide HDO _ (grown0 w B) (unhide HN)).mono ?_
          rintro e w1 ⟨rfl, s1, b1⟩
          have B1 := hide b1
          have S1 := hide s1
          clear b1 s1
          go_wp2
          go_ret
          exact ⟨rfl, unhide S1, unhide B1⟩

end Go.Proofs.Ytmfkhbofmaonkaa
