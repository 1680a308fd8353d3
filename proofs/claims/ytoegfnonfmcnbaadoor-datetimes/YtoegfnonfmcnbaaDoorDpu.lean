/-
  The walk of date.ParseTime, over this seat's program.
-/
import Derived.Test.YtoegfnonfmcnbaaDoorDpt
set_option linter.unusedVariables false
namespace Go.Proofs.YtoegfnonfmcnbaaDoor
open Go.RowKit Go.Proofs.Dcl

/-- A time at work: the moment, the cell of what is answered, and all that lay there ahead. -/
structure PT (w W : World) (d s z : Int) (l : List UInt8) : Prop where
  mom : Mom W (w.heap.size + 1) d s z (bts l)
  res : Blk W w.heap.size 30 #[.int .i64 0, .int .i64 0, .int .i64 0]
  bel : Below w.heap.size w W
  len : l.length ≤ 281474976710656

theorem blk_belowB {w w' : World} {B b : Nat} {t : TypeId} {cs : Array Value} (h : Blk w B t cs) (hb : Below b w w') (hlt : B < b) : Blk w' B t cs := by
  unfold Blk at *
  rw [hb.block B hlt]; exact h

theorem PT.to {w W W' : World} {d s z d' s' z' : Int} {l l' : List UInt8} (h : PT w W d s z l) (hm : Mom W' (w.heap.size + 1) d' s' z' (bts l')) (hb : Below (w.heap.size + 1) W W') (hl : l'.length ≤ 281474976710656) : PT w W' d' s' z' l' :=
  ⟨hm, blk_belowB h.res hb (by omega), h.bel.trans (hb.mono (by omega)), hl⟩

theorem PT.left {w W : World} {d s z : Int} {l : List UInt8} (h : PT w W d s z l) (l' : List UInt8) (hl : l'.length ≤ 281474976710656) : PT w (W.setCell ⟨w.heap.size + 1, 3, none⟩ (.string (bts l'))) d s z l' :=
  h.to (h.mom.left _) (setB (Below.refl _ _) 3 _) hl
theorem PT.sec {w W : World} {d s z : Int} {l : List UInt8} (h : PT w W d s z l) (v : Int) : PT w (W.setCell ⟨w.heap.size + 1, 1, none⟩ (.int .i64 v)) d v z l :=
  h.to (Blk.set h.mom 1 (.int .i64 v)) (setB (Below.refl _ _) 1 _) h.len
theorem PT.zon {w W : World} {d s z : Int} {l : List UInt8} (h : PT w W d s z l) (v : Int) : PT w (W.setCell ⟨w.heap.size + 1, 2, none⟩ (.int .i64 v)) d s v l :=
  h.to (Blk.set h.mom 2 (.int .i64 v)) (setB (Below.refl _ _) 2 _) h.len

/-- What is so where there is no time. -/
def PF (w W : World) : Prop := Blk W w.heap.size 30 #[.int .i64 0, .int .i64 0, .int .i64 0] ∧ Below w.heap.size w W
theorem PT.fails {w W : World} {d s z : Int} {l : List UInt8} (h : PT w W d s z l) : PF w W := ⟨h.res, h.bel⟩

theorem readDay_len {k : Nat} {l : List UInt8} {d : Int} {l' : List UInt8} (h : readDayR k l = some (d, l')) : l'.length ≤ l.length := by
  unfold readDayR at h
  split at h
  · cases h
  · split at h
    · split at h
      · cases h
      · split at h
        · split at h
          · cases h
          · split at h
            · simp only [Option.some.injEq, Prod.mk.injEq] at h
              rw [← h.2]
              simp only [List.length_drop]
              omega
            · cases h
        · cases h
    · cases h

theorem pHas {w W : World} {d s z : Int} {l : List UInt8} (h : PT w W d s z l) (c : UInt8) :
    Calls Tryd.prog 35 #[.pointer (some ⟨w.heap.size + 1, 0, none⟩), .string (bts [c])] W fun e w' =>
      (sHas c l = none ∧ ¬ l.head? = some c ∧ e = .returned (.bool false) ∧ PT w w' d s z l) ∨ ∃ l', sHas c l = some l' ∧ l.head? = some c ∧ l' = l.drop 1 ∧ e = .returned (.bool true) ∧ PT w w' d s z l' := by
  refine (has_any (w.heap.size + 1) d s z (bts l) c W h.mom (by rw [size_bts]; exact h.len)).mono ?_
  rintro e w' ⟨rfl, rfl⟩
  rw [toList_bts]
  by_cases hc : l.head? = some c
  · right
    rw [behind_yes (by rw [toList_bts]; exact hc), toList_bts, decide_eq_true hc]
    exact ⟨l.drop 1, by simp [sHas, hc], hc, rfl, rfl, h.left _ (by rw [List.length_drop]; have := h.len; omega)⟩
  · left
    rw [behind_no (by rw [toList_bts]; exact hc), decide_eq_false hc]
    exact ⟨by simp [sHas, hc], hc, rfl, h.left _ h.len⟩

theorem pTwo {w W : World} {d s z : Int} {l : List UInt8} (h : PT w W d s z l) (below : Nat) (bi : Int) (hbi : bi = (below : Int)) :
    Calls Tryd.prog 33 #[.int .i64 bi, .pointer (some ⟨w.heap.size + 1, 0, none⟩)] W fun e w' =>
      (sTwo below l = none ∧ (∃ n : Int, e = .returned (.tuple #[.int .i64 n, .bool false])) ∧ PF w w') ∨ ∃ n l', sTwo below l = some (n, l') ∧ n < below ∧ e = .returned (.tuple #[.int .i64 (n : Int), .bool true]) ∧ PT w w' d s z l' := by
  subst hbi
  refine (two_any (w.heap.size + 1) d s z (bts l) below W h.mom (by rw [size_bts]; exact h.len)).mono ?_
  rintro e w' ⟨rfl, rfl⟩
  rw [toList_bts]
  have hp := h.left (l.drop 2) (by rw [List.length_drop]; have := h.len; omega)
  cases hn : numR (l.take 2) 2 2 with
  | none => exact .inl ⟨by simp [sTwo, hn], ⟨0, rfl⟩, hp.fails⟩
  | some n =>
    by_cases hb : n < below
    · exact .inr ⟨n, l.drop 2, by simp [sTwo, hn, hb], hb, by simp [twoV, hb], hp⟩
    · exact .inl ⟨by simp [sTwo, hn, hb], ⟨n, by simp [twoV, hb]⟩, hp.fails⟩

theorem pDay {w W : World} {d s z : Int} {l : List UInt8} (h : PT w W d s z l) (ht : LTab w) (k : Nat) (ki : Int) (hki : ki = (k : Int)) (hk : k ≤ 4) :
    Calls Tryd.prog 17 #[.pointer (some ⟨w.heap.size + 1, 0, none⟩), .int .i64 ki] W fun e w' =>
      (readDayR k l = none ∧ e = .returned (.bool false) ∧ PF w w') ∨ ∃ d' l', readDayR k l = some (d', l') ∧ e = .returned (.bool true) ∧ PT w w' d' s z l' := by
  subst hki
  have hg := ht.size
  refine (readDay_any (w.heap.size + 1) d s z (bts l) k W h.mom (ht.belowB h.bel hg) (by omega) (by rw [size_bts]; exact h.len) hk).mono ?_
  rw [toList_bts]
  rintro e w' (⟨hno, rfl, d', l', hm, hb⟩ | ⟨⟨d', l'⟩, hy, rfl, hm, hb⟩)
  · exact .inl ⟨hno, rfl, blk_belowB h.res hb (by omega), h.bel.trans (hb.mono (by omega))⟩
  · exact .inr ⟨d', l', hy, rfl, h.to hm hb (by have := readDay_len hy; have := h.len; omega)⟩

def JPt (w : World) (L : List UInt8) (a' : Act) (w' : World) : Prop :=
  ∃ u : Nat → Value, a' = { tmps := #[u 0, u 1, .pointer (some ⟨w.heap.size, 0, none⟩), u 3, u 4, u 5, u 6, u 7, u 8, u 9, u 10, u 11, u 12, u 13, u 14, u 15, u 16, u 17, u 18, u 19, u 20, u 21, u 22, u 23, u 24, u 25, u 26, u 27, u 28, u 29, u 30, u 31, u 32, u 33, u 34, u 35, u 36, u 37, u 38, u 39, u 40, u 41, u 42, u 43, u 44, u 45, u 46, u 47, u 48, u 49, u 50, u 51, u 52, u 53, u 54, u 55, u 56, u 57, u 58, u 59, u 60, u 61, u 62, u 63, u 64, u 65, u 66, u 67, u 68, u 69, u 70, u 71, u 72, u 73, u 74, u 75, u 76, u 77, u 78, u 79, u 80, u 81, u 82, u 83, u 84, u 85, u 86, u 87, u 88, u 89, u 90, u 91, u 92, u 93, u 94, u 95, u 96, u 97, u 98, u 99, u 100, u 101, u 102, u 103, u 104, u 105, u 106], defers := [] } ∧ Hid (ptR L = none) ∧ Hid (PF w w')
theorem JPt.mk {w : World} {L : List UInt8} {a' : Act} {w' : World} (ha : a' = { tmps := #[a'.tmps.getD 0 undef, a'.tmps.getD 1 undef, .pointer (some ⟨w.heap.size, 0, none⟩), a'.tmps.getD 3 undef, a'.tmps.getD 4 undef, a'.tmps.getD 5 undef, a'.tmps.getD 6 undef, a'.tmps.getD 7 undef, a'.tmps.getD 8 undef, a'.tmps.getD 9 undef, a'.tmps.getD 10 undef, a'.tmps.getD 11 undef, a'.tmps.getD 12 undef, a'.tmps.getD 13 undef, a'.tmps.getD 14 undef, a'.tmps.getD 15 undef, a'.tmps.getD 16 undef, a'.tmps.getD 17 undef, a'.tmps.getD 18 undef, a'.tmps.getD 19 undef, a'.tmps.getD 20 undef, a'.tmps.getD 21 undef, a'.tmps.getD 22 undef, a'.tmps.getD 23 undef, a'.tmps.getD 24 undef, a'.tmps.getD 25 undef, a'.tmps.getD 26 undef, a'.tmps.getD 27 undef, a'.tmps.getD 28 undef, a'.tmps.getD 29 undef, a'.tmps.getD 30 undef, a'.tmps.getD 31 undef, a'.tmps.getD 32 undef, a'.tmps.getD 33 undef, a'.tmps.getD 34 undef, a'.tmps.getD 35 undef, a'.tmps.getD 36 undef, a'.tmps.getD 37 undef, a'.tmps.getD 38 undef, a'.tmps.getD 39 undef, a'.tmps.getD 40 undef, a'.tmps.getD 41 undef, a'.tmps.getD 42 undef, a'.tmps.getD 43 undef, a'.tmps.getD 44 undef, a'.tmps.getD 45 undef, a'.tmps.getD 46 undef, a'.tmps.getD 47 undef, a'.tmps.getD 48 undef, a'.tmps.getD 49 undef, a'.tmps.getD 50 undef, a'.tmps.getD 51 undef, a'.tmps.getD 52 undef, a'.tmps.getD 53 undef, a'.tmps.getD 54 undef, a'.tmps.getD 55 undef, a'.tmps.getD 56 undef, a'.tmps.getD 57 undef, a'.tmps.getD 58 undef, a'.tmps.getD 59 undef, a'.tmps.getD 60 undef, a'.tmps.getD 61 undef, a'.tmps.getD 62 undef, a'.tmps.getD 63 undef, a'.tmps.getD 64 undef, a'.tmps.getD 65 undef, a'.tmps.getD 66 undef, a'.tmps.getD 67 undef, a'.tmps.getD 68 undef, a'.tmps.getD 69 undef, a'.tmps.getD 70 undef, a'.tmps.getD 71 undef, a'.tmps.getD 72 undef, a'.tmps.getD 73 undef, a'.tmps.getD 74 undef, a'.tmps.getD 75 undef, a'.tmps.getD 76 undef, a'.tmps.getD 77 undef, a'.tmps.getD 78 undef, a'.tmps.getD 79 undef, a'.tmps.getD 80 undef, a'.tmps.getD 81 undef, a'.tmps.getD 82 undef, a'.tmps.getD 83 undef, a'.tmps.getD 84 undef, a'.tmps.getD 85 undef, a'.tmps.getD 86 undef, a'.tmps.getD 87 undef, a'.tmps.getD 88 undef, a'.tmps.getD 89 undef, a'.tmps.getD 90 undef, a'.tmps.getD 91 undef, a'.tmps.getD 92 undef, a'.tmps.getD 93 undef, a'.tmps.getD 94 undef, a'.tmps.getD 95 undef, a'.tmps.getD 96 undef, a'.tmps.getD 97 undef, a'.tmps.getD 98 undef, a'.tmps.getD 99 undef, a'.tmps.getD 100 undef, a'.tmps.getD 101 undef, a'.tmps.getD 102 undef, a'.tmps.getD 103 undef, a'.tmps.getD 104 undef, a'.tmps.getD 105 undef, a'.tmps.getD 106 undef], defers := [] }) (h : ptR L = none) (hp : PF w w') : JPt w L a' w' :=
  ⟨fun i => a'.tmps.getD i undef, ha, h, hp⟩

theorem pt_new (w : World) (l : List UInt8) (hl : l.length ≤ 281474976710656) : PT w ((w.alloc (.cells #[.int .i64 0, .int .i64 0, .int .i64 0] 30)).alloc (.cells #[.int .i64 0, .int .i64 0, .int .i64 0, .string (bts l)] 36)) 0 0 0 l := by
  have h0 : (w.alloc (.cells #[.int .i64 0, .int .i64 0, .int .i64 0] 30)).heap.size = w.heap.size + 1 := by simp
  refine ⟨?_, ?_, ?_, hl⟩
  · have := mom_new (w.alloc (.cells #[.int .i64 0, .int .i64 0, .int .i64 0] 30)) (bts l)
    rwa [h0] at this
  · exact (Blk.new w _ _).below ((Below.refl _ _).alloc (Nat.le_refl _) _)
  · exact ((Below.refl _ w).alloc (Nat.le_refl _) _).alloc (by simp) _

set_option maxHeartbeats 4000000 in
set_option maxRecDepth 100000 in
theorem parseTime_any (L : List UInt8) (w : World) (ht : LTab w) (hs : L.length ≤ 140737488355328) :
    Calls Tryd.prog 12 #[.string (bts L)] w fun e w' => e = .returned (timV (ptR L)) ∧ Below w.heap.size w w' := by
  have HP := hide (pt_new w L (by omega))
  have HTB := hide ht
  clear ht
  go_enter Tryd.func12, Tryd.ntmps12
  go_wp2_with fail
  refine wp_scope_out 0 (JPt w L) (by rfl) ?_ ?_
  · go_wp2_with fail
    have HH := hide (pHas (unhide HP) 32)
    simp only [bts] at HH
    refine (unhide HH).mono ?_
    clear HH HP
    rintro e W (⟨_, hno, rfl, hp⟩ | ⟨l0, _, hy, hl0, rfl, hp⟩)
    · have HX : Hid (ptR L = (readDayR 2 L).bind pt1) := hide (by unfold ptR; rw [if_neg hno])
      have HP := hide hp
      clear hp hno
      go_wp2_with fail
      refine (pDay (unhide HP) (unhide HTB) 2 2 rfl (by omega)).mono ?_
      clear HP
      rintro e W (⟨hno, rfl, hf⟩ | ⟨d1, l1, hy, rfl, hp⟩)
      · have HN : Hid (ptR L = none) := hide (by rw [unhide HX, hno]; rfl)
        have HF := hide hf
        clear hf hno
        go_wp2
        refine wp_goto ?_
        exact ⟨rfl, JPt.mk rfl (unhide HN) (unhide HF)⟩
      have HX1 : Hid (ptR L = pt1 (d1, l1)) := hide (by rw [unhide HX, hy]; rfl)
      have HP := hide hp
      clear hp hy HX
      have HH := hide (pHas (unhide HP) 32)
      simp only [bts] at HH
      go_wp2_with fail
      refine (unhide HH).mono ?_
      clear HH HP
      rintro e W (⟨hno, _, rfl, hp⟩ | ⟨l2, hy, _, _, rfl, hp⟩)
      · have hf := hp.fails
        clear hp
        have HN : Hid (ptR L = none) := hide (by rw [unhide HX1]; unfold pt1; rw [hno]; rfl)
        have HF := hide hf
        clear hf hno
        go_wp2
        refine wp_goto ?_
        exact ⟨rfl, JPt.mk rfl (unhide HN) (unhide HF)⟩
      have HX2 : Hid (ptR L = (sTwo 24 l2).bind (pt2 d1)) := hide (by rw [unhide HX1]; unfold pt1; rw [hy]; rfl)
      have HP := hide hp
      clear hp hy HX1
      go_wp2_with fail
      refine (pTwo (unhide HP) 24 24 rfl).mono ?_
      clear HP
      rintro e W (⟨hno, ⟨n0, rfl⟩, hf⟩ | ⟨h, l3, hy, hbh, rfl, hp⟩)
      · have HN : Hid (ptR L = none) := hide (by rw [unhide HX2]; rw [hno]; rfl)
        have HF := hide hf
        clear hf hno
        go_wp2
        refine wp_goto ?_
        exact ⟨rfl, JPt.mk rfl (unhide HN) (unhide HF)⟩
      have HX3 : Hid (ptR L = pt2 d1 (h, l3)) := hide (by rw [unhide HX2]; rw [hy]; rfl)
      have HP := hide hp
      clear hp hy HX2
      have HH := hide (pHas (unhide HP) 58)
      simp only [bts] at HH
      go_wp2_with fail
      refine (unhide HH).mono ?_
      clear HH HP
      rintro e W (⟨hno, _, rfl, hp⟩ | ⟨l4, hy, _, _, rfl, hp⟩)
      · have hf := hp.fails
        clear hp
        have HN : Hid (ptR L = none) := hide (by rw [unhide HX3]; unfold pt2; rw [hno]; rfl)
        have HF := hide hf
        clear hf hno
        go_wp2
        refine wp_goto ?_
        exact ⟨rfl, JPt.mk rfl (unhide HN) (unhide HF)⟩
      have HX4 : Hid (ptR L = (sTwo 60 l4).bind (pt3 d1 h)) := hide (by rw [unhide HX3]; unfold pt2; rw [hy]; rfl)
      have HP := hide hp
      clear hp hy HX3
      go_wp2_with fail
      refine (pTwo (unhide HP) 60 60 rfl).mono ?_
      clear HP
      rintro e W (⟨hno, ⟨n0, rfl⟩, hf⟩ | ⟨m, l5, hy, hbm, rfl, hp⟩)
      · have HN : Hid (ptR L = none) := hide (by rw [unhide HX4]; rw [hno]; rfl)
        have HF := hide hf
        clear hf hno
        go_wp2
        refine wp_goto ?_
        exact ⟨rfl, JPt.mk rfl (unhide HN) (unhide HF)⟩
      have HX5 : Hid (ptR L = pt3 d1 h (m, l5)) := hide (by rw [unhide HX4]; rw [hy]; rfl)
      have HP := hide hp
      clear hp hy HX4
      have HH := hide (pHas (unhide HP) 58)
      simp only [bts] at HH
      go_wp2_with fail
      refine (unhide HH).mono ?_
      clear HH HP
      rintro e W (⟨hno, _, rfl, hp⟩ | ⟨l6, hy, _, _, rfl, hp⟩)
      · have hf := hp.fails
        clear hp
        have HN : Hid (ptR L = none) := hide (by rw [unhide HX5]; unfold pt3; rw [hno]; rfl)
        have HF := hide hf
        clear hf hno
        go_wp2
        refine wp_goto ?_
        exact ⟨rfl, JPt.mk rfl (unhide HN) (unhide HF)⟩
      have HX6 : Hid (ptR L = (sTwo 60 l6).bind (pt4 d1 h m)) := hide (by rw [unhide HX5]; unfold pt3; rw [hy]; rfl)
      have HP := hide hp
      clear hp hy HX5
      go_wp2_with fail
      refine (pTwo (unhide HP) 60 60 rfl).mono ?_
      clear HP
      rintro e W (⟨hno, ⟨n0, rfl⟩, hf⟩ | ⟨x, l7, hy, hbx, rfl, hp⟩)
      · have HN : Hid (ptR L = none) := hide (by rw [unhide HX6]; rw [hno]; rfl)
        have HF := hide hf
        clear hf hno
        go_wp2
        refine wp_goto ?_
        exact ⟨rfl, JPt.mk rfl (unhide HN) (unhide HF)⟩
      have HX7 : Hid (ptR L = pt4 d1 h m (x, l7)) := hide (by rw [unhide HX6]; rw [hy]; rfl)
      have HP := hide hp
      clear hp hy HX6
      have HH := hide (pHas (unhide HP) 32)
      simp only [bts] at HH
      go_wp2_with fail
      refine (unhide HH).mono ?_
      clear HH HP
      rintro e W (⟨hno, _, rfl, hp⟩ | ⟨l8, hy, _, _, rfl, hp⟩)
      · have hf := hp.fails
        clear hp
        have HN : Hid (ptR L = none) := hide (by rw [unhide HX7]; unfold pt4; rw [hno]; rfl)
        have HF := hide hf
        clear hf hno
        go_wp2
        refine wp_goto ?_
        exact ⟨rfl, JPt.mk rfl (unhide HN) (unhide HF)⟩
      have HX8 : Hid (ptR L = (sSign l8).bind (pt5 d1 h m x)) := hide (by rw [unhide HX7]; unfold pt4; rw [hy]; rfl)
      have HP := hide hp
      clear hp hy HX7
      have c1 : W.cell? ⟨w.heap.size + 1, 1, none⟩ = some (.int .i64 0) := (Blk.cell (unhide HP).mom 1).trans rfl
      have f1 := Blk.frozen (unhide HP).mom 1
      have HP2 := hide ((unhide HP).sec (((h : Int) * 60 + (m : Int)) * 60 + (x : Int)))
      have HH := hide (pHas (unhide HP2) 45)
      simp only [bts] at HH
      clear HP HP2
      go_wp2_with fail
      refine (unhide HH).mono ?_
      clear HH c1 f1
      rintro e W (⟨_, hno, rfl, hp⟩ | ⟨l9, _, hy, hl9, rfl, hp⟩)
      · have HH := hide (pHas hp 43)
        simp only [bts] at HH
        have HNO := hide hno
        clear hp hno
        go_wp2_with fail
        refine (unhide HH).mono ?_
        clear HH
        rintro e W (⟨_, hno, rfl, hp⟩ | ⟨l9, _, hy, hl9, rfl, hp⟩)
        · have hf := hp.fails
          clear hp
          have HN : Hid (ptR L = none) := hide (by rw [unhide HX8]; unfold sSign; rw [if_neg (unhide HNO), if_neg hno]; rfl)
          have HF := hide hf
          clear hf hno
          go_wp2
          refine wp_goto ?_
          exact ⟨rfl, JPt.mk rfl (unhide HN) (unhide HF)⟩
        have HX9 : Hid (ptR L = pt5 d1 h m x (false, l9)) := hide (by rw [unhide HX8]; unfold sSign; rw [if_neg (unhide HNO), if_pos hy, hl9]; rfl)
        have HP := hide hp
        clear hp hy hl9 HX8 HNO
        go_wp2_with fail
        refine (pTwo (unhide HP) 100 100 rfl).mono ?_
        clear HP
        rintro e W (⟨hno, ⟨n0, rfl⟩, hf⟩ | ⟨zh, l10, hy, hbzh, rfl, hp⟩)
        · have HN : Hid (ptR L = none) := hide (by rw [unhide HX9]; unfold pt5; rw [hno]; rfl)
          have HF := hide hf
          clear hf hno
          go_wp2
          refine wp_goto ?_
          exact ⟨rfl, JPt.mk rfl (unhide HN) (unhide HF)⟩
        have HX10 : Hid (ptR L = pt6 d1 h m x false (zh, l10)) := hide (by rw [unhide HX9]; unfold pt5; rw [hy]; rfl)
        have HP := hide hp
        clear hp hy HX9
        go_wp2_with fail
        refine (pTwo (unhide HP) 60 60 rfl).mono ?_
        clear HP
        rintro e W (⟨hno, ⟨n0, rfl⟩, hf⟩ | ⟨zm, l11, hy, hbzm, rfl, hp⟩)
        · have HN : Hid (ptR L = none) := hide (by rw [unhide HX10]; unfold pt6; rw [hno]; rfl)
          have HF := hide hf
          clear hf hno
          go_wp2
          refine wp_goto ?_
          exact ⟨rfl, JPt.mk rfl (unhide HN) (unhide HF)⟩
        have HX11 : Hid (ptR L = pt7 d1 h m x false zh (zm, l11)) := hide (by rw [unhide HX10]; unfold pt6; rw [hy]; rfl)
        have HP := hide hp
        clear hp hy HX10
        have c3 : W.cell? ⟨w.heap.size + 1, 3, none⟩ = some (.string (bts l11)) := (Blk.cell (unhide HP).mom 3).trans rfl
        cases l11 with
        | cons y r =>
          have hne : ((bts (y :: r)).toList.isEmpty) = false := by rw [ByteArray.toList_eq, toList_bts]; rfl
          have hf := (unhide HP).fails
          clear HP
          have HN : Hid (ptR L = none) := hide (by rw [unhide HX11]; unfold pt7; rfl)
          have HF := hide hf
          clear hf
          go_wp2
          refine wp_goto ?_
          exact ⟨rfl, JPt.mk rfl (unhide HN) (unhide HF)⟩
        | nil =>
          have hne : (bts []).toList.isEmpty = true := by rw [ByteArray.toList_eq, toList_bts]; rfl
          have HX12 : Hid (ptR L = some (d1, ((h : Int) * 60 + (m : Int)) * 60 + (x : Int), (zh : Int) * 60 + (zm : Int))) := hide (by rw [unhide HX11]; unfold pt7; simp)
          have c0 : W.cell? ⟨w.heap.size + 1, 0, none⟩ = some (.int .i64 d1) := (Blk.cell (unhide HP).mom 0).trans rfl
          have c1 : W.cell? ⟨w.heap.size + 1, 1, none⟩ = some (.int .i64 (((h : Int) * 60 + (m : Int)) * 60 + (x : Int))) := (Blk.cell (unhide HP).mom 1).trans rfl
          have c2 : W.cell? ⟨w.heap.size + 1, 2, none⟩ = some (.int .i64 0) := (Blk.cell (unhide HP).mom 2).trans rfl
          have f2 := Blk.frozen (unhide HP).mom 2
          have r0 : W.cell? ⟨w.heap.size, 0, none⟩ = some (.int .i64 0) := (Blk.cell (unhide HP).res 0).trans rfl
          have r1 : W.cell? ⟨w.heap.size, 1, none⟩ = some (.int .i64 0) := (Blk.cell (unhide HP).res 1).trans rfl
          have r2 : W.cell? ⟨w.heap.size, 2, none⟩ = some (.int .i64 0) := (Blk.cell (unhide HP).res 2).trans rfl
          have g0 := Blk.frozen (unhide HP).res 0
          have g1 := Blk.frozen (unhide HP).res 1
          have g2 := Blk.frozen (unhide HP).res 2
          have HB := hide (unhide HP).bel
          clear HP HX11
          go_wp2
          (try simp only [Exit.inBlock, Exit.then])
          (try simp only [Exit.jump])
          refine bodyPost_ret (v := timV (some (d1, ((h : Int) * 60 + (m : Int)) * 60 + (x : Int), (zh : Int) * 60 + (zm : Int)))) (by simp [results, Tryd.results12, go_sem, timV, r0, r1, r2]) rfl ⟨by rw [unhide HX12], ?_⟩
          exact ((((unhide HB).setCell (p := ⟨w.heap.size + 1, 2, none⟩) (Nat.le_succ _) _).setCell (p := ⟨w.heap.size, 0, none⟩) (Nat.le_refl _) _).setCell (p := ⟨w.heap.size, 1, none⟩) (Nat.le_refl _) _).setCell (p := ⟨w.heap.size, 2, none⟩) (Nat.le_refl _) _
      · have HX9 : Hid (ptR L = pt5 d1 h m x (true, l9)) := hide (by rw [unhide HX8]; unfold sSign; rw [if_pos hy, hl9]; rfl)
        have HP := hide hp
        clear hp hy hl9 HX8
        go_wp2_with fail
        refine (pTwo (unhide HP) 100 100 rfl).mono ?_
        clear HP
        rintro e W (⟨hno, ⟨n0, rfl⟩, hf⟩ | ⟨zh, l10, hy, hbzh, rfl, hp⟩)
        · have HN : Hid (ptR L = none) := hide (by rw [unhide HX9]; unfold pt5; rw [hno]; rfl)
          have HF := hide hf
          clear hf hno
          go_wp2
          refine wp_goto ?_
          exact ⟨rfl, JPt.mk rfl (unhide HN) (unhide HF)⟩
        have HX10 : Hid (ptR L = pt6 d1 h m x true (zh, l10)) := hide (by rw [unhide HX9]; unfold pt5; rw [hy]; rfl)
        have HP := hide hp
        clear hp hy HX9
        go_wp2_with fail
        refine (pTwo (unhide HP) 60 60 rfl).mono ?_
        clear HP
        rintro e W (⟨hno, ⟨n0, rfl⟩, hf⟩ | ⟨zm, l11, hy, hbzm, rfl, hp⟩)
        · have HN : Hid (ptR L = none) := hide (by rw [unhide HX10]; unfold pt6; rw [hno]; rfl)
          have HF := hide hf
          clear hf hno
          go_wp2
          refine wp_goto ?_
          exact ⟨rfl, JPt.mk rfl (unhide HN) (unhide HF)⟩
        have HX11 : Hid (ptR L = pt7 d1 h m x true zh (zm, l11)) := hide (by rw [unhide HX10]; unfold pt6; rw [hy]; rfl)
        have HP := hide hp
        clear hp hy HX10
        have c3 : W.cell? ⟨w.heap.size + 1, 3, none⟩ = some (.string (bts l11)) := (Blk.cell (unhide HP).mom 3).trans rfl
        cases l11 with
        | cons y r =>
          have hne : ((bts (y :: r)).toList.isEmpty) = false := by rw [ByteArray.toList_eq, toList_bts]; rfl
          have hf := (unhide HP).fails
          clear HP
          have HN : Hid (ptR L = none) := hide (by rw [unhide HX11]; unfold pt7; rfl)
          have HF := hide hf
          clear hf
          go_wp2
          refine wp_goto ?_
          exact ⟨rfl, JPt.mk rfl (unhide HN) (unhide HF)⟩
        | nil =>
          have hne : (bts []).toList.isEmpty = true := by rw [ByteArray.toList_eq, toList_bts]; rfl
          have HX12 : Hid (ptR L = some (d1, ((h : Int) * 60 + (m : Int)) * 60 + (x : Int), -((zh : Int) * 60 + (zm : Int)))) := hide (by rw [unhide HX11]; unfold pt7; simp)
          have c0 : W.cell? ⟨w.heap.size + 1, 0, none⟩ = some (.int .i64 d1) := (Blk.cell (unhide HP).mom 0).trans rfl
          have c1 : W.cell? ⟨w.heap.size + 1, 1, none⟩ = some (.int .i64 (((h : Int) * 60 + (m : Int)) * 60 + (x : Int))) := (Blk.cell (unhide HP).mom 1).trans rfl
          have c2 : W.cell? ⟨w.heap.size + 1, 2, none⟩ = some (.int .i64 0) := (Blk.cell (unhide HP).mom 2).trans rfl
          have f2 := Blk.frozen (unhide HP).mom 2
          have r0 : W.cell? ⟨w.heap.size, 0, none⟩ = some (.int .i64 0) := (Blk.cell (unhide HP).res 0).trans rfl
          have r1 : W.cell? ⟨w.heap.size, 1, none⟩ = some (.int .i64 0) := (Blk.cell (unhide HP).res 1).trans rfl
          have r2 : W.cell? ⟨w.heap.size, 2, none⟩ = some (.int .i64 0) := (Blk.cell (unhide HP).res 2).trans rfl
          have g0 := Blk.frozen (unhide HP).res 0
          have g1 := Blk.frozen (unhide HP).res 1
          have g2 := Blk.frozen (unhide HP).res 2
          have HB := hide (unhide HP).bel
          clear HP HX11
          go_wp2
          (try simp only [Exit.inBlock, Exit.then])
          (try simp only [Exit.jump])
          refine bodyPost_ret (v := timV (some (d1, ((h : Int) * 60 + (m : Int)) * 60 + (x : Int), -((zh : Int) * 60 + (zm : Int))))) (by simp [results, Tryd.results12, go_sem, timV, r0, r1, r2]) rfl ⟨by rw [unhide HX12], ?_⟩
          exact (((((unhide HB).setCell (p := ⟨w.heap.size + 1, 2, none⟩) (Nat.le_succ _) _).setCell (p := ⟨w.heap.size + 1, 2, none⟩) (Nat.le_succ _) _).setCell (p := ⟨w.heap.size, 0, none⟩) (Nat.le_refl _) _).setCell (p := ⟨w.heap.size, 1, none⟩) (Nat.le_refl _) _).setCell (p := ⟨w.heap.size, 2, none⟩) (Nat.le_refl _) _
    · have HX : Hid (ptR L = (readDayR 1 l0).bind pt1) := hide (by unfold ptR; rw [if_pos hy, hl0])
      have HP := hide hp
      clear hp hy hl0
      go_wp2_with fail
      refine (pDay (unhide HP) (unhide HTB) 1 1 rfl (by omega)).mono ?_
      clear HP
      rintro e W (⟨hno, rfl, hf⟩ | ⟨d1, l1, hy, rfl, hp⟩)
      · have HN : Hid (ptR L = none) := hide (by rw [unhide HX, hno]; rfl)
        have HF := hide hf
        clear hf hno
        go_wp2
        refine wp_goto ?_
        exact ⟨rfl, JPt.mk rfl (unhide HN) (unhide HF)⟩
      have HX1 : Hid (ptR L = pt1 (d1, l1)) := hide (by rw [unhide HX, hy]; rfl)
      have HP := hide hp
      clear hp hy HX
      have HH := hide (pHas (unhide HP) 32)
      simp only [bts] at HH
      go_wp2_with fail
      refine (unhide HH).mono ?_
      clear HH HP
      rintro e W (⟨hno, _, rfl, hp⟩ | ⟨l2, hy, _, _, rfl, hp⟩)
      · have hf := hp.fails
        clear hp
        have HN : Hid (ptR L = none) := hide (by rw [unhide HX1]; unfold pt1; rw [hno]; rfl)
        have HF := hide hf
        clear hf hno
        go_wp2
        refine wp_goto ?_
        exact ⟨rfl, JPt.mk rfl (unhide HN) (unhide HF)⟩
      have HX2 : Hid (ptR L = (sTwo 24 l2).bind (pt2 d1)) := hide (by rw [unhide HX1]; unfold pt1; rw [hy]; rfl)
      have HP := hide hp
      clear hp hy HX1
      go_wp2_with fail
      refine (pTwo (unhide HP) 24 24 rfl).mono ?_
      clear HP
      rintro e W (⟨hno, ⟨n0, rfl⟩, hf⟩ | ⟨h, l3, hy, hbh, rfl, hp⟩)
      · have HN : Hid (ptR L = none) := hide (by rw [unhide HX2]; rw [hno]; rfl)
        have HF := hide hf
        clear hf hno
        go_wp2
        refine wp_goto ?_
        exact ⟨rfl, JPt.mk rfl (unhide HN) (unhide HF)⟩
      have HX3 : Hid (ptR L = pt2 d1 (h, l3)) := hide (by rw [unhide HX2]; rw [hy]; rfl)
      have HP := hide hp
      clear hp hy HX2
      have HH := hide (pHas (unhide HP) 58)
      simp only [bts] at HH
      go_wp2_with fail
      refine (unhide HH).mono ?_
      clear HH HP
      rintro e W (⟨hno, _, rfl, hp⟩ | ⟨l4, hy, _, _, rfl, hp⟩)
      · have hf := hp.fails
        clear hp
        have HN : Hid (ptR L = none) := hide (by rw [unhide HX3]; unfold pt2; rw [hno]; rfl)
        have HF := hide hf
        clear hf hno
        go_wp2
        refine wp_goto ?_
        exact ⟨rfl, JPt.mk rfl (unhide HN) (unhide HF)⟩
      have HX4 : Hid (ptR L = (sTwo 60 l4).bind (pt3 d1 h)) := hide (by rw [unhide HX3]; unfold pt2; rw [hy]; rfl)
      have HP := hide hp
      clear hp hy HX3
      go_wp2_with fail
      refine (pTwo (unhide HP) 60 60 rfl).mono ?_
      clear HP
      rintro e W (⟨hno, ⟨n0, rfl⟩, hf⟩ | ⟨m, l5, hy, hbm, rfl, hp⟩)
      · have HN : Hid (ptR L = none) := hide (by rw [unhide HX4]; rw [hno]; rfl)
        have HF := hide hf
        clear hf hno
        go_wp2
        refine wp_goto ?_
        exact ⟨rfl, JPt.mk rfl (unhide HN) (unhide HF)⟩
      have HX5 : Hid (ptR L = pt3 d1 h (m, l5)) := hide (by rw [unhide HX4]; rw [hy]; rfl)
      have HP := hide hp
      clear hp hy HX4
      have HH := hide (pHas (unhide HP) 58)
      simp only [bts] at HH
      go_wp2_with fail
      refine (unhide HH).mono ?_
      clear HH HP
      rintro e W (⟨hno, _, rfl, hp⟩ | ⟨l6, hy, _, _, rfl, hp⟩)
      · have hf := hp.fails
        clear hp
        have HN : Hid (ptR L = none) := hide (by rw [unhide HX5]; unfold pt3; rw [hno]; rfl)
        have HF := hide hf
        clear hf hno
        go_wp2
        refine wp_goto ?_
        exact ⟨rfl, JPt.mk rfl (unhide HN) (unhide HF)⟩
      have HX6 : Hid (ptR L = (sTwo 60 l6).bind (pt4 d1 h m)) := hide (by rw [unhide HX5]; unfold pt3; rw [hy]; rfl)
      have HP := hide hp
      clear hp hy HX5
      go_wp2_with fail
      refine (pTwo (unhide HP) 60 60 rfl).mono ?_
      clear HP
      rintro e W (⟨hno, ⟨n0, rfl⟩, hf⟩ | ⟨x, l7, hy, hbx, rfl, hp⟩)
      · have HN : Hid (ptR L = none) := hide (by rw [unhide HX6]; rw [hno]; rfl)
        have HF := hide hf
        clear hf hno
        go_wp2
        refine wp_goto ?_
        exact ⟨rfl, JPt.mk rfl (unhide HN) (unhide HF)⟩
      have HX7 : Hid (ptR L = pt4 d1 h m (x, l7)) := hide (by rw [unhide HX6]; rw [hy]; rfl)
      have HP := hide hp
      clear hp hy HX6
      have HH := hide (pHas (unhide HP) 32)
      simp only [bts] at HH
      go_wp2_with fail
      refine (unhide HH).mono ?_
      clear HH HP
      rintro e W (⟨hno, _, rfl, hp⟩ | ⟨l8, hy, _, _, rfl, hp⟩)
      · have hf := hp.fails
        clear hp
        have HN : Hid (ptR L = none) := hide (by rw [unhide HX7]; unfold pt4; rw [hno]; rfl)
        have HF := hide hf
        clear hf hno
        go_wp2
        refine wp_goto ?_
        exact ⟨rfl, JPt.mk rfl (unhide HN) (unhide HF)⟩
      have HX8 : Hid (ptR L = (sSign l8).bind (pt5 d1 h m x)) := hide (by rw [unhide HX7]; unfold pt4; rw [hy]; rfl)
      have HP := hide hp
      clear hp hy HX7
      have c1 : W.cell? ⟨w.heap.size + 1, 1, none⟩ = some (.int .i64 0) := (Blk.cell (unhide HP).mom 1).trans rfl
      have f1 := Blk.frozen (unhide HP).mom 1
      have HP2 := hide ((unhide HP).sec (((h : Int) * 60 + (m : Int)) * 60 + (x : Int)))
      have HH := hide (pHas (unhide HP2) 45)
      simp only [bts] at HH
      clear HP HP2
      go_wp2_with fail
      refine (unhide HH).mono ?_
      clear HH c1 f1
      rintro e W (⟨_, hno, rfl, hp⟩ | ⟨l9, _, hy, hl9, rfl, hp⟩)
      · have HH := hide (pHas hp 43)
        simp only [bts] at HH
        have HNO := hide hno
        clear hp hno
        go_wp2_with fail
        refine (unhide HH).mono ?_
        clear HH
        rintro e W (⟨_, hno, rfl, hp⟩ | ⟨l9, _, hy, hl9, rfl, hp⟩)
        · have hf := hp.fails
          clear hp
          have HN : Hid (ptR L = none) := hide (by rw [unhide HX8]; unfold sSign; rw [if_neg (unhide HNO), if_neg hno]; rfl)
          have HF := hide hf
          clear hf hno
          go_wp2
          refine wp_goto ?_
          exact ⟨rfl, JPt.mk rfl (unhide HN) (unhide HF)⟩
        have HX9 : Hid (ptR L = pt5 d1 h m x (false, l9)) := hide (by rw [unhide HX8]; unfold sSign; rw [if_neg (unhide HNO), if_pos hy, hl9]; rfl)
        have HP := hide hp
        clear hp hy hl9 HX8 HNO
        go_wp2_with fail
        refine (pTwo (unhide HP) 100 100 rfl).mono ?_
        clear HP
        rintro e W (⟨hno, ⟨n0, rfl⟩, hf⟩ | ⟨zh, l10, hy, hbzh, rfl, hp⟩)
        · have HN : Hid (ptR L = none) := hide (by rw [unhide HX9]; unfold pt5; rw [hno]; rfl)
          have HF := hide hf
          clear hf hno
          go_wp2
          refine wp_goto ?_
          exact ⟨rfl, JPt.mk rfl (unhide HN) (unhide HF)⟩
        have HX10 : Hid (ptR L = pt6 d1 h m x false (zh, l10)) := hide (by rw [unhide HX9]; unfold pt5; rw [hy]; rfl)
        have HP := hide hp
        clear hp hy HX9
        go_wp2_with fail
        refine (pTwo (unhide HP) 60 60 rfl).mono ?_
        clear HP
        rintro e W (⟨hno, ⟨n0, rfl⟩, hf⟩ | ⟨zm, l11, hy, hbzm, rfl, hp⟩)
        · have HN : Hid (ptR L = none) := hide (by rw [unhide HX10]; unfold pt6; rw [hno]; rfl)
          have HF := hide hf
          clear hf hno
          go_wp2
          refine wp_goto ?_
          exact ⟨rfl, JPt.mk rfl (unhide HN) (unhide HF)⟩
        have HX11 : Hid (ptR L = pt7 d1 h m x false zh (zm, l11)) := hide (by rw [unhide HX10]; unfold pt6; rw [hy]; rfl)
        have HP := hide hp
        clear hp hy HX10
        have c3 : W.cell? ⟨w.heap.size + 1, 3, none⟩ = some (.string (bts l11)) := (Blk.cell (unhide HP).mom 3).trans rfl
        cases l11 with
        | cons y r =>
          have hne : ((bts (y :: r)).toList.isEmpty) = false := by rw [ByteArray.toList_eq, toList_bts]; rfl
          have hf := (unhide HP).fails
          clear HP
          have HN : Hid (ptR L = none) := hide (by rw [unhide HX11]; unfold pt7; rfl)
          have HF := hide hf
          clear hf
          go_wp2
          refine wp_goto ?_
          exact ⟨rfl, JPt.mk rfl (unhide HN) (unhide HF)⟩
        | nil =>
          have hne : (bts []).toList.isEmpty = true := by rw [ByteArray.toList_eq, toList_bts]; rfl
          have HX12 : Hid (ptR L = some (d1, ((h : Int) * 60 + (m : Int)) * 60 + (x : Int), (zh : Int) * 60 + (zm : Int))) := hide (by rw [unhide HX11]; unfold pt7; simp)
          have c0 : W.cell? ⟨w.heap.size + 1, 0, none⟩ = some (.int .i64 d1) := (Blk.cell (unhide HP).mom 0).trans rfl
          have c1 : W.cell? ⟨w.heap.size + 1, 1, none⟩ = some (.int .i64 (((h : Int) * 60 + (m : Int)) * 60 + (x : Int))) := (Blk.cell (unhide HP).mom 1).trans rfl
          have c2 : W.cell? ⟨w.heap.size + 1, 2, none⟩ = some (.int .i64 0) := (Blk.cell (unhide HP).mom 2).trans rfl
          have f2 := Blk.frozen (unhide HP).mom 2
          have r0 : W.cell? ⟨w.heap.size, 0, none⟩ = some (.int .i64 0) := (Blk.cell (unhide HP).res 0).trans rfl
          have r1 : W.cell? ⟨w.heap.size, 1, none⟩ = some (.int .i64 0) := (Blk.cell (unhide HP).res 1).trans rfl
          have r2 : W.cell? ⟨w.heap.size, 2, none⟩ = some (.int .i64 0) := (Blk.cell (unhide HP).res 2).trans rfl
          have g0 := Blk.frozen (unhide HP).res 0
          have g1 := Blk.frozen (unhide HP).res 1
          have g2 := Blk.frozen (unhide HP).res 2
          have HB := hide (unhide HP).bel
          clear HP HX11
          go_wp2
          (try simp only [Exit.inBlock, Exit.then])
          (try simp only [Exit.jump])
          refine bodyPost_ret (v := timV (some (d1, ((h : Int) * 60 + (m : Int)) * 60 + (x : Int), (zh : Int) * 60 + (zm : Int)))) (by simp [results, Tryd.results12, go_sem, timV, r0, r1, r2]) rfl ⟨by rw [unhide HX12], ?_⟩
          exact ((((unhide HB).setCell (p := ⟨w.heap.size + 1, 2, none⟩) (Nat.le_succ _) _).setCell (p := ⟨w.heap.size, 0, none⟩) (Nat.le_refl _) _).setCell (p := ⟨w.heap.size, 1, none⟩) (Nat.le_refl _) _).setCell (p := ⟨w.heap.size, 2, none⟩) (Nat.le_refl _) _
      · have HX9 : Hid (ptR L = pt5 d1 h m x (true, l9)) := hide (by rw [unhide HX8]; unfold sSign; rw [if_pos hy, hl9]; rfl)
        have HP := hide hp
        clear hp hy hl9 HX8
        go_wp2_with fail
        refine (pTwo (unhide HP) 100 100 rfl).mono ?_
        clear HP
        rintro e W (⟨hno, ⟨n0, rfl⟩, hf⟩ | ⟨zh, l10, hy, hbzh, rfl, hp⟩)
        · have HN : Hid (ptR L = none) := hide (by rw [unhide HX9]; unfold pt5; rw [hno]; rfl)
          have HF := hide hf
          clear hf hno
          go_wp2
          refine wp_goto ?_
          exact ⟨rfl, JPt.mk rfl (unhide HN) (unhide HF)⟩
        have HX10 : Hid (ptR L = pt6 d1 h m x true (zh, l10)) := hide (by rw [unhide HX9]; unfold pt5; rw [hy]; rfl)
        have HP := hide hp
        clear hp hy HX9
        go_wp2_with fail
        refine (pTwo (unhide HP) 60 60 rfl).mono ?_
        clear HP
        rintro e W (⟨hno, ⟨n0, rfl⟩, hf⟩ | ⟨zm, l11, hy, hbzm, rfl, hp⟩)
        · have HN : Hid (ptR L = none) := hide (by rw [unhide HX10]; unfold pt6; rw [hno]; rfl)
          have HF := hide hf
          clear hf hno
          go_wp2
          refine wp_goto ?_
          exact ⟨rfl, JPt.mk rfl (unhide HN) (unhide HF)⟩
        have HX11 : Hid (ptR L = pt7 d1 h m x true zh (zm, l11)) := hide (by rw [unhide HX10]; unfold pt6; rw [hy]; rfl)
        have HP := hide hp
        clear hp hy HX10
        have c3 : W.cell? ⟨w.heap.size + 1, 3, none⟩ = some (.string (bts l11)) := (Blk.cell (unhide HP).mom 3).trans rfl
        cases l11 with
        | cons y r =>
          have hne : ((bts (y :: r)).toList.isEmpty) = false := by rw [ByteArray.toList_eq, toList_bts]; rfl
          have hf := (unhide HP).fails
          clear HP
          have HN : Hid (ptR L = none) := hide (by rw [unhide HX11]; unfold pt7; rfl)
          have HF := hide hf
          clear hf
          go_wp2
          refine wp_goto ?_
          exact ⟨rfl, JPt.mk rfl (unhide HN) (unhide HF)⟩
        | nil =>
          have hne : (bts []).toList.isEmpty = true := by rw [ByteArray.toList_eq, toList_bts]; rfl
          have HX12 : Hid (ptR L = some (d1, ((h : Int) * 60 + (m : Int)) * 60 + (x : Int), -((zh : Int) * 60 + (zm : Int)))) := hide (by rw [unhide HX11]; unfold pt7; simp)
          have c0 : W.cell? ⟨w.heap.size + 1, 0, none⟩ = some (.int .i64 d1) := (Blk.cell (unhide HP).mom 0).trans rfl
          have c1 : W.cell? ⟨w.heap.size + 1, 1, none⟩ = some (.int .i64 (((h : Int) * 60 + (m : Int)) * 60 + (x : Int))) := (Blk.cell (unhide HP).mom 1).trans rfl
          have c2 : W.cell? ⟨w.heap.size + 1, 2, none⟩ = some (.int .i64 0) := (Blk.cell (unhide HP).mom 2).trans rfl
          have f2 := Blk.frozen (unhide HP).mom 2
          have r0 : W.cell? ⟨w.heap.size, 0, none⟩ = some (.int .i64 0) := (Blk.cell (unhide HP).res 0).trans rfl
          have r1 : W.cell? ⟨w.heap.size, 1, none⟩ = some (.int .i64 0) := (Blk.cell (unhide HP).res 1).trans rfl
          have r2 : W.cell? ⟨w.heap.size, 2, none⟩ = some (.int .i64 0) := (Blk.cell (unhide HP).res 2).trans rfl
          have g0 := Blk.frozen (unhide HP).res 0
          have g1 := Blk.frozen (unhide HP).res 1
          have g2 := Blk.frozen (unhide HP).res 2
          have HB := hide (unhide HP).bel
          clear HP HX11
          go_wp2
          (try simp only [Exit.inBlock, Exit.then])
          (try simp only [Exit.jump])
          refine bodyPost_ret (v := timV (some (d1, ((h : Int) * 60 + (m : Int)) * 60 + (x : Int), -((zh : Int) * 60 + (zm : Int))))) (by simp [results, Tryd.results12, go_sem, timV, r0, r1, r2]) rfl ⟨by rw [unhide HX12], ?_⟩
          exact (((((unhide HB).setCell (p := ⟨w.heap.size + 1, 2, none⟩) (Nat.le_succ _) _).setCell (p := ⟨w.heap.size + 1, 2, none⟩) (Nat.le_succ _) _).setCell (p := ⟨w.heap.size, 0, none⟩) (Nat.le_refl _) _).setCell (p := ⟨w.heap.size, 1, none⟩) (Nat.le_refl _) _).setCell (p := ⟨w.heap.size, 2, none⟩) (Nat.le_refl _) _
  · rintro a' w' ⟨u, rfl, HN, HP⟩
    have r0 : w'.cell? ⟨w.heap.size, 0, none⟩ = some (.int .i64 0) := (Blk.cell (unhide HP).1 0).trans rfl
    have r1 : w'.cell? ⟨w.heap.size, 1, none⟩ = some (.int .i64 0) := (Blk.cell (unhide HP).1 1).trans rfl
    have r2 : w'.cell? ⟨w.heap.size, 2, none⟩ = some (.int .i64 0) := (Blk.cell (unhide HP).1 2).trans rfl
    have f0 := Blk.frozen (unhide HP).1 0
    have f1 := Blk.frozen (unhide HP).1 1
    have f2 := Blk.frozen (unhide HP).1 2
    go_wp2
    (try simp only [Exit.inBlock, Exit.then])
    (try simp only [Exit.jump])
    refine bodyPost_ret (v := timV none) (by simp [results, Tryd.results12, go_sem, timV, r0, r1, r2]) rfl ⟨by rw [unhide HN], ?_⟩
    exact (((unhide HP).2.setCell (p := ⟨w.heap.size, 0, none⟩) (Nat.le_refl _) _).setCell (p := ⟨w.heap.size, 1, none⟩) (Nat.le_refl _) _).setCell (p := ⟨w.heap.size, 2, none⟩) (Nat.le_refl _) _

end Go.Proofs.YtoegfnonfmcnbaaDoor
