/-
  What fold.Fold and fold.Text do, over this seat's program: letters' folds, in memory of their own.
-/
import Derived.Test.YtekhfbbnlojcoaaDoorFon
import Derived.Laws.OwnMore
set_option linter.unusedVariables false
namespace Go.Proofs.YtekhfbbnlojcoaaDoor
open Go.RowKit Go.Proofs.Rns Go.Proofs.Fol

/-- A row that is filled from its beginning on. -/
def fillC (done : List Value) (n : Nat) (z : Value) : Array Value := (done ++ List.replicate (n - done.length) z).toArray
theorem fill_set {done : List Value} {n : Nat} {z u : Value} (h : done.length < n) : (fillC done n z).setIfInBounds done.length u = fillC (done ++ [u]) n z := by
  unfold fillC
  obtain ⟨m, hm⟩ : ∃ m, n - done.length = m + 1 := ⟨n - done.length - 1, by omega⟩
  apply Array.ext'
  simp only [Array.toList_setIfInBounds]
  rw [List.set_append, if_neg (by omega), Nat.sub_self, hm, List.replicate_succ, List.set_cons_zero]
  simp only [List.length_append, List.length_cons, List.length_nil]
  rw [show n - (done.length + (0 + 1)) = m by omega]
  simp
theorem fill_all {done : List Value} {n : Nat} {z : Value} (h : done.length = n) : fillC done n z = done.toArray := by
  unfold fillC
  rw [h, Nat.sub_self]
  simp
theorem fill_none (n : Nat) (z : Value) : fillC [] n z = (List.replicate n z).toArray := by simp [fillC]
theorem fill_cell {done : List Value} {n : Nat} {z : Value} (h : done.length < n) : (fillC done n z)[done.length]? = some z := by
  unfold fillC
  obtain ⟨m, hm⟩ : ∃ m, n - done.length = m + 1 := ⟨n - done.length - 1, by omega⟩
  simp [hm, List.replicate_succ]
/-- make of as many as n. -/
theorem make_blk {P : Program} (w : World) (t e : TypeId) (i : TypeInfo) (z : Value) (ht : P.underlying t = some (.slice e)) (hi : P.info? e = some i) (hz : i.zero = some z) (hs : i.size = 1) (hc : z.cells = #[z])
    (n : Nat) (hb : i.bytes ≤ 64) (hn : n ≤ 4194304) :
    (Instr.makeSlice t (.int .i64 (n : Int)) (.int .i64 (n : Int))).run P w = .ok (.slice (some ⟨w.heap.size, 0, none⟩) n n) (w.alloc (.cells (fillC [] n z) e)) := by
  have hbb : (i.bytes : Int) * (n : Int) ≤ 281474976710656 := by
    have h : i.bytes * n ≤ 64 * 4194304 := Nat.mul_le_mul hb hn
    have h2 : ((i.bytes * n : Nat) : Int) ≤ ((64 * 4194304 : Nat) : Int) := Int.ofNat_le.mpr h
    rw [Int.natCast_mul] at h2
    omega
  have hr := run_makeSlice (P := P) w t e i z ht hi hz .i64 .i64 (n : Int) (n : Int) (by omega) (Int.le_refl _) (by simp [hs]; omega) hbb (by omega)
  simp only [Int.toNat_natCast] at hr
  rw [hr, hc, hs, Nat.mul_one]
  have : madeCells #[z] n = fillC [] n z := by
    apply Array.ext'
    rw [toList_madeCells_one, fill_none]
  rw [this]

/-- Letters' cells. -/
def intC (l : List Int) : List Value := l.map fun n => Value.int .i32 n
theorem intC_length (l : List Int) : (intC l).length = l.length := by simp [intC]
theorem blk_rowI {w : World} {g : Nat} {l : List Int} (h : Blk w g 21 (intC l).toArray) (hr : ∀ n ∈ l, -2147483648 ≤ n ∧ n ≤ 2147483647) (m : Nat) (hm : m = l.length) : RowI w (.slice (some ⟨g, 0, none⟩) m m) l := by
  subst hm
  refine ⟨_, _, rfl, hr, Or.inr ⟨g, 0, rfl, Blk.lt h, fun j hj => ?_⟩⟩
  rw [Blk.cell h]
  simp [intC, List.getElem?_eq_getElem hj]

set_option maxHeartbeats 2000000 in
set_option maxRecDepth 100000 in
/-- fold.Fold tells letters' folds. -/
theorem fold_at (v : Value) (l : List Int) (w : World) (h : RowI w v l) (hl : l.length ≤ 2097152) :
    Calls Tryd.prog 14 #[v] w fun e w' => ∃ ad, e = .returned (.slice (some ad) l.length l.length) ∧ RowI w' (.slice (some ad) l.length l.length) (l.map oneL) ∧ Below w.heap.size w w' := by
  obtain ⟨i0, hi, hz0, hz1, hz2⟩ := info_parts rInfo
  obtain ⟨a, cap, rfl, hn, hc⟩ := h
  have HC := hide hc
  have HN := hide hn
  clear hc hn
  have hmk := make_blk (P := Tryd.prog) w 37 21 i0 (.int .i32 0) Tryd.underlying37 hi hz0 hz1 rfl l.length (by omega) (by omega)
  obtain ⟨w1, hw1⟩ : ∃ w1, w.alloc (.cells (fillC [] l.length (.int .i32 0)) 21) = w1 := ⟨_, rfl⟩
  have hB1 : Below w.heap.size w w1 := by rw [← hw1]; exact (Below.refl _ w).alloc (Nat.le_refl _) _
  have hK1 : Blk w1 w.heap.size 21 (fillC [] l.length (.int .i32 0)) := by rw [← hw1]; exact Blk.new w _ _
  rw [hw1] at hmk
  have HB1 := hide hB1
  have HK1 := hide hK1
  clear hw1 hB1 hK1
  go_enter Tryd.func14, Tryd.ntmps14
  go_wp2
  go_loopw [11] (fun z wr => ∃ k : Nat, z = .int .i64 k ∧ k ≤ l.length ∧ Hid (Blk wr w.heap.size 21 (fillC (intC ((l.take k).map oneL)) l.length (.int .i32 0))) ∧ Hid (Below w.heap.size w wr)) (fun z _ => l.length - (intOf z).toNat)
  case atStart => exact ⟨0, rfl, Nat.zero_le _, HK1, HB1⟩
  case round =>
    obtain ⟨k, rfl, hk, HK, HB⟩ := hrel
    by_cases hlt : k < l.length
    · have hx : ∃ b off, a = some ⟨b, off, none⟩ ∧ wr.cell? ⟨b, off + k, none⟩ = some (.int .i32 l[k]) := by
        rcases unhide HC with h | ⟨b, off, ha, hb, hcj⟩
        · subst h; simp at hlt
        · exact ⟨b, off, ha, ((unhide HB).cell (p := ⟨b, off + k, none⟩) hb).trans (hcj k hlt)⟩
      obtain ⟨b, off, rfl, hcx⟩ := hx
      have hlt1 : (k : Int) < (l.length : Int) := by omega
      have hdl : (intC ((l.take k).map oneL)).length = k := by simp [intC]; omega
      have hcf : wr.cell? ⟨w.heap.size, k, none⟩ = some (.int .i32 0) := by
        rw [Blk.cell (unhide HK)]
        have := fill_cell (done := intC ((l.take k).map oneL)) (n := l.length) (z := .int .i32 0) (by omega)
        rwa [hdl] at this
      have hfz : wr.frozen? ⟨w.heap.size, k, none⟩ = false := Blk.frozen (unhide HK) k
      have hrg := unhide HN l[k] (List.getElem_mem hlt)
      have HKN : Hid (Blk (wr.setCell ⟨w.heap.size, k, none⟩ (.int .i32 (oneL l[k]))) w.heap.size 21 (fillC (intC ((l.take (k + 1)).map oneL)) l.length (.int .i32 0))) := by
        have := Blk.set (unhide HK) k (.int .i32 (oneL l[k]))
        have e := fill_set (done := intC ((l.take k).map oneL)) (n := l.length) (z := .int .i32 0) (u := .int .i32 (oneL l[k])) (by omega)
        rw [hdl] at e
        rw [e] at this
        have e2 : intC ((l.take k ++ [l[k]]).map oneL) = intC ((l.take k).map oneL) ++ [Value.int .i32 (oneL l[k])] := by unfold intC; rw [List.map_append, List.map_append]; rfl
        rw [List.take_succ_eq_append_getElem hlt, e2]
        exact hide this
      have HBN : Hid (Below w.heap.size w (wr.setCell ⟨w.heap.size, k, none⟩ (.int .i32 (oneL l[k])))) := hide ((unhide HB).setCell (p := ⟨w.heap.size, k, none⟩) (Nat.le_refl _) _)
      have HO := hide (one_any l[k] wr hrg)
      generalize l[k] = x at hcx HKN HBN HO
      generalize oneL x = y at HKN HBN HO
      clear hrg hdl
      go_wp2_with fail
      refine (unhide HO).mono ?_
      rintro e w2 ⟨rfl, rfl⟩
      go_wp2
      exact ⟨⟨k + 1, by go_num, by omega, HKN, HBN⟩, by simp [intOf]; omega⟩
    · have hkl : k = l.length := by omega
      subst hkl
      have hfin : RowI wr (.slice (some ⟨w.heap.size, 0, none⟩) l.length l.length) (l.map oneL) := by
        have h1 := unhide HK
        rw [List.take_length, fill_all (by simp [intC])] at h1
        refine blk_rowI h1 ?_ _ (by simp)
        intro n hm
        rw [List.mem_map] at hm
        obtain ⟨m, hm, rfl⟩ := hm
        exact oneL_i32 (unhide HN m hm)
      have HF := hide hfin
      clear hfin
      go_wp2
      go_ret
      exact ⟨_, rfl, unhide HF, unhide HB⟩
theorem fold_any (v : Value) (l : List Int) (w : World) (h : RowI w v l) (hl : l.length ≤ 2097152) :
    Calls Tryd.prog 14 #[v] w fun e w' => ∃ v', e = .returned v' ∧ RowI w' v' (l.map oneL) ∧ Below w.heap.size w w' :=
  (fold_at v l w h hl).mono fun e w' ⟨ad, he, hr, hb⟩ => ⟨_, he, hr, hb⟩

set_option maxHeartbeats 1000000 in
/-- fold.Text tells a text's. -/
theorem text_any (s : ByteArray) (w : World) (ht : RTab w) (hs : s.size ≤ 1048576) :
    Calls Tryd.prog 15 #[.string s] w fun e w' => ∃ v', e = .returned v' ∧ RowI w' v' ((ints (lettersL s.data.toList)).map oneL) ∧ Below w.heap.size w w' := by
  have HL := hide (letters_any s w ht (by omega))
  have hll := lettersL_len s.data.toList
  rw [sizeL] at hll
  clear ht
  go_enter Tryd.func15, Tryd.ntmps15
  go_wp2_with fail
  refine (unhide HL).mono ?_
  rintro e w1 ⟨v1, rfl, hown, b1⟩
  have HF := hide (fold_any v1 _ w1 (own_rowI hown (lettersL_is _)) (by simp [ints]; omega))
  have HB1 := hide b1
  clear hown b1 HL
  go_wp2_with fail
  refine (unhide HF).mono ?_
  rintro e w2 ⟨v2, rfl, hr, b2⟩
  have HR := hide hr
  have HB2 := hide b2
  clear hr b2 HF
  go_wp2
  go_ret
  exact ⟨_, rfl, unhide HR, belows' (unhide HB1) (unhide HB2)⟩
end Go.Proofs.YtekhfbbnlojcoaaDoor
