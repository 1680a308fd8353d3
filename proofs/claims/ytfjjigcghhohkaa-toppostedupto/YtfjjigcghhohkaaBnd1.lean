/-
  What (dict.entry).copied does, over this seat's program.
-/
import Derived.Test.YtfjjigcghhohkaaDop
import Derived.Deep.RegionWith
import Derived.BigCall
import Derived.Test.YtfjjigcghhohkaaWrb
import Derived.Test.YtfjjigcghhohkaaDcu
import Derived.Test.YtfjjigcghhohkaaSc2
import Derived.Test.YtfjjigcghhohkaaWpk
import Derived.Test.YtfjjigcghhohkaaRows
import Derived.Test.YtfjjigcghhohkaaPun
import Derived.Deep.Slices
import Derived.ProofKit
import Derived.OpenShut
import Derived.ChangeOld
set_option linter.unusedVariables false
namespace Go.Proofs.Ytfjjigcghhohkaa
open Go.RowKit Go.Proofs.Num Go.Proofs.Dct

/-- What a copy's two boxes hold. -/
structure Cpd (W : World) (b : Nat) (k : Nat) (d : ByteArray) : Prop where
  c0 : W.cell? ⟨b, 0, none⟩ = some (.int .u64 (k : Int))
  c1 : W.cell? ⟨b, 1, none⟩ = some (.string d)
  f0 : W.frozen? ⟨b + 1, 0, none⟩ = false
  f1 : W.frozen? ⟨b + 1, 1, none⟩ = false
  lt : b + 1 < W.heap.size
  e0 : W.cell? ⟨b + 1, 0, none⟩ = some (.int .u64 0)
  e1 : W.cell? ⟨b + 1, 1, none⟩ = some (.string ⟨#[]⟩)
theorem Cpd.below {W W' : World} {b k : Nat} {d : ByteArray} (h : Cpd W b k d) (hb : Below W.heap.size W W') : Cpd W' b k d := by
  obtain ⟨c0, c1, f0, f1, lt, e0, e1⟩ := h
  have hs := hb.size
  have hfz : ∀ i, W'.frozen? ⟨b + 1, i, none⟩ = W.frozen? ⟨b + 1, i, none⟩ := fun i => by
    unfold World.frozen?
    rw [hb.block (b + 1) lt]
  refine ⟨?_, ?_, ?_, ?_, by omega, ?_, ?_⟩
  · rw [hb.cell (p := ⟨b, 0, none⟩) (by simp; omega)]; exact c0
  · rw [hb.cell (p := ⟨b, 1, none⟩) (by simp; omega)]; exact c1
  · rw [hfz]; exact f0
  · rw [hfz]; exact f1
  · rw [hb.cell (p := ⟨b + 1, 0, none⟩) lt]; exact e0
  · rw [hb.cell (p := ⟨b + 1, 1, none⟩) lt]; exact e1

end Go.Proofs.Ytfjjigcghhohkaa

/-
  What dict.Read does, over this seat's program.
-/
set_option linter.unusedVariables false
namespace Go.Proofs.Ytfjjigcghhohkaa
open Go.RowKit Go.Proofs.Num Go.Proofs.Dct

/-- An entry as it lies in memory. -/
def entB (e : EntL) : Ent := (e.1, bts e.2)
def FitE (e : Ent) : Prop := e.1 ≤ 18446744073709551615 ∧ e.2.size ≤ 140737488355328
def Fit3 (e : Ent3) : Prop := e.1 ≤ 18446744073709551615 ∧ e.2.1.size ≤ 140737488355328
abbrev RowE := RowG cellsE FitE
abbrev Row3 := RowG cells3 Fit3
/-- What a list of entries is in memory, as lists of bytes. -/
def lstE (e : Ent) : EntL := (e.1, e.2.data.toList)
theorem lst_entB (e : EntL) : lstE (entB e) = e := by simp [lstE, entB, toList_bts]
theorem entB_lst (e : Ent) : entB (lstE e) = e := by simp [lstE, entB, bts_toList]
theorem map_lst_entB (l : List EntL) : (l.map entB).map lstE = l := by
  rw [List.map_map, show lstE ∘ entB = id from funext lst_entB, List.map_id]
theorem map_entB_lst (l : List Ent) : (l.map lstE).map entB = l := by
  rw [List.map_map, show entB ∘ lstE = id from funext entB_lst, List.map_id]

theorem data_le {l : List EntL} {e : EntL} (h : e ∈ l) : e.2.length ≤ (datas l).length := by
  induction l with
  | nil => cases h
  | cons x r ih =>
    rw [datas_cons, List.length_append]
    rcases List.mem_cons.1 h with rfl | h
    · omega
    · have := ih h; omega
theorem fit_read {s : ByteArray} {l : List EntL} {q : Nat} (hs : s.size ≤ 140737488355328) (h : readD s.data.toList = .ok (l, q)) : (∀ e ∈ l, FitE (entB e)) ∧ l.length ≤ 65536 ∧ q ≤ s.size := by
  obtain ⟨h1, h2, h3, h4, h5, h6⟩ := read_ok h
  rw [sizeL] at h2 h5
  refine ⟨fun e he => ⟨(h3 e he).1, ?_⟩, h4, h2⟩
  have := data_le he
  show (bts e.2).size ≤ _
  rw [size_bts]
  omega
theorem row3_of {w : World} {B : Nat} {v : Value} {l : List EntL} (h : w.ownsRow B 82 3 v (l.map ent1).length (flatG cells3 (l.map ent1))) (hl : l.length ≤ 65536) (hf : ∀ e ∈ l, FitE (entB e)) : Row3 w v (l.map ent1) := by
  refine rowG_of_own cells3_len h (by simp; omega) ?_
  intro x hx
  obtain ⟨e, he, rfl⟩ := List.mem_map.1 hx
  exact hf e he

/-- What open answers, as a row. -/
theorem open_row (s : ByteArray) (w : World) (hs : s.size ≤ 140737488355328) :
    Calls Try.prog 29 #[.string s] w fun e w' => (∃ c : Nat, readD s.data.toList = .error c ∧ c ≠ 0 ∧ e = .returned (.tuple #[.slice none 0 0, .int .i64 0, .int .i64 (c : Int)]) ∧ Below w.heap.size w w')
      ∨ (∃ v l, ∃ q : Nat, readD s.data.toList = .ok (l, q) ∧ e = .returned (.tuple #[v, .int .i64 (q : Int), .int .i64 0]) ∧ Row3 w' v (l.map ent1) ∧ Below w.heap.size w w') := by
  refine (open_any s w hs).mono ?_
  rintro e w' ⟨v, p, c, rfl, h, hb⟩
  unfold OpI at h
  cases hE : readD s.data.toList with
  | error x =>
    rw [hE] at h
    obtain ⟨rfl, rfl, rfl⟩ := h
    exact Or.inl ⟨c, rfl, readD_err_code hE, rfl, hb⟩
  | ok x =>
    obtain ⟨l, q⟩ := x
    rw [hE] at h
    obtain ⟨h1, rfl, rfl⟩ := h
    obtain ⟨a1, a2, a3⟩ := fit_read hs hE
    exact Or.inr ⟨v, l, p, rfl, rfl, row3_of h1 a2 a1, hb⟩

theorem flat_next (l : List EntL) (k : Nat) (h : k < l.length) : flatG cellsE ((l.map entB).take (k + 1)) = flatG cellsE ((l.map entB).take k) ++ [.int .u64 ((l[k]).1 : Int), .string (bts (l[k]).2)] := by
  rw [List.take_succ_eq_append_getElem (by simpa using h), flatG_append, flatG_one]
  simp [cellsE, entB]

def DRead (s : ByteArray) (w' : World) (v : Value) (x : ByteArray) (c : Nat) : Prop :=
  match readD s.data.toList with
  | .error e => v = .slice none 0 0 ∧ x = { data := #[] } ∧ c = e
  | .ok (l, q) => RowE w' v (l.map entB) ∧ x = s.extract q s.size ∧ c = 0
theorem dread_err {s : ByteArray} {e : Nat} (h : readD s.data.toList = .error e) (w' : World) : DRead s w' (.slice none 0 0) { data := #[] } e := by
  unfold DRead; rw [h]; exact ⟨rfl, rfl, rfl⟩
theorem dread_ok {s : ByteArray} {l : List EntL} {q : Nat} (h : readD s.data.toList = .ok (l, q)) {w' : World} {v : Value} (hr : RowE w' v (l.map entB)) : DRead s w' v (s.extract q s.size) 0 := by
  unfold DRead; rw [h]; exact ⟨hr, rfl, rfl⟩

end Go.Proofs.Ytfjjigcghhohkaa

/-
  What dict.Find and dict.Keys do, over this seat's program.
-/
set_option linter.unusedVariables false
namespace Go.Proofs.Ytfjjigcghhohkaa
open Go.RowKit Go.Proofs.Num Go.Proofs.Dct

/-- A key's data, or none. -/
def seekE (ky : Nat) (l : List EntL) : List UInt8 × Nat := match l.find? (fun e => decide (e.1 = ky)) with
  | none => ([], 3)
  | some e => (e.2, 0)
theorem seek_nil (ky : Nat) : seekE ky [] = ([], 3) := rfl
theorem seek_hit {ky : Nat} {e : EntL} {r : List EntL} (h : e.1 = ky) : seekE ky (e :: r) = (e.2, 0) := by
  unfold seekE
  rw [List.find?_cons_of_pos (by simpa using h)]
theorem seek_miss {ky : Nat} {e : EntL} {r : List EntL} (h : e.1 ≠ ky) : seekE ky (e :: r) = seekE ky r := by
  unfold seekE
  rw [List.find?_cons_of_neg (by simpa using h)]
def findR (s : List UInt8) (ky : Nat) : List UInt8 × Nat := match readD s with
  | .error e => ([], e)
  | .ok (l, _) => seekE ky l

set_option maxHeartbeats 2000000 in
set_option maxRecDepth 100000 in
theorem dfind_any (s : ByteArray) (key : Nat) (w : World) (hs : s.size ≤ 140737488355328) (hky : key ≤ 18446744073709551615) :
    Calls Try.prog 15 #[.string s, .int .u64 (key : Int)] w fun e w' => e = .returned (.tuple #[.string (bts (findR s.data.toList key).1), .int .i64 ((findR s.data.toList key).2 : Int)]) ∧ Below w.heap.size w w' := by
  have HR0 := hide (open_row s w hs)
  go_enter Try.func15, Try.ntmps15
  go_wp2_with fail
  refine (unhide HR0).mono ?_
  rintro e w1 (⟨c, hE, hc, rfl, hb1⟩ | ⟨v, l, q, hE, rfl, hrow, hb1⟩)
  · have hne : ((c : Int) == 0) = false := by simp; omega
    have hfin : findR s.data.toList key = ([], c) := by unfold findR; rw [hE]
    have HF := hide hfin
    clear hE hc hfin HR0
    go_wp2
    go_ret2
    exact ⟨by rw [unhide HF]; rfl, hb1⟩
  · obtain ⟨a1, a2, a3⟩ := fit_read hs hE
    have hfin : findR s.data.toList key = seekE key l := by unfold findR; rw [hE]
    have HFT := hide a1
    have HF := hide hfin
    have HB1 := hide hb1
    have HR := hide hrow
    obtain ⟨ad, cap, hv, hrest⟩ := hrow
    subst hv
    rw [List.length_map] at *
    obtain ⟨T, hT⟩ : ∃ T, T = l.length := ⟨_, rfl⟩
    rw [← hT] at HR a2 ⊢
    have HTL := hide hT
    clear hE a1 hb1 hrest hT HR0 hfin
    go_wp2
    go_loopw [10, 22] (fun xe z wr => ∃ k : Nat, z = .int .i64 k ∧ k ≤ T ∧ Hid (seekE key l = seekE key (l.drop k)) ∧ Hid (Below w1.heap.size w1 wr)) (fun _ z _ => T - (intOf z).toNat)
    case atStart => exact ⟨0, rfl, Nat.zero_le _, hide rfl, hide (Below.refl _ _)⟩
    case round =>
      obtain ⟨k, rfl, hk, HS, HB⟩ := hrel
      by_cases hlt : k < T
      · have hlt1 : (k : Int) < (T : Int) := by omega
        have hkl : k < l.length := by have := unhide HTL; omega
        obtain ⟨b, off, cap', hv', hblt, hcell⟩ := RowG.at cells3_len ((unhide HR).below (unhide HB)) (j := k) (by simpa using hkl)
        injection hv' with e1 e2 e3
        subst e1
        have c0 := hcell 0 (by omega)
        have c1 := hcell 1 (by omega)
        have c2 := hcell 2 (by omega)
        have hfit : (l[k]).1 ≤ 18446744073709551615 ∧ (bts (l[k]).2).size ≤ 140737488355328 := unhide HFT l[k] (List.getElem_mem hkl)
        have hS := unhide HS
        rw [List.drop_eq_getElem_cons hkl] at hS
        simp only [List.getElem_map, cells3, ent1, List.getElem?_cons_succ, List.getElem?_cons_zero, Nat.add_zero] at c0 c1 c2
        have hzr := (unhide HB).size
        by_cases hkey : (l[k]).1 = key
        · rw [seek_hit hkey] at hS
          rw [hkey] at c0
          have HFF := hide ((unhide HF).trans hS)
          generalize (l[k]).2.length = nn at c2
          generalize hD : bts (l[k]).2 = D at c1 hfit
          have HD := hide hD
          have HCL := hide (fun W => clone_any D W (by have := hfit.2; omega))
          have HBA := hide (belows' (unhide HB1) ((unhide HB).alloc hzr (.cells #[.int .u64 (key : Int), .string D, .int .u64 (nn : Int)] 82)))
          clear hcell hfit e2 e3 hS HS hD hkey
          go_wp2_with fail
          refine (unhide HCL _).mono ?_
          rintro e w3 ⟨rfl, hb3⟩
          go_wp2
          go_ret2
          exact ⟨by rw [unhide HFF, ← unhide HD]; rfl, belows' (unhide HBA) hb3⟩
        · rw [seek_miss hkey] at hS
          have HSS := hide hS
          have hkb : (((l[k]).1 : Int) == (key : Int)) = false := by simp; omega
          have hkb2 := hfit.1
          generalize (l[k]).2.length = nn at c2
          generalize bts (l[k]).2 = D at c1
          generalize (l[k]).1 = ky at c0 hkb hkb2
          have HBA := hide ((unhide HB).alloc hzr (.cells #[.int .u64 (ky : Int), .string D, .int .u64 (nn : Int)] 82))
          clear hcell hfit e2 e3 hS HS hkey
          go_wp2
          exact ⟨⟨k + 1, by go_num, by omega, HSS, HBA⟩, by simp [intOf]; omega⟩
      · have hlt1 : ¬ (k : Int) < (T : Int) := by omega
        have hS := unhide HS
        rw [List.drop_of_length_le (by have := unhide HTL; omega), seek_nil] at hS
        have HFF := hide ((unhide HF).trans hS)
        have HBB := hide (belows' (unhide HB1) (unhide HB))
        clear hS HS HB
        go_wp2
        go_ret2
        exact ⟨by rw [unhide HFF]; rfl, unhide HBB⟩

def cellsU (n : Nat) : List Value := [.int .u64 (n : Int)]
theorem cellsU_len (n : Nat) : (cellsU n).length = 1 := rfl
abbrev RowU := RowG cellsU (fun n => n ≤ 18446744073709551615)
theorem flatU_next (l : List EntL) (k : Nat) (h : k < l.length) : flatG cellsU ((keysE l).take (k + 1)) = flatG cellsU ((keysE l).take k) ++ [.int .u64 ((l[k]).1 : Int)] := by
  rw [List.take_succ_eq_append_getElem (by simpa [keysE] using h), flatG_append, flatG_one]
  simp [cellsU, keysE]
def DKeys (s : ByteArray) (w' : World) (v : Value) (c : Nat) : Prop :=
  match readD s.data.toList with
  | .error e => v = .slice none 0 0 ∧ c = e
  | .ok (l, q) => RowU w' v (keysE l) ∧ c = 0
theorem dkeys_err {s : ByteArray} {e : Nat} (h : readD s.data.toList = .error e) (w' : World) : DKeys s w' (.slice none 0 0) e := by
  unfold DKeys; rw [h]; exact ⟨rfl, rfl⟩
theorem dkeys_ok {s : ByteArray} {l : List EntL} {q : Nat} (h : readD s.data.toList = .ok (l, q)) {w' : World} {v : Value} (hr : RowU w' v (keysE l)) : DKeys s w' v 0 := by
  unfold DKeys; rw [h]; exact ⟨hr, rfl⟩

end Go.Proofs.Ytfjjigcghhohkaa

/-
  What dict.Range does, over this seat's program.
-/
set_option linter.unusedVariables false
namespace Go.Proofs.Ytfjjigcghhohkaa
open Go.RowKit Go.Proofs.Num Go.Proofs.Dct

def inB (f t : Nat) (e : EntL) : Bool := decide (f ≤ e.1) && decide (e.1 ≤ t)
/-- The entries of a range among the first k. -/
def upB (f t : Nat) (l : List EntL) (k : Nat) : List Ent := ((l.take k).filter (inB f t)).map entB
theorem upB_in {f t : Nat} {l : List EntL} {k : Nat} (h : k < l.length) (hi : inB f t l[k] = true) : upB f t l (k + 1) = upB f t l k ++ [entB l[k]] := by
  unfold upB
  rw [List.take_succ_eq_append_getElem h, List.filter_append, List.map_append]
  simp [hi]
theorem upB_out {f t : Nat} {l : List EntL} {k : Nat} (h : k < l.length) (hi : inB f t l[k] = false) : upB f t l (k + 1) = upB f t l k := by
  unfold upB
  rw [List.take_succ_eq_append_getElem h, List.filter_append, List.map_append]
  simp [hi]
theorem upB_len (f t : Nat) (l : List EntL) (k : Nat) : (upB f t l k).length ≤ k := by
  unfold upB
  rw [List.length_map]
  have h1 := List.length_filter_le (inB f t) (l.take k)
  rw [List.length_take] at h1
  omega
def DRange (s : ByteArray) (f t : Nat) (w' : World) (v : Value) (c : Nat) : Prop :=
  match readD s.data.toList with
  | .error e => v = .slice none 0 0 ∧ c = e
  | .ok (l, q) => RowE w' v ((l.filter (inB f t)).map entB) ∧ c = 0
theorem drange_err {s : ByteArray} {f t e : Nat} (h : readD s.data.toList = .error e) (w' : World) : DRange s f t w' (.slice none 0 0) e := by
  unfold DRange; rw [h]; exact ⟨rfl, rfl⟩
theorem drange_ok {s : ByteArray} {f t : Nat} {l : List EntL} {q : Nat} (h : readD s.data.toList = .ok (l, q)) {w' : World} {v : Value} (hr : RowE w' v ((l.filter (inB f t)).map entB)) : DRange s f t w' v 0 := by
  unfold DRange; rw [h]; exact ⟨hr, rfl⟩

end Go.Proofs.Ytfjjigcghhohkaa

/-
  A builder at work beside a box of the call's own, over this seat's program.
-/
set_option linter.unusedVariables false
namespace Go.Proofs.Ytfjjigcghhohkaa
open Go.RowKit

set_option maxHeartbeats 2000000 in
set_option maxRecDepth 100000 in
theorem writeString_o (B b : Nat) (l : List UInt8) (s : ByteArray) (w : World) (h : Lib.IsBuilderF 54 5 B b (Lib.byteCells l) w) (hlen : l.length + s.size ≤ 140737488355328) (hBw : B ≤ w.heap.size) :
    Calls Try.prog 20 #[.pointer (some ⟨b, 0, none⟩), .string s] w fun e w' => e = .returned (.tuple #[.int .i64 s.size, .nilIface]) ∧ (Lib.IsBuilderF 54 5 B b (Lib.byteCells (l ++ s.data.toList)) w' ∧ Below B w w' ∧ Lib.OthersKept 5 (some b) w w') := by
  obtain ⟨i0, hi, hz0, hz1, hz2⟩ := info_parts bInfo
  have hll : (Lib.byteCells l).length = l.length := Lib.byteCells_length l
  go_enter Try.func20, Try.ntmps20
  go_wp2_with (go_at_call 33; refine (copyCheck_k B b (Lib.byteCells l) _ h).mono ?_)
  rintro e w1 ⟨rfl, h1, hb1, hk1⟩
  obtain ⟨hB, v, hbk, hown, hne⟩ := h1
  have c0 : w1.cell? ⟨b, 0, none⟩ = some (.pointer (some ⟨b, 0, none⟩)) := by rw [Lib.cell_of_heap hbk]; rfl
  have c1 : w1.cell? ⟨b, 1, none⟩ = some v := by rw [Lib.cell_of_heap hbk]; rfl
  go_wp2_with (at_builtin; refine Lib.wpList_append_own_stringF _ rfl _ _ 52 9 rfl B 5 i0 Try.underlying52 Try.underlying9 hi hz0 hz1 hz2 _ _ _ rfl hown s rfl ?c3 ?c4 ?c5 ?_)
  case c3 => unfold maxLen; omega
  case c4 => omega
  case c5 => have := hb1.size; omega
  intro v' w2 hown' hgrow _
  have hlt : b < w1.heap.size := by
    rcases Nat.lt_or_ge b w1.heap.size with h' | h'
    · exact h'
    · simp [Array.getElem?_eq_none h'] at hbk
  have hb2 : w2.heap[b]? = some (.cells #[.pointer (some ⟨b, 0, none⟩), v] 54 (0, 0)) := by
    rw [hgrow.block b hlt (fun e => hne e.symm)]
    exact hbk
  have d0 : w2.cell? ⟨b, 0, none⟩ = some (.pointer (some ⟨b, 0, none⟩)) := by rw [Lib.cell_of_heap hb2]; rfl
  have d1 : w2.cell? ⟨b, 1, none⟩ = some v := by rw [Lib.cell_of_heap hb2]; rfl
  have f1 : w2.frozen? ⟨b, 1, none⟩ = false := Lib.frozen_of_heap hb2 1
  obtain ⟨ao, n', cap, rfl⟩ : ∃ ao n' cap, v' = .slice ao n' cap := by
    rcases hown'.2 with ⟨hv, _⟩ | ⟨g, cap, cur, fz, hv, _⟩
    · exact ⟨_, _, _, hv⟩
    · exact ⟨_, _, _, hv⟩
  go_wp2
  go_ret2
  refine ⟨rfl, Or.inr ?_, ?_, (hk1.grown hgrow (Lib.ownsRowF_kind hown)).setCell ⟨b, 1, none⟩ rfl _⟩
  · have := Lib.BuilderAtF.put (T := 54) (e := 5) hB hb2 (bs' := Lib.byteCells l ++ Lib.strCells s) (by simpa [Lib.strCells_length, hll] using hown') (by decide)
    rw [strCells_eq, ← Lib.byteCells_append] at this
    exact this
  · exact (hb1.grown hgrow (by have := hb1.size; omega) (fun k hk => (hown.lt k hk).1)).setCell (p := ⟨b, 1, none⟩) hB _

/-- A builder at work beside a box. -/
structure WrX (u W : World) (k : Nat) (t : TypeId) (cs : Array Value) (l : List UInt8) : Prop where
  wr : Wr u W l
  box : Blk W k t cs
  ne : k ≠ u.heap.size

theorem Wr.lt {u W : World} {l : List UInt8} (h : Wr u W l) : u.heap.size < W.heap.size := by
  rcases h.isb with ⟨_, v, hbk, _⟩ | ⟨_, v, hbk, _⟩
  · exact (Array.getElem?_eq_some_iff.1 hbk).1
  · exact (Array.getElem?_eq_some_iff.1 hbk).1
theorem WrX.new {u W : World} {l : List UInt8} (h : Wr u W l) (t : TypeId) (cs : Array Value) : WrX u (W.alloc (.cells cs t)) W.heap.size t cs l :=
  ⟨h.below ((Below.refl _ W).alloc (Nat.le_refl _) _), Blk.new W t cs, by have := h.lt; omega⟩
theorem WrX.below {u W W' : World} {k : Nat} {t : TypeId} {cs : Array Value} {l : List UInt8} (h : WrX u W k t cs l) (hb : Below W.heap.size W W') : WrX u W' k t cs l :=
  ⟨h.wr.below hb, h.box.below hb, h.ne⟩
theorem xStr {u W : World} {k : Nat} {t : TypeId} {cs : Array Value} {l : List UInt8} (h : WrX u W k t cs l) (ht : t ≠ 5) (s : ByteArray) (hl : l.length + s.size ≤ 140737488355328) :
    Calls Try.prog 20 #[.pointer (some ⟨u.heap.size, 0, none⟩), .string s] W fun e w' => e = .returned (.tuple #[.int .i64 s.size, .nilIface]) ∧ WrX u w' k t cs (l ++ s.data.toList) := by
  refine (writeString_o u.heap.size u.heap.size l s W h.wr.isb hl h.wr.bel.size).mono ?_
  rintro e w' ⟨rfl, h1, h2, h3⟩
  exact ⟨rfl, ⟨h1, h.wr.bel.trans h2⟩, h3 k _ h.box (by simpa using h.ne) (fun c fz e => by simp at e; exact ht e.2.1), h.ne⟩
theorem yStr {u W : World} {l : List UInt8} (h : Wr u W l) (s : ByteArray) (hl : l.length + s.size ≤ 140737488355328) :
    Calls Try.prog 20 #[.pointer (some ⟨u.heap.size, 0, none⟩), .string s] W fun e w' => e = .returned (.tuple #[.int .i64 s.size, .nilIface]) ∧ Wr u w' (l ++ s.data.toList) := by
  refine (writeString_k u.heap.size u.heap.size l s W h.isb hl h.bel.size).mono ?_
  rintro e w' ⟨rfl, h1, h2⟩
  exact ⟨rfl, h1, h.bel.trans h2⟩
end Go.Proofs.Ytfjjigcghhohkaa

/-
  What dict.Write does, over this seat's program.
-/
set_option linter.unusedVariables false
namespace Go.Proofs.Ytfjjigcghhohkaa
open Go.RowKit Go.Proofs.Num Go.Proofs.Dct

theorem keys_at (l : List Ent) (j : Nat) (h : j < l.length) : (keysE (l.map lstE))[j]'(by simpa [keysE] using h) = (l[j]).1 := by simp [keysE, lstE]
theorem keys_len (l : List Ent) : (keysE (l.map lstE)).length = l.length := by simp [keysE]
theorem datas_take (l : List EntL) (k : Nat) : (datas (l.take k)).length ≤ (datas l).length := by
  induction l generalizing k with
  | nil => simp
  | cons e r ih =>
    cases k with
    | zero => simp [datas]
    | succ k => rw [List.take_succ_cons, datas_cons, datas_cons, List.length_append, List.length_append]; have := ih k; omega
theorem sz_next (l : List Ent) (k : Nat) (h : k < l.length) : ((l.map lstE).map szE).take (k + 1) = ((l.map lstE).map szE).take k ++ [((l[k]).1, (l[k]).2.size)] := by
  rw [List.take_succ_eq_append_getElem (by simpa using h)]
  simp only [List.getElem_map, szE, lstE, sizeL]
theorem dat_next (l : List Ent) (k : Nat) (h : k < l.length) : datas ((l.map lstE).take (k + 1)) = datas ((l.map lstE).take k) ++ (l[k]).2.data.toList := by
  rw [List.take_succ_eq_append_getElem (by simpa using h), datas_snoc]
  simp [lstE]

set_option maxHeartbeats 4000000 in
set_option maxRecDepth 100000 in
theorem dwrite_any (v : Value) (l : List Ent) (w : World) (h : RowE w v l) (htot : (datas (l.map lstE)).length ≤ 1099511627776) :
    Calls Try.prog 14 #[v] w fun e w' => e = .returned (.tuple #[.string (bts (writeD (l.map lstE)).1), .int .i64 ((writeD (l.map lstE)).2 : Int)]) ∧ Below w.heap.size w w' := by
  have HR := hide h
  have HTOT := hide htot
  clear htot
  obtain ⟨a, cap, hv, hl4, hfit, hrest⟩ := h
  subst hv
  have HFT := hide hfit
  obtain ⟨T, hT⟩ : ∃ T, T = l.length := ⟨_, rfl⟩
  rw [← hT] at HR hl4 ⊢
  have HTL := hide hT
  clear hrest hT hfit
  go_enter Try.func14, Try.ntmps14
  go_wp2
  go_loopw [4] (fun z wr => ∃ k q : Nat, z = .int .i64 ((k + 1 : Nat) : Int) ∧ (k + 1 ≤ T ∨ k = 0) ∧ Hid (∀ (j : Nat) (h : j + 1 < l.length), j + 1 ≤ k → (l[j]).1 < (l[j + 1]).1) ∧ Hid (wr = w.drewN q)) (fun z _ => T + 1 - (intOf z).toNat)
  case atStart => exact ⟨0, 0, rfl, Or.inr rfl, hide (fun j h hj => by omega), hide rfl⟩
  case round =>
    obtain ⟨k, q, rfl, hk, HA, HQ⟩ := hrel
    have hQ := unhide HQ
    subst hQ
    by_cases hlt : k + 1 < T
    · have hlt1 : ((k + 1 : Nat) : Int) < (T : Int) := by omega
      have hbw : Below w.heap.size w (w.drewN q) := below_drewN (Below.refl _ _) q
      have hkl : k + 1 < l.length := by have := unhide HTL; omega
      obtain ⟨b, off, cap', hv', hblt, hcell⟩ := RowG.at cellsE_len ((unhide HR).below hbw) (j := k + 1) hkl
      obtain ⟨b2, off2, cap2, hv2, hblt2, hcell2⟩ := RowG.at cellsE_len ((unhide HR).below hbw) (j := k) (by omega)
      injection hv' with e1 e2 e3
      subst e1
      injection hv2 with e4 e5 e6
      injection e4 with e7
      injection e7 with e8 e9
      subst e8 e9
      have c0 := hcell 0 (by omega)
      have d0 := hcell2 0 (by omega)
      simp only [cellsE, List.getElem?_cons_zero, Nat.add_zero] at c0 d0
      clear e2 e3 e5 e6 hcell hcell2 hblt2
      have hx := (unhide HFT l[k + 1] (List.getElem_mem hkl)).1
      have hy := (unhide HFT l[k] (List.getElem_mem (by omega))).1
      have HBW := hide hbw
      clear hbw
      by_cases hle : (l[k + 1]).1 ≤ (l[k]).1
      · have hfin : writeD (l.map lstE) = ([], 12) := by
          apply writeD_order
          rw [rises_iff]
          rintro ⟨_, h2⟩
          have := h2 k (by rw [keys_len]; exact hkl)
          rw [keys_at l k (by omega), keys_at l (k + 1) hkl] at this
          omega
        have HF := hide hfin
        generalize (l[k + 1]).1 = x at c0 hx hle
        generalize (l[k]).1 = y at d0 hy hle
        have hlei : (x : Int) ≤ (y : Int) := by omega
        clear hfin HA hk hle HQ
        generalize w.drewN q = W at *
        go_wp2
        go_quiet (fail)
        go_wp2
        go_ret2
        exact ⟨by rw [unhide HF]; rfl, below_drewN (unhide HBW) _⟩
      · have hA9 : ∀ (j : Nat) (h : j + 1 < l.length), j + 1 ≤ k + 1 → (l[j]).1 < (l[j + 1]).1 := by
          intro j h hj
          by_cases hjk : j = k
          · subst hjk; omega
          · exact unhide HA j h (by omega)
        have HA9 := hide hA9
        generalize (l[k + 1]).1 = x at c0 hx hle
        generalize (l[k]).1 = y at d0 hy hle
        have hlei : ¬ (x : Int) ≤ (y : Int) := by omega
        clear hA9 HA hk hle HQ HBW
        obtain ⟨W, hW⟩ : ∃ W, W = w.drewN q := ⟨_, rfl⟩
        rw [← hW] at c0 d0 hblt ⊢
        have HW := hide hW
        clear hW
        go_wp2
        go_quiet (fail)
        go_wp2
        exact ⟨⟨k + 1, q + nq, by go_num, by omega, HA9, hide (by rw [unhide HW]; simp)⟩, by simp [intOf]; omega⟩
    · have hlt1 : ¬ ((k + 1 : Nat) : Int) < (T : Int) := by omega
      have hris : rises 0 (keysE (l.map lstE)) = true := by
        rw [rises_iff]
        refine ⟨fun _ => Nat.zero_le _, fun j hj => ?_⟩
        rw [keys_len] at hj
        rw [keys_at l j (by omega), keys_at l (j + 1) hj]
        exact unhide HA j hj (by have := unhide HTL; omega)
      have HRS := hide hris
      by_cases h6 : 65536 < T
      · have hfin : writeD (l.map lstE) = ([], 15) := writeD_long hris (by have := unhide HTL; rw [List.length_map]; omega)
        have HF := hide hfin
        have h6i : (65536 : Int) < (T : Int) := by omega
        clear hris hfin HA hk HQ
        go_wp2
        go_ret2
        exact ⟨by rw [unhide HF]; rfl, below_drewN (Below.refl _ _) q⟩
      · have h6i : ¬ (65536 : Int) < (T : Int) := by omega
        have hfin : writeD (l.map lstE) = (putL T ++ (heads 0 ((l.map lstE).map szE) ++ datas (l.map lstE)), 0) := by
          have h1 := writeD_done hris (by have := unhide HTL; rw [List.length_map]; omega)
          rw [List.length_map, ← unhide HTL] at h1
          exact h1
        have HF := hide hfin
        have hT10 := putL_len10 (n := T) (by omega)
        have HPT := hide (fun W => put_any T W (by omega))
        have HT10 := hide hT10
        have HRW : Hid (RowE (w.drewN q) (.slice a T cap) l) := hide ((unhide HR).below (below_drewN (Below.refl _ _) q))
        have HBW : Hid (Below w.heap.size w (w.drewN q)) := hide (below_drewN (Below.refl _ _) q)
        clear hris hfin HA hk HQ hT10 HR
        generalize w.drewN q = u at HRW HBW ⊢
        have HW0 := hide (Wr.new u)
        go_wp2_with fail
        refine (unhide HPT _).mono ?_
        rintro e W1 ⟨rfl, hb⟩
        have HW1 := hide ((unhide HW0).below hb)
        clear hb HW0 HPT
        go_wp2_with fail
        refine (yStr (unhide HW1) (bts (putL T)) (by rw [size_bts]; have := unhide HT10; simp; omega)).mono ?_
        rintro e W2 ⟨rfl, h2⟩
        rw [toList_bts, List.nil_append] at h2
        have HW2 := hide h2
        clear h2 HW1
        go_wp2
        go_loopw [6, 8, 39] (fun x xe z wr => ∃ (k m : Nat) (acc : List UInt8), z = .int .i64 k ∧ x = .int .u64 m ∧ k ≤ T ∧ Hid (m = lastL 0 (((l.map lstE).map szE).take k) % 18446744073709551616) ∧ Hid (acc = putL T ++ heads 0 (((l.map lstE).map szE).take k)) ∧ acc.length ≤ 10 + 20 * k ∧ Hid (Wr u wr acc)) (fun _ _ z _ => T - (intOf z).toNat)
        case atStart => exact ⟨0, 0, putL T, rfl, rfl, Nat.zero_le _, hide (by simp [lastL_nil]), hide (by simp [heads]), by have := unhide HT10; omega, HW2⟩
        case round =>
          obtain ⟨k, m, acc, rfl, rfl, hk, HM, HA, hal, HW⟩ := hrel
          by_cases hlt : k < T
          · have hlt1 : (k : Int) < (T : Int) := by omega
            have hkl : k < l.length := by have := unhide HTL; omega
            obtain ⟨b, off, cap', hv', hblt, hcell⟩ := RowG.at cellsE_len ((unhide HRW).below (unhide HW).bel) (j := k) hkl
            injection hv' with e1 e2 e3
            subst e1
            have c0 := hcell 0 (by omega)
            have c1 := hcell 1 (by omega)
            simp only [cellsE, List.getElem?_cons_zero, List.getElem?_cons_succ, Nat.add_zero] at c0 c1
            clear e2 e3 hcell
            have hx := (unhide HFT l[k] (List.getElem_mem hkl)).1
            have hy := (unhide HFT l[k] (List.getElem_mem hkl)).2
            have hnx := sz_next l k hkl
            have hlast : lastL 0 (((l.map lstE).map szE).take k) ≤ (l[k]).1 := by
              have h1 := rises_take (unhide HRS) (k + 1)
              have h2 : (keysE (l.map lstE)).take (k + 1) = (((l.map lstE).map szE).take k ++ [((l[k]).1, (l[k]).2.size)]).map (·.1) := by
                rw [← hnx, List.map_take, keys_sz]
              rw [h2] at h1
              exact rises_last h1
            have hm := unhide HM
            rw [Nat.mod_eq_of_lt (by omega)] at hm
            rw [← hm] at hlast
            have hA9 : acc ++ (putL ((l[k]).1 - m) ++ putL (l[k]).2.size) = putL T ++ heads 0 (((l.map lstE).map szE).take (k + 1)) := by
              rw [hnx, heads_snoc, ← hm, unhide HA]
              simp
            have hM9 : lastL 0 (((l.map lstE).map szE).take (k + 1)) = (l[k]).1 + 1 := by rw [hnx, lastL_snoc]
            have HA9 := hide hA9
            have HM9 := hide hM9
            clear hA9 hM9 hnx hm HM HA
            generalize (l[k]).1 = ky at c0 hx hlast HA9 HM9
            generalize (l[k]).2 = D at c1 hy HA9
            have p1 := putL_len10 (n := ky - m) (by omega)
            have p2 := putL_len10 (n := D.size) (by omega)
            have HP12 := hide (And.intro p1 p2)
            have hsub : (ky : Int) - (m : Int) = ((ky - m : Nat) : Int) := by omega
            have HP1 := hide (fun W => put_any (ky - m) W (by omega))
            have HP2 := hide (fun W => put_any D.size W (by omega))
            have HX0 := hide (WrX.new (unhide HW) 44 #[.int .u64 (ky : Int), .string D])
            have hkyi : (ky : Int) ≤ 18446744073709551615 := by omega
            have hmki : (m : Int) ≤ (ky : Int) := by omega
            have hne8 : 44 ≠ 5 := by decide
            clear p1 p2 HW
            go_wp2_with fail
            generalize wr.alloc (.cells #[.int .u64 (ky : Int), .string D] 44) = V0 at HX0 ⊢
            refine (unhide HP1 _).mono ?_
            rintro e V1 ⟨rfl, hb⟩
            have HX1 := hide ((unhide HX0).below hb)
            clear hb HX0 HP1
            go_wp2_with fail
            refine (xStr (unhide HX1) hne8 (bts (putL (ky - m))) (by rw [size_bts]; have := (unhide HP12).1; omega)).mono ?_
            rintro e V2 ⟨rfl, h2⟩
            rw [toList_bts] at h2
            have d0 : V2.cell? ⟨wr.heap.size, 0, none⟩ = some (.int .u64 (ky : Int)) := (Blk.cell h2.box 0).trans rfl
            have d1 : V2.cell? ⟨wr.heap.size, 1, none⟩ = some (.string D) := (Blk.cell h2.box 1).trans rfl
            have HX2 := hide h2
            clear h2 HX1 c0 c1
            go_wp2_with fail
            refine (unhide HP2 _).mono ?_
            rintro e V3 ⟨rfl, hb⟩
            have HX3 := hide ((unhide HX2).below hb)
            clear hb HX2 HP2 d0 d1
            go_wp2_with fail
            refine (xStr (unhide HX3) hne8 (bts (putL D.size)) (by rw [size_bts, List.length_append]; have := (unhide HP12).1; have := (unhide HP12).2; omega)).mono ?_
            rintro e V4 ⟨rfl, h4⟩
            rw [toList_bts, List.append_assoc] at h4
            have d0 : V4.cell? ⟨wr.heap.size, 0, none⟩ = some (.int .u64 (ky : Int)) := (Blk.cell h4.box 0).trans rfl
            have HX4 := hide h4.wr
            clear h4 HX3
            have hal9 : (acc ++ (putL (ky - m) ++ putL D.size)).length ≤ 10 + 20 * (k + 1) := by
              have h1 := (unhide HP12).1
              have h2 := (unhide HP12).2
              rw [List.length_append, List.length_append]
              omega
            by_cases hmax : ky = 18446744073709551615
            · subst hmax
              clear hsub
              go_wp2
              exact ⟨⟨k + 1, 0, _, by go_num, rfl, by omega, hide (by rw [unhide HM9]), HA9, hal9, HX4⟩, by simp [intOf]; omega⟩
            · have hmx : (ky : Int) + 1 ≤ 18446744073709551615 := by omega
              clear hsub
              go_wp2
              exact ⟨⟨k + 1, ky + 1, _, by go_num, by go_num, by omega, hide (by rw [unhide HM9, Nat.mod_eq_of_lt (by omega)]), HA9, hal9, HX4⟩, by simp [intOf]; omega⟩
          · have hlt1 : ¬ (k : Int) < (T : Int) := by omega
            have hacc : acc = putL T ++ heads 0 ((l.map lstE).map szE) := by
              rw [unhide HA, List.take_of_length_le (by have := unhide HTL; simp; omega)]
            have hal2 : acc.length ≤ 1310730 := by omega
            have HAC := hide hacc
            clear hacc HM HA hal
            go_wp2
            go_loopw [10, 61] (fun xe z wr => ∃ (k : Nat) (ac : List UInt8), z = .int .i64 k ∧ k ≤ T ∧ Hid (ac = acc ++ datas ((l.map lstE).take k)) ∧ ac.length ≤ 1099512938506 ∧ Hid (Wr u wr ac)) (fun _ z _ => T - (intOf z).toNat)
            case atStart => exact ⟨0, acc, rfl, Nat.zero_le _, hide (by simp [datas]), by omega, HW⟩
            case round =>
              obtain ⟨k, ac, rfl, hk, HA, hal, HW⟩ := hrel
              by_cases hlt : k < T
              · have hlt1 : (k : Int) < (T : Int) := by omega
                have hkl : k < l.length := by have := unhide HTL; omega
                obtain ⟨b, off, cap', hv', hblt, hcell⟩ := RowG.at cellsE_len ((unhide HRW).below (unhide HW).bel) (j := k) hkl
                injection hv' with e1 e2 e3
                subst e1
                have c0 := hcell 0 (by omega)
                have c1 := hcell 1 (by omega)
                simp only [cellsE, List.getElem?_cons_zero, List.getElem?_cons_succ, Nat.add_zero] at c0 c1
                clear e2 e3 hcell
                have hy := (unhide HFT l[k] (List.getElem_mem hkl)).2
                have hnx := dat_next l k hkl
                have hA9 : ac ++ (l[k]).2.data.toList = acc ++ datas ((l.map lstE).take (k + 1)) := by rw [hnx, unhide HA, List.append_assoc]
                have HA9 := hide hA9
                have hal9 : (ac ++ (l[k]).2.data.toList).length ≤ 1099512938506 := by
                  rw [hA9, List.length_append]
                  have h1 := datas_take (l.map lstE) (k + 1)
                  have h2 := unhide HTOT
                  omega
                have HAL := hide hal9
                have hsD := sizeL (l[k]).2
                rw [List.length_append, hsD] at hal9
                generalize (l[k]).1 = ky at c0
                generalize (l[k]).2 = D at c1 hy HA9 HAL hal9
                have HX0 := hide (WrX.new (unhide HW) 44 #[.int .u64 (ky : Int), .string D])
                have hne8 : 44 ≠ 5 := by decide
                clear HW HA hnx hA9 hsD
                go_wp2_with fail
                generalize wr.alloc (.cells #[.int .u64 (ky : Int), .string D] 44) = V0 at HX0 ⊢
                refine (xStr (unhide HX0) hne8 D (by omega)).mono ?_
                rintro e V2 ⟨rfl, h2⟩
                have HX2 := hide h2.wr
                clear h2 HX0 c0 c1
                go_wp2
                exact ⟨⟨k + 1, _, by go_num, by omega, HA9, unhide HAL, HX2⟩, by simp [intOf]; omega⟩
              · have hlt1 : ¬ (k : Int) < (T : Int) := by omega
                have hac : ac = putL T ++ (heads 0 ((l.map lstE).map szE) ++ datas (l.map lstE)) := by
                  rw [unhide HA, unhide HAC, List.take_of_length_le (by have := unhide HTL; simp; omega), List.append_assoc]
                have HFF : Hid (writeD (l.map lstE) = (ac, 0)) := hide (by rw [unhide HF, hac])
                have HST := hide (Try.Builder_String_any_k u.heap.size u.heap.size ac wr (unhide HW).isb (unhide HW).bel.size)
                have HBB := hide ((unhide HBW).trans ((unhide HW).bel.mono (unhide HBW).size))
                have hzu := (unhide HBW).size
                clear hac HA HAC HW HF
                go_wp2_with fail
                refine (unhide HST).mono ?_
                rintro e w2 ⟨rfl, _, hb2, _⟩
                go_wp2
                go_ret2
                exact ⟨by rw [unhide HFF]; rfl, (unhide HBB).trans (hb2.mono hzu)⟩
end Go.Proofs.Ytfjjigcghhohkaa

/-
  What missivetop.begins does, over this seat's program: it answers true.
-/
set_option linter.unusedVariables false
namespace Go.Proofs.Ytfjjigcghhohkaa
open Go.RowKit Go.Proofs.Num

theorem put_300 (w : World) : Calls Try.prog 21 #[.int .u64 300] w fun e w' => e = .returned (.string { data := #[172, 2] }) ∧ Below w.heap.size w w' := by
  have h := put_any 300 w (by decide)
  rw [show putL 300 = [172, 2] by rw [putL_big (by decide), putL_small (by decide)]; rfl] at h
  exact h
theorem get_300 (w : World) : Calls Try.prog 28 #[.string { data := #[172, 2, 120] }] w fun e w' => e = .returned (.tuple #[.int .u64 300, .string { data := #[120] }, .int .i64 0]) ∧ Below w.heap.size w w' := by
  have h := get_any { data := #[172, 2, 120] } w (by decide)
  rw [show scanL (ByteArray.mk #[172, 2, 120]).data.toList = (300, 2, 0) by decide +kernel, show restOf { data := #[172, 2, 120] } = { data := #[120] } by decide +kernel] at h
  exact h

set_option maxHeartbeats 400000 in
theorem begins_any (w : World) : Calls Try.prog 13 #[] w fun e w' => e = .returned (.bool true) ∧ Below w.heap.size w w' := by
  go_enter Try.func13, Try.ntmps13
  go_wp2_with fail
  refine (put_300 _).mono ?_
  rintro e w1 ⟨rfl, b1⟩
  go_wp2_with fail
  rw [show (({ data := #[172, 2] } : ByteArray) ++ { data := #[120] }) = { data := #[172, 2, 120] } by decide +kernel]
  refine (get_300 _).mono ?_
  rintro e w2 ⟨rfl, b2⟩
  go_wp2
  go_ret
  exact ⟨rfl, belows' b1 b2⟩
end Go.Proofs.Ytfjjigcghhohkaa

/-
  What missivetop.same does, and the walk of missivetop.TopPosted, over this seat's program.
-/
set_option linter.unusedVariables false
namespace Go.Proofs.Ytfjjigcghhohkaa
open Go.RowKit Go.Proofs.Num Go.Proofs.Dct Go.Proofs.Pna Go.Proofs.Pst

set_option maxHeartbeats 400000 in
theorem sameT_len (a b : Option Addr) (n m c d : Nat) (w : World) (h : n ≠ m) :
    Calls Try.prog 17 #[.slice a n c, .slice b m d] w fun e w' => e = .returned (.bool false) ∧ Below w.heap.size w w' := by
  have hb : ((n : Int) == (m : Int)) = false := by simp; omega
  go_enter Try.func17, Try.ntmps17
  go_wp2
  go_ret
  exact ⟨rfl, Below.refl _ _⟩

set_option maxHeartbeats 1000000 in
set_option maxRecDepth 100000 in
theorem sameT_any (v v' : Value) (l r : List Nat) (w : World) (h : Row32 w v l) (h' : Row32 w v' r) :
    Calls Try.prog 17 #[v, v'] w fun e w' => e = .returned (.bool (decide (l = r))) ∧ Below w.heap.size w w' := by
  have HR := hide h
  have HR' := hide h'
  obtain ⟨a, cap, rfl, hl, hn, _⟩ := h
  obtain ⟨a', cap', rfl, hl', hn', _⟩ := h'
  by_cases hlr : l.length = r.length
  · have HLR := hide hlr
    rw [← hlr]
    rw [← hlr] at HR' hl'
    obtain ⟨T, hT⟩ : ∃ T, T = l.length := ⟨_, rfl⟩
    rw [← hT] at HR HR' hl ⊢
    have HTL := hide hT
    clear hT hlr hl' hn hn'
    go_enter Try.func17, Try.ntmps17
    go_wp2
    go_loopw [5, 13] (fun x z wr => ∃ k : Nat, z = .int .i64 k ∧ k ≤ T ∧ Hid (l.take k = r.take k) ∧ Hid (Below w.heap.size w wr)) (fun _ z _ => T - (intOf z).toNat)
    case atStart => exact ⟨0, rfl, Nat.zero_le _, hide rfl, hide (Below.refl _ _)⟩
    case round =>
      obtain ⟨k, rfl, hk, HT, HB⟩ := hrel
      by_cases hlt : k < T
      · have hlt1 : (k : Int) < (T : Int) := by omega
        have hkl : k < l.length := by have := unhide HTL; omega
        have hkr : k < r.length := by have := unhide HTL; have := unhide HLR; omega
        obtain ⟨b, off, cp, hv1, hblt, hcell⟩ := RowG.at cells32_len ((unhide HR).below (unhide HB)) (j := k) hkl
        obtain ⟨b2, off2, cp2, hv2, hblt2, hcell2⟩ := RowG.at cells32_len ((unhide HR').below (unhide HB)) (j := k) hkr
        injection hv1 with e1 e2 e3
        injection hv2 with e4 e5 e6
        subst e1 e4
        have c0 := hcell 0 (by omega)
        have d0 := hcell2 0 (by omega)
        simp only [cells32, List.getElem?_cons_zero, Nat.add_zero] at c0 d0
        (try simp only [Nat.mul_one] at c0 d0)
        clear e2 e3 e5 e6 hcell hcell2
        have hnx := takeG_next hkl hkr
        by_cases he : l[k] = r[k]
        · have HN := hide (hnx.2 ⟨unhide HT, he⟩)
          have q0 : ((l[k] : Int) == (r[k] : Int)) = true := by rw [he]; simp
          clear hnx he HT
          generalize l[k] = x0 at c0 q0
          generalize r[k] = y0 at d0 q0
          go_wp2
          go_quiet (fail)
          go_wp2
          exact ⟨⟨k + 1, by go_num, by omega, HN, hide (below_drewN (unhide HB) _)⟩, by simp [intOf]; omega⟩
        · have hfin : decide (l = r) = false := by
            rw [decide_eq_false_iff_not]
            intro h
            subst h
            exact he rfl
          have HF := hide hfin
          clear hfin hnx HT
          have g0 : ¬ l[k] = r[k] := fun g0 => he g0
          have q0 : ((l[k] : Int) == (r[k] : Int)) = false := by simp; omega
          clear he g0
          generalize l[k] = x0 at c0 q0
          generalize r[k] = y0 at d0 q0
          go_wp2
          go_quiet (fail)
          go_wp2
          go_ret
          exact ⟨by rw [unhide HF]; rfl, below_drewN (unhide HB) _⟩
      · have hlt1 : ¬ (k : Int) < (T : Int) := by omega
        have hfin : decide (l = r) = true := by
          rw [decide_eq_true_iff]
          have h1 := unhide HT
          have h2 := unhide HLR
          have h3 := unhide HTL
          rw [List.take_of_length_le (by omega), List.take_of_length_le (by omega)] at h1
          exact h1
        have HF := hide hfin
        clear hfin
        go_wp2
        go_ret
        exact ⟨by rw [unhide HF]; rfl, unhide HB⟩
  · have : decide (l = r) = false := by
      rw [decide_eq_false_iff_not]
      intro h
      exact hlr (by rw [h])
    rw [this]
    exact sameT_len a a' _ _ cap cap' w hlr

/-- Two lists of bytes in a dictionary, each found by its key. -/
theorem two_ent (pa pb : List UInt8) (ha : pa.length ≤ 1048576) (hb : pb.length ≤ 1048576) : ∃ t, writeD [(3, pa), (9, pb)] = (t, 0) ∧ t.length ≤ 4194304 ∧ findR t 3 = (pa, 0) ∧ findR t 9 = (pb, 0) := by
  obtain ⟨t, k, htk⟩ : ∃ t k, writeD [(3, pa), (9, pb)] = (t, k) := ⟨_, _, rfl⟩
  have hk : k = 0 := by
    have h1 : (writeD [(3, pa), (9, pb)]).2 = 0 := by
      unfold writeD
      rw [if_pos (by simp [rises, keysE]), if_pos (by simp)]
    rw [htk] at h1
    exact h1
  subst hk
  have hf : FitL [(3, pa), (9, pb)] := by
    intro e he
    simp only [List.mem_cons, List.not_mem_nil, or_false] at he
    rcases he with rfl | rfl <;> exact ⟨by simp, by simp only; omega⟩
  have hrd := read_written [] hf htk
  rw [List.append_nil] at hrd
  refine ⟨t, htk, ?_, ?_, ?_⟩
  · obtain ⟨_, _, rfl⟩ := write_ok htk
    have h3 := heads_append_len 0 ([(3, pa), (9, pb)].map szE) (fit_sz hf)
    have h5 := putL_len10 (n := [(3, pa), (9, pb)].length) (by simp)
    simp only [List.length_append, datas_cons, List.length_map, List.length_cons, List.length_nil] at h3 h5 ⊢
    simp only [datas, List.flatMap_nil, List.length_nil]
    omega
  · unfold findR
    rw [hrd]
    exact seek_hit rfl
  · unfold findR
    rw [hrd]
    show seekE 9 [(3, pa), (9, pb)] = _
    rw [seek_miss (by simp)]
    exact seek_hit rfl
theorem and_zero {a b : List Nat} (ha : chk a = 0) (hb : chk b = 0) : andR [a, b] = (pickL a b true, 0) := by
  have h : chkAll [a, b] = 0 := by simp [chkAll, ha, hb]
  unfold andR
  rw [if_neg (by omega)]
  rfl
theorem take_mem {l : List Nat} {k : Nat} (h : k < l.length) (n : Nat) : decide (n ∈ l.take (k + 1)) = (decide (n ∈ l.take k) || ((l[k] : Int) == (n : Int))) := by
  rw [List.take_succ_eq_append_getElem h, Bool.eq_iff_iff]
  simp only [decide_eq_true_eq, Bool.or_eq_true, beq_iff_eq, List.mem_append, List.mem_singleton]
  constructor
  · rintro (h1 | h1)
    · exact .inl h1
    · exact .inr (by rw [h1])
  · rintro (h1 | h1)
    · exact .inl h1
    · exact .inr (by omega)

/-- What is told of a packed list. -/
theorem unpackP_any (a : List Nat) (W : World) (hc : chk a = 0) (hf : ∀ x ∈ a, x ≤ 4294967295) :
    Calls Try.prog 8 #[.string (bts (packL a))] W fun e w' => (∃ ad cap, e = .returned (.tuple #[.slice ad a.length cap, .string ⟨#[]⟩, .int .i64 0]) ∧ a.length ≤ cap ∧ Row32 w' (.slice ad a.length cap) a) ∧ Below W.heap.size W w' := by
  obtain ⟨hri, hl6⟩ := chk_rise hc
  obtain ⟨hf1, hf2, hf3⟩ := readS_pack (d := []) hri hf hl6
  rw [List.append_nil] at hf1 hf2 hf3
  have hpl := packL_len hf hl6
  have h := unpackT_any (bts (packL a)) W (by rw [size_bts]; omega)
  rw [toList_bts, hf1, hf2, hf3] at h
  refine h.mono ?_
  rintro e w' ⟨hr, hb⟩
  refine ⟨?_, hb⟩
  rcases hr with ⟨_, ad, cap, d, rfl, hcp, hrow, hd⟩ | ⟨h0, _⟩
  · have hd' : d = ⟨#[]⟩ := by
      apply ext_list
      rw [hd, List.drop_length]
    subst hd'
    exact ⟨ad, cap, rfl, hcp, hrow⟩
  · exact absurd rfl h0
theorem hasP_any (a : List Nat) (n : Nat) (W : World) (hn : n ≤ 4294967295) (hc : chk a = 0) (hf : ∀ x ∈ a, x ≤ 4294967295) :
    Calls Try.prog 11 #[.string (bts (packL a)), .int .u32 (n : Int)] W fun e w' => e = .returned (.tuple #[.bool (decide (n ∈ a)), .int .i64 0]) ∧ Below W.heap.size W w' := by
  obtain ⟨hri, hl6⟩ := chk_rise hc
  obtain ⟨hf1, hf2, hf3⟩ := readS_pack (d := []) hri hf hl6
  rw [List.append_nil] at hf1 hf2 hf3
  have hpl := packL_len hf hl6
  have h := hasS_any (bts (packL a)) n W hn (by rw [size_bts]; omega)
  rw [toList_bts, hf1] at h
  refine h.mono ?_
  rintro e w' ⟨h1, _, hb⟩
  exact ⟨h1 hf2, hb⟩
end Go.Proofs.Ytfjjigcghhohkaa

/-
  The walk of missivetop.TopPosted, over this seat's program.
-/
set_option linter.unusedVariables false
namespace Go.Proofs.Ytfjjigcghhohkaa
open Go.RowKit Go.Proofs.Num Go.Proofs.Dct Go.Proofs.Pna Go.Proofs.Pst

set_option maxHeartbeats 4000000 in
set_option maxRecDepth 100000 in
theorem topPosted_walk (aa ab : Option Addr) (a b : List Nat) (ca cb n : Nat) (w : World) (ha : Row32 w (.slice aa a.length ca) a) (hb : Row32 w (.slice ab b.length cb) b) (hca : a.length ≤ ca) (hcb : b.length ≤ cb) (hn : n ≤ 4294967295) :
    Calls Try.prog 5 #[.slice aa a.length ca, .slice ab b.length cb, .int .u32 (n : Int)] w fun e w' => e = .returned (.bool true) ∧ Below w.heap.size w w' := by
  have hfa : ∀ y ∈ a, y ≤ 4294967295 := (by obtain ⟨_, _, _, _, hft, _⟩ := ha; exact hft)
  have hfb : ∀ y ∈ b, y ≤ 4294967295 := (by obtain ⟨_, _, _, _, hft, _⟩ := hb; exact hft)
  have HFA := hide hfa
  have HFB := hide hfb
  have HA := hide ha
  have HB := hide hb
  have HL := hide (begins_any w)
  clear hfa hfb ha hb
  obtain ⟨Ta, hTa⟩ : ∃ T, T = a.length := ⟨_, rfl⟩
  obtain ⟨Tb, hTb⟩ : ∃ T, T = b.length := ⟨_, rfl⟩
  rw [← hTa] at HA hca ⊢
  rw [← hTb] at HB hcb ⊢
  have HTA := hide hTa
  have HTB := hide hTb
  clear hTa hTb
  go_enter Try.func5, Try.ntmps5
  go_wp2_with fail
  refine (unhide HL).mono ?_
  clear HL
  rintro e W1 ⟨rfl, hb1⟩
  have HB1 := hide hb1
  have HA1 := hide ((unhide HA).below hb1)
  have HC1 := hide ((unhide HB).below hb1)
  clear hb1 HA HB
  have HW := hide (pack_any aa a Ta ca W1 (unhide HA1) (unhide HTA) hca)
  go_wp2_with fail
  refine (unhide HW).mono ?_
  clear HW
  rintro e W2 ⟨rfl, hb2⟩
  have HB2 := hide (belows' (unhide HB1) hb2)
  have HA2 := hide ((unhide HA1).below hb2)
  have HC2 := hide ((unhide HC1).below hb2)
  clear hb2 HB1 HA1 HC1
  have HW := hide (pack_any ab b Tb cb W2 (unhide HC2) (unhide HTB) hcb)
  by_cases hka : chk a = 0
  rotate_left
  · rw [if_neg hka]
    obtain ⟨k, hk⟩ : ∃ k, k = chk a := ⟨_, rfl⟩
    rw [← hk] at hka ⊢
    have hk1 : ((k : Int) == 0) = false := by simp; omega
    have hk2 : ((k : Int) != 0) = true := by simp [bne, hk1]
    clear hk hka
    go_wp2_with fail
    refine (unhide HW).mono ?_
    clear HW
    rintro e W3 ⟨rfl, hb3⟩
    have HB3 := hide (belows' (unhide HB2) hb3)
    clear hb3 HB2
    obtain ⟨x, y, hxy⟩ : ∃ x y, (if chk b = 0 then Value.tuple #[.string ⟨(packL b).toArray⟩, .int .i64 0] else .tuple #[.string ⟨#[]⟩, .int .i64 (chk b : Int)]) = .tuple #[.string x, .int .i64 y] := by
      split
      · exact ⟨_, _, rfl⟩
      · exact ⟨_, _, rfl⟩
    rw [hxy]
    clear hxy
    go_wp2
    go_ret
    exact ⟨by simp, unhide HB3⟩
  rw [if_pos hka]
  by_cases hkb : chk b = 0
  rotate_left
  · rw [if_neg hkb] at HW
    obtain ⟨k, hk⟩ : ∃ k, k = chk b := ⟨_, rfl⟩
    rw [← hk] at hkb HW
    have hk1 : ((k : Int) == 0) = false := by simp; omega
    have hk2 : ((k : Int) != 0) = true := by simp [bne, hk1]
    clear hk hkb hka
    go_wp2_with fail
    refine (unhide HW).mono ?_
    clear HW
    rintro e W3 ⟨rfl, hb3⟩
    have HB3 := hide (belows' (unhide HB2) hb3)
    clear hb3 HB2
    go_wp2
    go_ret
    exact ⟨by simp, unhide HB3⟩
  rw [if_pos hkb] at HW
  obtain ⟨t, ht1, ht2, ht3, ht4⟩ := two_ent (packL a) (packL b) (packL_len (unhide HFA) (chk_rise hka).2) (packL_len (unhide HFB) (chk_rise hkb).2)
  obtain ⟨PA, hPA⟩ : ∃ P, P = bts (packL a) := ⟨_, rfl⟩
  obtain ⟨PB, hPB⟩ : ∃ P, P = bts (packL b) := ⟨_, rfl⟩
  have hA' : (⟨(packL a).toArray⟩ : ByteArray) = PA := by rw [hPA]; rfl
  have hB' : (⟨(packL b).toArray⟩ : ByteArray) = PB := by rw [hPB]; rfl
  rw [hA']
  rw [hB'] at HW
  have HUA := hide (fun W => unpackP_any a W hka (unhide HFA))
  have HUB := hide (fun W => unpackP_any b W hkb (unhide HFB))
  have HHA := hide (fun W => hasP_any a n W hn hka (unhide HFA))
  have HHB := hide (fun W => hasP_any b n W hn hkb (unhide HFB))
  rw [← hPA] at HUA HHA
  rw [← hPB] at HUB HHB
  rw [← unhide HTA] at HUA
  rw [← unhide HTB] at HUB
  have HF3 := hide (fun W => dfind_any (bts t) 3 W (by rw [size_bts]; omega) (by decide))
  have HF9 := hide (fun W => dfind_any (bts t) 9 W (by rw [size_bts]; omega) (by decide))
  rw [toList_bts, ht3, ← hPA] at HF3
  rw [toList_bts, ht4, ← hPB] at HF9
  have hmap : [((3 : Nat), PA), (9, PB)].map lstE = [(3, packL a), (9, packL b)] := by rw [hPA, hPB]; simp [lstE, toList_bts]
  have hsza : PA.size ≤ 1048576 := by rw [hPA, size_bts]; exact packL_len (unhide HFA) (chk_rise hka).2
  have hszb : PB.size ≤ 1048576 := by rw [hPB, size_bts]; exact packL_len (unhide HFB) (chk_rise hkb).2
  have HAZ := hide (and_zero hka hkb)
  have HDW : Hid (∀ W : World, Calls Try.prog 14 #[.slice (some ⟨W.heap.size, 0, none⟩) 2 2] (W.alloc (.cells #[.int .u64 3, .string PA, .int .u64 9, .string PB] 44)) fun e w' => e = .returned (.tuple #[.string (bts t), .int .i64 0]) ∧ Below W.heap.size W w') := hide (fun W => by
    have hrow : RowE (W.alloc (.cells #[.int .u64 3, .string PA, .int .u64 9, .string PB] 44)) (.slice (some ⟨W.heap.size, 0, none⟩) 2 2) [((3 : Nat), PA), (9, PB)] := by
      refine ⟨_, _, rfl, by simp, ?_, Or.inr ⟨W.heap.size, 0, rfl, by simp, fun j u hj => ?_⟩⟩
      · intro x hx
        simp only [List.mem_cons, List.not_mem_nil, or_false] at hx
        rcases hx with rfl | rfl <;> exact ⟨by simp, by simp only; omega⟩
      · rw [Nat.zero_add, Blk.cell (Blk.new W 44 _)]
        have : (flatG cellsE [((3 : Nat), PA), (9, PB)]) = [.int .u64 3, .string PA, .int .u64 9, .string PB] := rfl
        rw [this] at hj
        simpa using hj
    have h := dwrite_any _ _ _ hrow (by rw [hmap]; simp only [datas, List.flatMap_cons, List.flatMap_nil, List.length_append, List.length_nil]; have h1 := packL_len (unhide HFA) (chk_rise hka).2; have h2 := packL_len (unhide HFB) (chk_rise hkb).2; omega)
    rw [hmap, ht1] at h
    refine h.mono ?_
    rintro e w' ⟨rfl, hb⟩
    exact ⟨rfl, belows' (below_alloc _ _) hb⟩)
  have hemp : (⟨#[]⟩ : ByteArray).size = 0 := rfl
  clear hA' hB' hPA hPB ht1 ht3 ht4 hmap ht2 hka hkb hsza hszb
  generalize bts t = D at HF3 HF9 HDW
  go_wp2_with fail
  refine (unhide HW).mono ?_
  clear HW
  rintro e W3 ⟨rfl, hb3⟩
  have HB3 := hide (belows' (unhide HB2) hb3)
  have HA3 := hide ((unhide HA2).below hb3)
  have HC3 := hide ((unhide HC2).below hb3)
  clear hb3 HB2 HA2 HC2
  go_wp2_with fail
  refine (unhide HDW _).mono ?_
  clear HDW
  rintro e W4 ⟨rfl, hb4⟩
  have HB4 := hide (belows' (unhide HB3) hb4)
  have HA4 := hide ((unhide HA3).below hb4)
  have HC4 := hide ((unhide HC3).below hb4)
  clear hb4 HB3 HA3 HC3
  go_wp2_with fail
  refine (unhide HF3 _).mono ?_
  clear HF3
  rintro e W5 ⟨rfl, hb5⟩
  have HB5 := hide (belows' (unhide HB4) hb5)
  have HA5 := hide ((unhide HA4).below hb5)
  have HC5 := hide ((unhide HC4).below hb5)
  clear hb5 HB4 HA4 HC4
  go_wp2_with fail
  refine (unhide HF9 _).mono ?_
  clear HF9
  rintro e W6 ⟨rfl, hb6⟩
  have HB6 := hide (belows' (unhide HB5) hb6)
  have HA6 := hide ((unhide HA5).below hb6)
  have HC6 := hide ((unhide HC5).below hb6)
  clear hb6 HB5 HA5 HC5
  go_wp2_with fail
  refine (unhide HUA _).mono ?_
  clear HUA
  rintro e W7 ⟨⟨ap, cp, rfl, hcp, hrp⟩, hb7⟩
  have HB7 := hide (belows' (unhide HB6) hb7)
  have HA7 := hide ((unhide HA6).below hb7)
  have HC7 := hide ((unhide HC6).below hb7)
  have HP7 := hide hrp
  clear hb7 HB6 HA6 HC6 hrp
  go_wp2_with fail
  refine (unhide HUB _).mono ?_
  clear HUB
  rintro e W8 ⟨⟨aq, cq, rfl, hcq, hrq⟩, hb8⟩
  have HB8 := hide (belows' (unhide HB7) hb8)
  have HA8 := hide ((unhide HA7).below hb8)
  have HC8 := hide ((unhide HC7).below hb8)
  have HP8 := hide ((unhide HP7).below hb8)
  have HQ8 := hide hrq
  clear hb8 HB7 HA7 HC7 HP7 hrq
  have HAND := hide (and_any _ [a, b] _ (rowRR_two (unhide HP8) (unhide HQ8)) (neat_some _ (Nat.le_refl _)))
  rw [unhide HAZ] at HAND
  have hbx := below_alloc W8 (.cells #[.slice ap Ta cp, .slice aq Tb cq] 22)
  have HBX := hide hbx
  clear hbx
  go_wp2_with fail
  refine (unhide HAND).mono ?_
  clear HAND HP8 HQ8
  rintro e W9 ⟨vx, rfl, hrx, hb9⟩
  have hb9' := belows' (unhide HBX) hb9
  have HB9 := hide (belows' (unhide HB8) hb9')
  have HA9 := hide ((unhide HA8).below hb9')
  have HC9 := hide ((unhide HC8).below hb9')
  have HX9 := hide hrx
  obtain ⟨ax, cx, hvx, _⟩ := hrx
  subst hvx
  clear hb9 hb9' HB8 HA8 HC8 HBX
  have HAND := hide (and_any _ [a, b] _ (rowRR_two (unhide HA9) (unhide HC9)) (neat_some _ (Nat.le_refl _)))
  rw [unhide HAZ] at HAND
  have hbx := below_alloc W9 (.cells #[.slice aa Ta ca, .slice ab Tb cb] 22)
  have HBX := hide hbx
  clear hbx
  go_wp2_with fail
  refine (unhide HAND).mono ?_
  clear HAND
  rintro e W10 ⟨vy, rfl, hry, hb10⟩
  have hb10' := belows' (unhide HBX) hb10
  have HB10 := hide (belows' (unhide HB9) hb10')
  have HX10 := hide ((unhide HX9).below hb10')
  have HY10 := hide hry
  obtain ⟨ay, cy, hvy, _⟩ := hry
  subst hvy
  clear hb10 hb10' HB9 HA9 HC9 HBX HX9
  go_wp2_with fail
  refine (unhide HHA _).mono ?_
  clear HHA
  rintro e W11 ⟨rfl, hb11⟩
  have HB11 := hide (belows' (unhide HB10) hb11)
  have HX11 := hide ((unhide HX10).below hb11)
  have HY11 := hide ((unhide HY10).below hb11)
  clear hb11 HB10 HX10 HY10
  go_wp2_with fail
  refine (unhide HHB _).mono ?_
  clear HHB
  rintro e W12 ⟨rfl, hb12⟩
  have HB12 := hide (belows' (unhide HB11) hb12)
  have HX12 := hide ((unhide HX11).below hb12)
  have HY12 := hide ((unhide HY11).below hb12)
  clear hb12 HB11 HX11 HY11
  have HMEM : Hid (decide (n ∈ pickL a b true) = (decide (n ∈ a) && decide (n ∈ b))) := hide (by
    by_cases h1 : n ∈ a <;> by_cases h2 : n ∈ b <;> simp [pick_mem, h1, h2])
  have hpl : (pickL a b true).length ≤ 9223372036854775807 := (by obtain ⟨_, _, _, h9, _⟩ := unhide HX12; exact h9)
  generalize pickL a b true = X at HX12 HY12 HMEM hpl ⊢
  generalize decide (n ∈ a) = ba at HMEM ⊢
  generalize decide (n ∈ b) = bb at HMEM ⊢
  obtain ⟨M, hM⟩ : ∃ M, M = X.length := ⟨_, rfl⟩
  rw [← hM] at HX12 HY12 hpl ⊢
  have HML := hide hM
  clear hM
  go_wp2
  go_loopw [31, 33, 137] (fun y _ z wr => ∃ k : Nat, z = .int .i64 k ∧ k ≤ M ∧ y = .bool (decide (n ∈ X.take k)) ∧ wr = W12) (fun _ _ z _ => M - (intOf z).toNat)
  case atStart => exact ⟨0, rfl, Nat.zero_le _, by simp, rfl⟩
  case round =>
    obtain ⟨k, rfl, hk, rfl, hw12⟩ := hrel
    subst hw12
    by_cases hlt : k < M
    · have hlt1 : (k : Int) < (M : Int) := by omega
      have hkl : k < X.length := by have := unhide HML; omega
      obtain ⟨g, off, cg, hv1, hblt, hcell⟩ := RowG.at cells32_len (unhide HX12) (j := k) hkl
      injection hv1 with e1 e2 e3
      subst e1
      have c0 := hcell 0 (by omega)
      simp only [cells32, List.getElem?_cons_zero, Nat.add_zero, Nat.mul_one] at c0
      have HT := hide (take_mem hkl n)
      clear e2 e3 hcell
      generalize X[k] = x at c0 HT
      generalize decide (n ∈ X.take k) = bk at HT ⊢
      cases bk with
      | true =>
        go_wp2
        exact ⟨⟨k + 1, by go_num, by omega, by rw [unhide HT]; simp⟩, by simp [intOf]; omega⟩
      | false =>
        go_wp2
        exact ⟨⟨k + 1, by go_num, by omega, by rw [unhide HT]; simp⟩, by simp [intOf]; omega⟩
    · have hlt1 : ¬ (k : Int) < (M : Int) := by omega
      have hkM : X.take k = X := List.take_of_length_le (by have := unhide HML; omega)
      rw [hkM, unhide HMEM]
      have HSM := hide (sameT_any _ _ X X wr (unhide HX12) (unhide HY12))
      rw [decide_eq_true rfl] at HSM
      clear hkM hk hlt
      go_wp2_with fail
      refine (unhide HSM).mono ?_
      rintro e w9 ⟨rfl, hb9⟩
      have HBF := hide (belows' (unhide HB12) hb9)
      clear hb9 HSM HMEM
      cases ba <;> cases bb
      all_goals
        go_wp2
        go_ret
        exact ⟨by simp, unhide HBF⟩
end Go.Proofs.Ytfjjigcghhohkaa

/-
  Slices of numbers that came in, and what the second form's bound says of them.
-/
set_option linter.unusedVariables false
namespace Go.Proofs.Ytfjjigcghhohkaa
open Go.ChangeShapes Go.RowKit Go.Proofs.Dct Go.Proofs.Pst

theorem bulk_ge {H : Type} (f : Nat → DataW H) (n : Nat → Nat) : ∀ k : List Nat, (∀ i ∈ k, n i ≤ Rows.uptoBulk (f i)) → (k.map n).sum ≤ Rows.uptoBulkAll (k.map f)
  | [], _ => by simp [Rows.uptoBulkAll]
  | i :: r, h => by
    have h1 := h i (by simp)
    have h2 := bulk_ge f n r (fun j hj => h j (by simp [hj]))
    simp only [List.map_cons, Rows.uptoBulkAll, List.sum_cons]
    omega
theorem rowG_of_cells {α : Type} {c : α → List Value} {Fit : α → Prop} (f : α → Value) (hc : ∀ x, c x = [f x]) {W : World} {a : Addr} {cap : Nat} {l : List α} (hl : l.length ≤ 9223372036854775807)
    (hfit : ∀ x ∈ l, Fit x) (hcell : ∀ i (h : i < l.length), W.cell? (a.add i) = some (f l[i])) : RowG c Fit W (.slice (some a) l.length cap) l := by
  have hc1 : ∀ x, (c x).length = 1 := fun x => by rw [hc]; rfl
  refine ⟨some a, cap, rfl, hl, hfit, ?_⟩
  by_cases h0 : l.length = 0
  · left; exact List.eq_nil_of_length_eq_zero h0
  · right
    have hc0 := hcell 0 (by omega)
    have hx0 : a.add 0 = a := by simp [Addr.add]
    rw [hx0] at hc0
    have hsp : a.spot = none := by
      cases hs : a.spot with
      | none => rfl
      | some y =>
        simp only [World.cell?, hs] at hc0
        split at hc0 <;> simp at hc0
    obtain ⟨b, off, sp⟩ := a
    simp only at hsp
    subst hsp
    refine ⟨b, off, rfl, ?_, ?_⟩
    · rcases Nat.lt_or_ge b W.heap.size with h' | h'
      · exact h'
      · simp [World.cell?, Array.getElem?_eq_none h'] at hc0
    · intro j u hj
      have hjl : j < l.length := by
        rcases Nat.lt_or_ge j (flatG c l).length with h' | h'
        · rwa [flatG_length hc1, Nat.mul_one] at h'
        · rw [List.getElem?_eq_none h'] at hj; cases hj
      have hg := flatG_get hc1 l j hjl 0 (by omega)
      rw [Nat.mul_one, Nat.add_zero, hc] at hg
      rw [hg] at hj
      have hcj := hcell j hjl
      rw [add_off0] at hcj
      rw [hcj]
      simpa using hj

theorem trod_row32 {H : Type} {enc : TypeId × Value → H} {W : World} {base : Nat} {held : Bool} {fuel : Nat} {cs : List Value} {x : DataW H × List MemPlace}
    (hf : DataW.trod enc Try.prog W base (fun _ => true) held fuel 22 cs = some x) : ∃ v l, cs = [v] ∧ Row32 W v l ∧ NeatS v ∧ l.length + 1 ≤ Rows.uptoBulk x.1 := by
  rcases Go.Deep.open_slice Try.underlying22 hf with ⟨rfl, rfl⟩ | ⟨a, len, cap, m, n, D, Pl, rfl, _, hl, hm, hmm, rfl, hx⟩
  · exact ⟨_, [], rfl, RowG.nil _ _ _, neat_nil, by simp [Rows.uptoBulk]⟩
  · have hmc : m = cap := by simpa using hmm
    subst hmc
    have ce : (Try.prog).cellsOf 31 = 1 := by kernel_rfl
    have each : ∀ i, i < m → ∃ s : Nat, W.cell? (a.add i) = some (.int .u32 (s : Int)) ∧ s ≤ 4294967295 ∧ 1 ≤ Rows.uptoBulk (D i) := by
      intro i hi
      obtain ⟨cs', h1, h2⟩ := hx i hi
      rw [ce, Nat.mul_one] at h1
      obtain ⟨s0, rfl, f0, g0⟩ := DataW.trod_int Try.underlying31 h2
      obtain ⟨_, _, hcell⟩ := World.cells?_some h1
      have hc0 := hcell 0 (by omega)
      have hx0 : (a.add i).add 0 = a.add i := by simp [Addr.add]
      rw [hx0] at hc0
      have g1 : 0 ≤ s0 ∧ s0 ≤ 4294967295 := by
        simp only [Lit.wf, Bool.and_eq_true, decide_eq_true_eq] at g0
        have h1 : IntKind.u32.min = 0 := by decide
        have h2 : IntKind.u32.max = 4294967295 := by decide
        omega
      refine ⟨s0.toNat, ?_, by omega, ?_⟩
      · rw [hc0, Int.toNat_of_nonneg g1.1]; rfl
      · rw [(Prod.mk.inj f0).1]; simp [Rows.uptoBulk]
    obtain ⟨q, hq⟩ := Go.Deep.choose_lt each
    obtain ⟨l, hl'⟩ : ∃ l : List Nat, l = (List.range len).map q := ⟨_, rfl⟩
    have hll : l.length = len := by rw [hl']; simp
    have hrow : Row32 W (.slice (some a) l.length m) l := by
      refine rowG_of_cells (fun n : Nat => .int .u32 (n : Int)) (fun _ => rfl) (by unfold maxLen at hm; omega) ?_ ?_
      · intro y hy
        rw [hl'] at hy
        obtain ⟨i, hi, rfl⟩ := List.mem_map.1 hy
        exact (hq i (by have := List.mem_range.1 hi; omega)).2.1
      · intro i h
        rw [(hq i (by omega)).1]
        simp [hl']
    rw [hll] at hrow
    refine ⟨_, l, rfl, hrow, ⟨fun n c h => by simp at h, fun a' n c h => by injection h with e1 e2 e3; omega⟩, ?_⟩
    have hb := bulk_ge D (fun _ => 1) (List.range len) (fun i hi => (hq i (by have := List.mem_range.1 hi; omega)).2.2)
    simp only [Rows.uptoBulk]
    have e : ∀ k : List Nat, (k.map (fun _ => 1)).sum = k.length := by
      intro k
      induction k with
      | nil => rfl
      | cons x r ih => simp only [List.map_cons, List.sum_cons, List.length_cons, ih]; omega
    rw [e, List.length_range] at hb
    omega

theorem open_row32 {H : Type} {enc : TypeId × Value → H} {W : World} {base : Nat} {held : Bool} {fuel : Nat} {v : Value} {x : DataW H × List MemPlace} (hv : ∃ a len cap, v = .slice a len cap)
    (hf : DataW.trod enc Try.prog W base (fun _ => true) held fuel 22 v.cells.toList = some x) (hb : Rows.uptoBulk x.1 ≤ 1048576) : ∃ l, Row32 W v l ∧ List.length l + 1 ≤ Rows.uptoBulk x.1 := by
  obtain ⟨a, len, cap, rfl⟩ := hv
  obtain ⟨v, l, hc, hr, _, hs⟩ := trod_row32 hf
  simp [Value.cells] at hc
  subst hc
  exact ⟨l, hr, hs⟩

/-- A slice of numbers that came in, no longer than its room. -/
def Row32n (w : World) (v : Value) (l : List Nat) : Prop := Row32 w v l ∧ NeatS v
theorem open_row32n {H : Type} {enc : TypeId × Value → H} {W : World} {base : Nat} {held : Bool} {fuel : Nat} {v : Value} {x : DataW H × List MemPlace} (hv : ∃ a len cap, v = .slice a len cap)
    (hf : DataW.trod enc Try.prog W base (fun _ => true) held fuel 22 v.cells.toList = some x) (hb : Rows.uptoBulk x.1 ≤ 1048576) : ∃ l, Row32n W v l ∧ List.length l + 1 ≤ Rows.uptoBulk x.1 := by
  obtain ⟨a, len, cap, rfl⟩ := hv
  obtain ⟨v, l, hc, hr, hn, hs⟩ := trod_row32 hf
  simp [Value.cells] at hc
  subst hc
  exact ⟨l, ⟨hr, hn⟩, hs⟩

end Go.Proofs.Ytfjjigcghhohkaa
