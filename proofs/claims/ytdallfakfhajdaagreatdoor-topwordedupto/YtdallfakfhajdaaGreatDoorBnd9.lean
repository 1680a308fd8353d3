/-
  What head.isBlank, head.isName, strings.Cut at one byte, and head.firstLine do, over this seat's program.
-/
import Derived.Test.YtdallfakfhajdaaGreatDoorHlk
import Derived.Test.YtdallfakfhajdaaGreatDoorBnd8
import Derived.BigCall
import Derived.Deep.QuietTactic
import Derived.BigQuiet
import Derived.WalkSmall
import Derived.Laws.AppendOwn
import Derived.OwnWalk
set_option linter.unusedVariables false
namespace Go.Proofs.YtdallfakfhajdaaGreatDoor
open Go.RowKit Go.Proofs.Hed

set_option maxHeartbeats 400000 in
theorem isBlank_any (c : UInt8) (w : World) : Calls Tryz.prog 58 #[.int .u8 (c.toNat : Int)] w fun e w' => e = .returned (.bool (isB c)) ∧ w' = w := by
  have e1 : isB c = (((c.toNat : Int) == 32) || ((c.toNat : Int) == 9)) := by
    have h1 : (c == 32) = ((c.toNat : Int) == 32) := by
      by_cases h : c = 32
      · subst h; rfl
      · have : c.toNat ≠ 32 := fun e => h (UInt8.toNat_inj.mp e)
        rw [beq_eq_false_iff_ne.mpr h, eq_comm, beq_eq_false_iff_ne]
        omega
    have h2 : (c == 9) = ((c.toNat : Int) == 9) := by
      by_cases h : c = 9
      · subst h; rfl
      · have : c.toNat ≠ 9 := fun e => h (UInt8.toNat_inj.mp e)
        rw [beq_eq_false_iff_ne.mpr h, eq_comm, beq_eq_false_iff_ne]
        omega
    unfold isB
    rw [h1, h2]
  rw [e1]
  clear e1
  generalize c.toNat = n
  cases h1 : ((n : Int) == 32)
  · cases h2 : ((n : Int) == 9)
    · go_enter Tryz.func58, Tryz.ntmps58
      go_wp2
      go_ret
      exact ⟨rfl, rfl⟩
    · go_enter Tryz.func58, Tryz.ntmps58
      go_wp2
      go_ret
      exact ⟨rfl, rfl⟩
  · go_enter Tryz.func58, Tryz.ntmps58
    go_wp2
    go_ret
    exact ⟨rfl, rfl⟩

theorem all_take {s : ByteArray} {k : Nat} (h : k < s.size) : (s.data.toList.take (k + 1)).all nameB = ((s.data.toList.take k).all nameB && nameB s[k]) := by
  rw [take_byte s k h, List.all_append]
  simp

set_option maxHeartbeats 1000000 in
set_option maxRecDepth 100000 in
theorem isName_any (s : ByteArray) (w : World) (hs : s.size ≤ 281474976710656) :
    Calls Tryz.prog 51 #[.string s] w fun e w' => e = .returned (.bool (isNm s.data.toList)) ∧ w' = w := by
  have hsl := sizeL s
  go_enter Tryz.func51, Tryz.ntmps51
  go_wp2
  go_loopw [6] (fun z wr => ∃ k : Nat, z = .int .i64 k ∧ k ≤ s.size ∧ Hid ((s.data.toList.take k).all nameB = true) ∧ wr = w) (fun z _ => s.size - (intOf z).toNat)
  case atStart => exact ⟨0, rfl, by omega, hide rfl, rfl⟩
  case round =>
    obtain ⟨k, rfl, hk, HT, rfl⟩ := hrel
    by_cases hlt : k < s.size
    · have hlt1 : (k : Int) < (s.size : Int) := by omega
      have hat := all_take hlt
      rw [unhide HT, Bool.true_and] at hat
      by_cases hn : nameB s[k] = true
      · rw [hn] at hat
        have HN := hide hat
        simp only [nameB, decide_eq_true_eq] at hn
        obtain ⟨h1, h2, h3⟩ := hn
        have e3 : ((s[k].toNat : Int) == 58) = false := by
          have : s[k].toNat ≠ 58 := fun e => h3 (UInt8.toNat_inj.mp e)
          simp; omega
        have e1 : ¬ (s[k].toNat : Int) < 33 := by omega
        have e2 : ¬ 126 < (s[k].toNat : Int) := by omega
        clear hat h3
        go_wp2
        exact ⟨⟨k + 1, by go_num, by omega, HN, trivial⟩, by simp [intOf]; omega⟩
      · have hfin : isNm s.data.toList = false := by
          unfold isNm
          have : s.data.toList.all nameB = false := by
            rw [Bool.eq_false_iff]
            intro h
            rw [List.all_eq_true] at h
            exact hn (h s[k] (List.getElem_mem (l := s.data.toList) (n := k) (by omega)))
          rw [this]; rfl
        have HF := hide hfin
        have hn' : s[k].toNat < 33 ∨ 126 < s[k].toNat ∨ s[k].toNat = 58 := by
          simp only [nameB, decide_eq_true_eq] at hn
          by_cases a1 : s[k].toNat < 33
          · exact Or.inl a1
          · by_cases a2 : 126 < s[k].toNat
            · exact Or.inr (Or.inl a2)
            · right; right
              by_cases a3 : s[k] = 58
              · rw [a3]; rfl
              · exact absurd ⟨by omega, by omega, a3⟩ hn
        clear hat hfin hn
        obtain ⟨x, hx⟩ : ∃ x, s[k].toNat = x := ⟨_, rfl⟩
        rw [hx] at hn'
        by_cases a1 : x < 33
        · have e1 : (x : Int) < 33 := by omega
          go_wp2
          go_ret
          exact ⟨by rw [unhide HF]; rfl, rfl⟩
        · have e1 : ¬ (x : Int) < 33 := by omega
          by_cases a2 : 126 < x
          · have e2 : 126 < (x : Int) := by omega
            go_wp2
            go_ret
            exact ⟨by rw [unhide HF]; rfl, rfl⟩
          · have e2 : ¬ 126 < (x : Int) := by omega
            have e3 : ((x : Int) == 58) = true := by simp; omega
            go_wp2
            go_ret
            exact ⟨by rw [unhide HF]; rfl, rfl⟩
    · have hlt1 : ¬ (k : Int) < (s.size : Int) := by omega
      have hall : s.data.toList.all nameB = true := by
        have := unhide HT
        rwa [List.take_of_length_le (by omega)] at this
      have hfin : isNm s.data.toList = !decide (s.size = 0) := by
        unfold isNm
        rw [hall]
        cases h : s.data.toList with
        | nil => rw [h] at hsl; simp at hsl; simp [← hsl]
        | cons c r => rw [h] at hsl; simp at hsl; rw [decide_eq_false (by omega)]; rfl
      have HF := hide hfin
      clear hfin hall hsl
      go_wp2
      go_ret
      refine ⟨retH_b ?_, rfl⟩
      rw [unhide HF, empty_size]

/-- Where a byte stands first. -/
theorem indexByte_some : ∀ (l : List UInt8) (c : UInt8), (∃ i : Nat, Lib.indexByte l c = (i : Int) ∧ i < l.length) ∨ Lib.indexByte l c = -1
  | [], c => Or.inr rfl
  | d :: r, c => by
    simp only [Lib.indexByte]
    split
    · exact Or.inl ⟨0, rfl, by simp⟩
    · rcases indexByte_some r c with ⟨i, hi, hl⟩ | h
      · rw [hi]
        exact Or.inl ⟨i + 1, by simp; try omega, by simp; try omega⟩
      · rw [h]; exact Or.inr (by simp)
theorem index_lf : ∀ s : List UInt8, Lib.indexByte s 10 = match lfAt s with | none => -1 | some i => (i : Int)
  | [] => rfl
  | c :: r => by
    simp only [Lib.indexByte, lfAt]
    rw [index_lf r]
    by_cases h : c = 10
    · subst h; simp
    · rw [if_neg (by simpa using h), if_neg h]
      cases lfAt r with
      | none => simp
      | some i => simp <;> omega
theorem index_colon : ∀ s : List UInt8, match colon s with | none => Lib.indexByte s 58 = -1 | some (n, v) => Lib.indexByte s 58 = (n.length : Int) ∧ s = n ++ 58 :: v
  | [] => rfl
  | c :: r => by
    have ih := index_colon r
    simp only [Lib.indexByte, colon]
    by_cases h : c = 58
    · subst h; simp
    · rw [if_neg h]
      cases hr : colon r with
      | none =>
        rw [hr] at ih
        simp only at ih
        simp [h, ih]
      | some p =>
        obtain ⟨n, v⟩ := p
        rw [hr] at ih
        obtain ⟨h1, h2⟩ := ih
        simp only [Option.map_some]
        rw [h1, if_neg (by simpa using h)]
        refine ⟨?_, by simp [h2]⟩
        rw [if_neg (by simp <;> omega)]
        simp
theorem trimSuffix_cr (l : List UInt8) : Lib.trimSuffix l [13] = noCr l := by
  unfold Lib.trimSuffix Lib.hasSuffix noCr
  rcases List.eq_nil_or_concat l with rfl | ⟨r, c, rfl⟩
  · rfl
  · simp only [List.getLast?_concat, List.concat_eq_append]
    by_cases h : c = 13
    · subst h
      rw [if_pos (by simp [List.isSuffixOf_iff_suffix]), if_pos (by simp)]
      simp
    · rw [if_neg, if_neg]
      · simpa using h
      · rw [List.isSuffixOf_iff_suffix]
        rintro ⟨t, ht⟩
        have := (List.append_inj' ht rfl).2
        simp at this
        exact h this.symm

set_option maxHeartbeats 1000000 in
theorem firstLine_any (s : ByteArray) (w : World) (hs : s.size ≤ 281474976710656) :
    Calls Tryz.prog 55 #[.string s] w fun e w' => e = .returned (.tuple #[.string (bts (lineOf s.data.toList)), .int .i64 (lineN s.data.toList : Int)]) ∧ w' = w := by
  have hsl := sizeL s
  have HI := hide (Tryz.strings_IndexByte s 10 w)
  have hix := index_lf s.data.toList
  rw [show ((10 : Int).toNat.toUInt8) = (10 : UInt8) from rfl, hix] at HI
  unfold lineOf lineN
  cases hlf : lfAt s.data.toList with
  | none =>
    rw [hlf] at HI
    simp only at HI ⊢
    rw [bts_toList, hsl]
    clear hix hsl hlf
    go_enter Tryz.func55, Tryz.ntmps55
    go_wp2_with fail
    refine (unhide HI).mono ?_
    rintro e w1 ⟨rfl, rfl⟩
    go_wp2
    go_ret2
    exact ⟨rfl, rfl⟩
  | some i =>
    rw [hlf] at HI
    simp only at HI ⊢
    have hil := lfAt_lt hlf
    rw [hsl] at hil
    have HT := hide (fun W => Tryz.strings_TrimSuffix (s.extract 0 i) ⟨#[13]⟩ W (by rw [size_part s 0 i (by omega)]; omega))
    rw [toList_upto, show (⟨#[13]⟩ : ByteArray).data.toList = [13] from rfl, trimSuffix_cr] at HT
    have h0 : ¬ (i : Int) < 0 := by omega
    have h1 : (i : Int) ≤ (s.size : Int) := by omega
    clear hix hsl hlf
    go_enter Tryz.func55, Tryz.ntmps55
    go_wp2_with fail
    refine (unhide HI).mono ?_
    rintro e w1 ⟨rfl, rfl⟩
    go_wp2_with fail
    refine (unhide HT _).mono ?_
    rintro e w1 ⟨rfl, rfl⟩
    go_wp2
    go_ret2
    refine ⟨?_, rfl⟩
    show Ending.returned (.tuple #[.string (bts (noCr (s.data.toList.take i))), .int .i64 _]) = _
    go_num

set_option maxHeartbeats 1000000 in
theorem cutL_any (s : ByteArray) (w : World) (hs : s.size ≤ 281474976710656) :
    Calls Tryz.prog 99 #[.string s, .string ⟨#[58]⟩] w fun e w' => e = .returned (match colon s.data.toList with | none => .tuple #[.string s, .string ⟨#[]⟩, .bool false] | some (n, v) => .tuple #[.string (bts n), .string (bts v), .bool true]) ∧ ∃ q, w' = w.drewN q := by
  have hsl := sizeL s
  have HI := hide (Tryz.stringslite_Index_one s 58 w)
  have hix := index_colon s.data.toList
  cases hc : colon s.data.toList with
  | none =>
    rw [hc] at hix
    simp only at hix ⊢
    rw [hix] at HI
    clear hix hc hsl
    go_enter Tryz.func99, Tryz.ntmps99
    go_wp2_with fail
    refine (unhide HI).mono ?_
    rintro e w1 ⟨rfl, rfl⟩
    go_wp2
    go_ret3
    exact ⟨rfl, 0, rfl⟩
  | some p =>
    obtain ⟨n, v⟩ := p
    rw [hc] at hix
    obtain ⟨h1, h2⟩ := hix
    simp only
    rw [h1] at HI
    have hl : n.length + 1 + v.length = s.size := by rw [← hsl, h2]; simp; omega
    obtain ⟨i, hi⟩ : ∃ i, n.length = i := ⟨_, rfl⟩
    rw [hi] at HI
    have e1 : bts n = s.extract 0 i := by
      apply ext_list
      rw [toList_bts, toList_upto, h2, ← hi]
      simp
    obtain ⟨i1, hi1⟩ : ∃ i1, i + 1 = i1 := ⟨_, rfl⟩
    have e2 : bts v = s.extract i1 s.size := by
      apply ext_list
      rw [toList_bts, toList_from, h2, ← hi1, ← hi]
      simp
    have h0 : (0 : Int) ≤ (i : Int) := by omega
    have h3 : (i : Int) ≤ (s.size : Int) := by omega
    have h4 : (i1 : Int) ≤ (s.size : Int) := by omega
    have v1 : IntKind.i64.wrap ((i : Int) + 1) = (i1 : Int) := by rw [IntKind.wrap_i64]; omega
    rw [e1, e2]
    clear hc hsl h1 h2 e1 e2 hl hi hi1
    go_enter Tryz.func99, Tryz.ntmps99
    go_wp2_with fail
    refine (unhide HI).mono ?_
    rintro e w1 ⟨rfl, rfl⟩
    go_wp2
    go_quiet (fail)
    go_wp2
    go_ret3
    exact ⟨rfl, _, rfl⟩

set_option maxHeartbeats 1000000 in
theorem cut_any (s : ByteArray) (w : World) (hs : s.size ≤ 281474976710656) :
    Calls Tryz.prog 56 #[.string s, .string ⟨#[58]⟩] w fun e w' => e = .returned (match colon s.data.toList with | none => .tuple #[.string s, .string ⟨#[]⟩, .bool false] | some (n, v) => .tuple #[.string (bts n), .string (bts v), .bool true]) ∧ ∃ q, w' = w.drewN q := by
  have HI := hide (cutL_any s w hs)
  cases hc : colon s.data.toList with
  | none =>
    rw [hc] at HI
    simp only at HI ⊢
    clear hc
    go_enter Tryz.func56, Tryz.ntmps56
    go_wp2_with fail
    refine (unhide HI).mono ?_
    rintro e w1 ⟨rfl, q, rfl⟩
    go_wp2
    go_ret3
    exact ⟨rfl, q, rfl⟩
  | some p =>
    obtain ⟨n, v⟩ := p
    rw [hc] at HI
    simp only at HI ⊢
    clear hc
    go_enter Tryz.func56, Tryz.ntmps56
    go_wp2_with fail
    refine (unhide HI).mono ?_
    rintro e w1 ⟨rfl, q, rfl⟩
    go_wp2
    go_ret3
    exact ⟨rfl, q, rfl⟩
set_option maxHeartbeats 400000 in
theorem cloneS_any (s : ByteArray) (w : World) (hs : s.size ≤ 281474976710656) : Calls Tryz.prog 28 #[.string s] w fun e w' => e = .returned (.string s) ∧ Below w.heap.size w w' := by
  have HI := hide (Tryz.stringslite_Clone s w hs)
  go_enter Tryz.func28, Tryz.ntmps28
  go_wp2_with fail
  refine (unhide HI).mono ?_
  rintro e w1 ⟨rfl, b1⟩
  go_wp2
  go_ret
  exact ⟨rfl, b1⟩
end Go.Proofs.YtdallfakfhajdaaGreatDoor

/-
  Fields in memory: how a list of fields lies in this seat's program's world.
-/
set_option linter.unusedVariables false
namespace Go.Proofs.YtdallfakfhajdaaGreatDoor
open Go.RowKit Go.Proofs.Hed

/-- A field: its name, and its value. -/
abbrev Fld := ByteArray × ByteArray
/-- A field's cells. -/
def cellsF (f : Fld) : List Value := [.string f.1, .string f.2]
def flatF (l : List Fld) : List Value := l.flatMap cellsF

theorem flatF_length (l : List Fld) : (flatF l).length = l.length * 2 := by
  induction l with
  | nil => rfl
  | cons f l ih => simp only [flatF, List.flatMap_cons, List.length_append] at ih ⊢; rw [ih]; simp [cellsF]; omega
theorem flatF_append (a b : List Fld) : flatF (a ++ b) = flatF a ++ flatF b := by simp [flatF]
theorem flatF_cons (f : Fld) (l : List Fld) : flatF (f :: l) = cellsF f ++ flatF l := by simp [flatF]
theorem flatF_take (l : List Fld) (k : Nat) : flatF (l.take k) = (flatF l).take (k * 2) := by
  induction l generalizing k with
  | nil => simp [flatF]
  | cons f l ih =>
    cases k with
    | zero => simp [flatF]
    | succ k => rw [List.take_succ_cons, flatF_cons, flatF_cons, ih, List.take_append, show (cellsF f).length = 2 from rfl, List.take_of_length_le (l := cellsF f) (by show 2 ≤ _; omega), show (k + 1) * 2 - 2 = k * 2 by omega]
theorem flatF_drop (l : List Fld) (k : Nat) : flatF (l.drop k) = (flatF l).drop (k * 2) := by
  induction l generalizing k with
  | nil => simp [flatF]
  | cons f l ih =>
    cases k with
    | zero => simp [flatF]
    | succ k => rw [List.drop_succ_cons, flatF_cons, ih, List.drop_append, show (cellsF f).length = 2 from rfl, List.drop_of_length_le (l := cellsF f) (by show 2 ≤ _; omega), show (k + 1) * 2 - 2 = k * 2 by omega]; rfl
theorem flatF_get (l : List Fld) (j : Nat) (h : j < l.length) : (flatF l)[j * 2]? = some (.string l[j].1) ∧ (flatF l)[j * 2 + 1]? = some (.string l[j].2) := by
  have e : (flatF l).drop (j * 2) = cellsF l[j] ++ flatF (l.drop (j + 1)) := by rw [← flatF_drop, List.drop_eq_getElem_cons h, flatF_cons]
  have g : ∀ i, (flatF l)[j * 2 + i]? = (cellsF l[j] ++ flatF (l.drop (j + 1)))[i]? := fun i => by rw [← e, List.getElem?_drop]
  refine ⟨?_, ?_⟩
  · have := g 0; simpa [cellsF] using this
  · have := g 1; simpa [cellsF] using this
theorem flatF_one (l : List Fld) : ∀ u ∈ flatF l, u.oneCell' = true := by
  intro u hu
  simp only [flatF, List.mem_flatMap, cellsF] at hu
  obtain ⟨f, _, hu⟩ := hu
  simp at hu
  rcases hu with rfl | rfl <;> rfl

/-- A field whose texts are such as a program can hold. -/
def Fits (f : Fld) : Prop := f.1.size ≤ 16777216 ∧ f.2.size ≤ 16777216

/-- The value v is a slice of fields whose elements are l. -/
def RowF (w : World) (v : Value) (l : List Fld) : Prop :=
  ∃ (a : Option Addr) (cap : Nat), v = .slice a l.length cap ∧ l.length ≤ 4194304 ∧ (∀ f ∈ l, Fits f) ∧
    (l = [] ∨ ∃ b off, a = some ⟨b, off, none⟩ ∧ b < w.heap.size ∧ ∀ j u, (flatF l)[j]? = some u → w.cell? ⟨b, off + j, none⟩ = some u)

theorem RowF.below {w w' : World} {v : Value} {l : List Fld} (h : RowF w v l) (hb : Below w.heap.size w w') : RowF w' v l := by
  obtain ⟨a, cap, hv, hl, hn, hc⟩ := h
  refine ⟨a, cap, hv, hl, hn, ?_⟩
  rcases hc with hc | ⟨b, off, ha, hlt, hc⟩
  · exact Or.inl hc
  · have := hb.size
    refine Or.inr ⟨b, off, ha, by omega, fun j u hj => ?_⟩
    rw [hb.cell (p := ⟨b, off + j, none⟩) hlt]
    exact hc j u hj

theorem row_cells {w : World} {b off : Nat} {l : List Fld} (hc : ∀ j u, (flatF l)[j]? = some u → w.cell? ⟨b, off + j, none⟩ = some u) {j : Nat} (h : j < l.length) :
    w.cell? ⟨b, off + j * 2, none⟩ = some (.string l[j].1) ∧ w.cell? ⟨b, off + j * 2 + 1, none⟩ = some (.string l[j].2) := by
  obtain ⟨h0, h1⟩ := flatF_get l j h
  exact ⟨hc _ _ h0, by rw [Nat.add_assoc]; exact hc _ _ h1⟩

theorem fldInfo : (Tryz.prog.info? 39).map (fun i => (i.zero, i.size, i.bytes)) = some (some (.agg #[.string ByteArray.empty, .string ByteArray.empty]), 2, 32) := by kernel_rfl
/-- Fields as pairs of lists. -/
def lst (f : Fld) : List UInt8 × List UInt8 := (f.1.data.toList, f.2.data.toList)

/-- Whether a field is called so. -/
def called (nm : ByteArray) (f : Fld) : Bool := decide (smL f.1.data.toList = smL nm.data.toList)
/-- The first value, or the error. -/
def findV (nm : ByteArray) : List Fld → Value
  | [] => .tuple #[.string ⟨#[]⟩, .int .i64 3]
  | f :: r => if called nm f then .tuple #[.string f.2, .int .i64 0] else findV nm r
/-- All values. -/
def allL (nm : ByteArray) (l : List Fld) : List ByteArray := (l.filter (called nm)).map (·.2)

set_option maxHeartbeats 1000000 in
set_option maxRecDepth 100000 in
/-- head.Find tells the first value. -/
theorem find_any (v : Value) (l : List Fld) (nm : ByteArray) (w : World) (h : RowF w v l) (hn : nm.size ≤ 16777216) :
    Calls Tryz.prog 24 #[v, .string nm] w fun e w' => e = .returned (findV nm l) ∧ Below w.heap.size w w' := by
  obtain ⟨a, cap, rfl, hl, hfit, hc⟩ := h
  have HC := hide hc
  have HF := hide hfit
  clear hc hfit
  go_enter Tryz.func24, Tryz.ntmps24
  go_wp2
  go_loopw [10] (fun z wr => ∃ k : Nat, z = .int .i64 k ∧ k ≤ l.length ∧ Hid (findV nm l = findV nm (l.drop k)) ∧ Hid (Below w.heap.size w wr)) (fun z _ => l.length - (intOf z).toNat)
  case atStart => exact ⟨0, rfl, Nat.zero_le _, hide rfl, hide (Below.refl _ _)⟩
  case round =>
    obtain ⟨k, rfl, hk, HE, HB⟩ := hrel
    by_cases hlt : k < l.length
    · have hlt1 : (k : Int) < (l.length : Int) := by omega
      have hx : ∃ b off, a = some ⟨b, off, none⟩ ∧ b < w.heap.size ∧ wr.cell? ⟨b, off + k * 2, none⟩ = some (.string l[k].1) ∧ wr.cell? ⟨b, off + k * 2 + 1, none⟩ = some (.string l[k].2) := by
        rcases unhide HC with h | ⟨b, off, ha, hb, hcj⟩
        · subst h; simp at hlt
        · obtain ⟨c0, c1⟩ := row_cells hcj hlt
          exact ⟨b, off, ha, hb, ((unhide HB).cell (p := ⟨b, off + k * 2, none⟩) hb).trans c0, ((unhide HB).cell (p := ⟨b, off + k * 2 + 1, none⟩) hb).trans c1⟩
      obtain ⟨b, off, rfl, hb, c0, c1⟩ := hx
      have hzr := (unhide HB).size
      have hf := unhide HF l[k] (List.getElem_mem hlt)
      have he := unhide HE
      rw [List.drop_eq_getElem_cons hlt, findV] at he
      have HLK : Hid (∀ W, Calls Tryz.prog 60 #[.string l[k].1, .string nm] W fun e w' => e = .returned (.bool (called nm l[k])) ∧ ∃ q, w' = W.drewN q) := hide (fun W => like_any l[k].1 nm W (by have := hf.1; omega) (by omega))
      have HCL := hide (fun W => cloneS_any l[k].2 W (by have := hf.2; omega))
      have HBA := hide ((unhide HB).alloc hzr (.cells #[.string l[k].1, .string l[k].2] 39))
      cases hm : called nm l[k] with
      | true =>
        rw [hm] at he HLK
        simp only [if_true] at he
        have HFN := hide he
        generalize l[k].1 = x at c0 HLK HBA
        generalize l[k].2 = y at c1 HCL HBA HFN
        clear he hm hf HE
        go_wp2_with fail
        refine (unhide HLK _).mono ?_
        rintro e w2 ⟨rfl, q, rfl⟩
        go_wp2_with fail
        refine (unhide HCL _).mono ?_
        rintro e w3 ⟨rfl, b3⟩
        have HB3 := hide b3
        clear b3
        go_wp2
        go_ret2
        refine ⟨?_, (below_drewN (unhide HBA) q).trans ((unhide HB3).mono (by simp; omega))⟩
        rw [unhide HFN]
        rfl
      | false =>
        rw [hm] at he HLK
        simp only [Bool.false_eq_true, if_false] at he
        have HFN := hide he
        generalize l[k].1 = x at c0 HLK HBA
        generalize l[k].2 = y at c1 HBA
        clear he hm hf HE HCL
        go_wp2_with fail
        refine (unhide HLK _).mono ?_
        rintro e w2 ⟨rfl, q, rfl⟩
        go_wp2
        exact ⟨⟨k + 1, by go_num, by omega, HFN, hide (below_drewN (unhide HBA) _)⟩, by simp [intOf]; omega⟩
    · have hlt1 : ¬ (k : Int) < (l.length : Int) := by omega
      have he := unhide HE
      rw [List.drop_of_length_le (by omega), findV] at he
      have HFN := hide he
      clear he HE
      go_wp2
      go_ret2
      exact ⟨by rw [unhide HFN]; rfl, unhide HB⟩
end Go.Proofs.YtdallfakfhajdaaGreatDoor

/-
  Texts in memory, what missiveref02.Same and head.All do, over this seat's program.
-/
set_option linter.unusedVariables false
namespace Go.Proofs.YtdallfakfhajdaaGreatDoor
open Go.RowKit Go.Proofs.Hed

/-- The value v is a slice of texts whose elements are l. -/
def RowS (w : World) (v : Value) (l : List ByteArray) : Prop :=
  ∃ (a : Option Addr) (cap : Nat), v = .slice a l.length cap ∧ l.length ≤ 9223372036854775807 ∧ (∀ s ∈ l, s.size ≤ 9223372036854775807) ∧
    (l = [] ∨ ∃ b off, a = some ⟨b, off, none⟩ ∧ b < w.heap.size ∧ ∀ j (h : j < l.length), w.cell? ⟨b, off + j, none⟩ = some (.string l[j]))


theorem RowS.below {w w' : World} {v : Value} {l : List ByteArray} (h : RowS w v l) (hb : Below w.heap.size w w') : RowS w' v l := by
  obtain ⟨a, cap, hv, hl, hn, hc⟩ := h
  refine ⟨a, cap, hv, hl, hn, ?_⟩
  rcases hc with hc | ⟨b, off, ha, hlt, hc⟩
  · exact Or.inl hc
  · have := hb.size
    refine Or.inr ⟨b, off, ha, by omega, fun j hj => ?_⟩
    rw [hb.cell (p := ⟨b, off + j, none⟩) hlt]
    exact hc j hj


theorem strInfo : (Tryz.prog.info? 9).map (fun i => (i.zero, i.size, i.bytes)) = some (some (.string ByteArray.empty), 1, 16) := by kernel_rfl


/-- Texts as cells of a row. -/
def cellsS (l : List ByteArray) : List Value := l.map Value.string


theorem cellsS_snoc (l : List ByteArray) (x : ByteArray) : cellsS l ++ [Value.string x] = cellsS (l ++ [x]) := by simp [cellsS]


theorem rowS_of_own {w : World} {B : Nat} {e : TypeId} {v : Value} {l : List ByteArray} (h : w.ownsRow B e 1 v l.length (cellsS l)) (h6 : l.length ≤ 9223372036854775807) (hn : ∀ s ∈ l, s.size ≤ 9223372036854775807) : RowS w v l := by
  rcases h.2 with ⟨hv, h0⟩ | ⟨g, cap, cur, hv, hg, hh, hc, hm, hs, ht⟩
  · have : l = [] := List.eq_nil_of_length_eq_zero h0
    subst this
    exact ⟨none, 0, hv, by simp, by simp, Or.inl rfl⟩
  · refine ⟨_, cap, hv, h6, hn, Or.inr ⟨g, 0, rfl, (Array.getElem?_eq_some_iff.1 hh).1, fun j hj => ?_⟩⟩
    have h1 : (cur.toList.take (l.length * 1))[j]? = (cellsS l)[j]? := by rw [ht]
    have h2 : (cellsS l)[j]? = some (.string l[j]) := by simp [cellsS, List.getElem?_eq_getElem hj]
    rw [h2, List.getElem?_take, if_pos (by omega)] at h1
    simp only [World.cell?, hh, Nat.zero_add]
    simpa using h1


theorem takeS_next {l r : List ByteArray} {k : Nat} (hl : k < l.length) (hr : k < r.length) : l.take (k + 1) = r.take (k + 1) ↔ l.take k = r.take k ∧ l[k] = r[k] := by
  rw [List.take_succ_eq_append_getElem hl, List.take_succ_eq_append_getElem hr]
  constructor
  · intro h
    have := List.append_inj' h rfl
    exact ⟨this.1, by simpa using this.2⟩
  · rintro ⟨h1, h2⟩
    rw [h1, h2]


theorem one_str (w : World) (v : Value) (t : TypeId) : ∀ j u, [v][j]? = some u → (w.alloc (.cells #[v] t)).cell? (Addr.add ⟨w.heap.size, 0, none⟩ j) = some u := by
  intro j u hj
  match j, hj with
  | 0, hj => simp at hj; subst hj; simp [Addr.add]
theorem own_keep {w w' : World} {B : Nat} {e : TypeId} {size : Nat} {v : Value} {n : Nat} {xs : List Value} (h : w.ownsRow B e size v n xs) (hb : Below w.heap.size w w') : w'.ownsRow B e size v n xs := own_below h hb
theorem own_up {w wr w2 : World} {o : Obj} {B size : Nat} {e : TypeId} {v : Value} {n : Nat} {xs : List Value} (hown : wr.ownsRow B e size v n xs) (hgrow : (wr.alloc o).grownBy w2 v.ownBlock) (hbw : Below B w wr) (hB : B ≤ wr.heap.size) : Below B w w2 :=
  (hbw.alloc hB _).grown hgrow (by simp; omega) (fun k hk => by
    rcases hown.2 with ⟨rfl, _⟩ | ⟨g, cap, cur, rfl, hg, _⟩
    · simp [Value.ownBlock] at hk
    · simp [Value.ownBlock] at hk; omega)

end Go.Proofs.YtdallfakfhajdaaGreatDoor
