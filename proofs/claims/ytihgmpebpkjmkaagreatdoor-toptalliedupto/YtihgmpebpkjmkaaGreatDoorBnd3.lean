/-
  What post.Check and post.checkAll do, over this seat's program; rows of numbers, and rows of rows.
-/
import Derived.Test.YtihgmpebpkjmkaaGreatDoorRwg
import Derived.Test.YtihgmpebpkjmkaaGreatDoorBnd2
import Derived.Deep.QuietTactic
import Derived.BigQuiet
import Derived.WalkSmall
import Derived.BigCall
import Derived.Test.YtihgmpebpkjmkaaGreatDoorHlk
set_option linter.unusedVariables false
namespace Go.Proofs.YtihgmpebpkjmkaaGreatDoor
open Go.RowKit Go.Proofs.Num Go.Proofs.Dct

def cells32 (n : Nat) : List Value := [.int .u32 (n : Int)]
theorem cells32_len (n : Nat) : (cells32 n).length = 1 := rfl
abbrev Row32 := RowG cells32 (fun n => n ≤ 4294967295)
def cellsV (v : Value) : List Value := [v]
theorem cellsV_len (v : Value) : (cellsV v).length = 1 := rfl
abbrev RowV := RowG cellsV (fun _ => True)
/-- A slice of slices of numbers. -/
def RowRR (w : World) (v : Value) (ls : List (List Nat)) : Prop :=
  ∃ vs : List Value, RowV w v vs ∧ vs.length = ls.length ∧ ∀ (j : Nat) (h : j < vs.length) (h' : j < ls.length), Row32 w vs[j] ls[j]
theorem RowRR.below {w w' : World} {v : Value} {ls : List (List Nat)} (h : RowRR w v ls) (hb : Below w.heap.size w w') : RowRR w' v ls := by
  obtain ⟨vs, h1, h2, h3⟩ := h
  exact ⟨vs, h1.below hb, h2, fun j h h' => (h3 j h h').below hb⟩
/-- One of the slices. -/
theorem RowRR.at {w : World} {v : Value} {ls : List (List Nat)} (h : RowRR w v ls) {j : Nat} (hj : j < ls.length) :
    ∃ b off cap u, v = .slice (some ⟨b, off, none⟩) ls.length cap ∧ b < w.heap.size ∧ w.cell? ⟨b, off + j, none⟩ = some u ∧ Row32 w u ls[j] := by
  obtain ⟨vs, h1, h2, h3⟩ := h
  obtain ⟨b, off, cap, hv, hb, hc⟩ := RowG.at cellsV_len h1 (j := j) (by omega)
  have := hc 0 (by omega)
  simp only [cellsV, List.getElem?_cons_zero, Nat.mul_one, Nat.add_zero] at this
  exact ⟨b, off, cap, vs[j]'(by omega), by rw [hv, h2], hb, this, h3 j (by omega) hj⟩
theorem RowRR.slice {w : World} {v : Value} {ls : List (List Nat)} (h : RowRR w v ls) : ∃ a cap, v = .slice a ls.length cap ∧ ls.length ≤ 9223372036854775807 := by
  obtain ⟨vs, ⟨a, cap, hv, hl, _⟩, h2, _⟩ := h
  exact ⟨a, cap, by rw [hv, h2], by omega⟩

/-- What Check tells. -/
def chk (l : List Nat) : Nat := if rises 0 l = true then if l.length ≤ 65536 then 0 else 15 else 12
def chkAll : List (List Nat) → Nat
  | [] => 0
  | l :: r => if chk l ≠ 0 then chk l else chkAll r

set_option maxHeartbeats 1000000 in
set_option maxRecDepth 100000 in
theorem check_any (v : Value) (l : List Nat) (w : World) (h : Row32 w v l) :
    Calls Tryz.prog 16 #[v] w fun e w' => e = .returned (.int .i64 (chk l : Int)) ∧ ∃ q, w' = w.drewN q := by
  have HR := hide h
  obtain ⟨a, cap, hv, hl4, hfit, hrest⟩ := h
  subst hv
  have HFT := hide hfit
  obtain ⟨T, hT⟩ : ∃ T, T = l.length := ⟨_, rfl⟩
  rw [← hT] at HR hl4 ⊢
  have HTL := hide hT
  clear hrest hT hfit
  go_enter Tryz.func16, Tryz.ntmps16
  go_wp2
  go_loopw [3] (fun z wr => ∃ k q : Nat, z = .int .i64 ((k + 1 : Nat) : Int) ∧ (k + 1 ≤ T ∨ k = 0) ∧ Hid (∀ (j : Nat) (h : j + 1 < l.length), j + 1 ≤ k → l[j] < l[j + 1]) ∧ Hid (wr = w.drewN q)) (fun z _ => T + 1 - (intOf z).toNat)
  case atStart => exact ⟨0, 0, rfl, Or.inr rfl, hide (fun j h hj => by omega), hide rfl⟩
  case round =>
    obtain ⟨k, q, rfl, hk, HA, HQ⟩ := hrel
    have hQ := unhide HQ
    subst hQ
    by_cases hlt : k + 1 < T
    · have hlt1 : ((k + 1 : Nat) : Int) < (T : Int) := by omega
      have hbw : Below w.heap.size w (w.drewN q) := below_drewN (Below.refl _ _) q
      have hkl : k + 1 < l.length := by have := unhide HTL; omega
      have hkl0 : k < l.length := by omega
      obtain ⟨b, off, cap', hv', hblt, hcell⟩ := RowG.at cells32_len ((unhide HR).below hbw) (j := k + 1) hkl
      obtain ⟨b2, off2, cap2, hv2, hblt2, hcell2⟩ := RowG.at cells32_len ((unhide HR).below hbw) (j := k) hkl0
      injection hv' with e1 e2 e3
      subst e1
      injection hv2 with e4 e5 e6
      injection e4 with e7
      injection e7 with e8 e9
      subst e8 e9
      have c0 := hcell 0 (by omega)
      have d0 := hcell2 0 (by omega)
      simp only [cells32, List.getElem?_cons_zero, Nat.add_zero, Nat.mul_one] at c0 d0
      clear e2 e3 e5 e6 hcell hcell2 hblt2
      have hx := unhide HFT l[k + 1] (List.getElem_mem hkl)
      have hy := unhide HFT l[k] (List.getElem_mem hkl0)
      clear hbw
      by_cases hle : l[k + 1] ≤ l[k]
      · have hfin : chk l = 12 := by
          unfold chk
          rw [if_neg]
          rw [rises_iff]
          rintro ⟨_, h2⟩
          have := h2 k hkl
          omega
        have HF := hide hfin
        generalize l[k + 1] = x at c0 hx hle
        generalize l[k] = y at d0 hy hle
        have hlei : (x : Int) ≤ (y : Int) := by omega
        clear hfin HA hk hle HQ
        obtain ⟨W, hW⟩ : ∃ W, W = w.drewN q := ⟨_, rfl⟩
        rw [← hW] at c0 d0 hblt ⊢
        have HW := hide hW
        clear hW
        go_wp2
        go_quiet (fail)
        go_wp2
        go_ret
        exact ⟨by rw [unhide HF]; rfl, q + nq, by rw [unhide HW]; simp⟩
      · have hA9 : ∀ (j : Nat) (h : j + 1 < l.length), j + 1 ≤ k + 1 → l[j] < l[j + 1] := by
          intro j h hj
          by_cases hjk : j = k
          · subst hjk; omega
          · exact unhide HA j h (by omega)
        have HA9 := hide hA9
        generalize l[k + 1] = x at c0 hx hle
        generalize l[k] = y at d0 hy hle
        have hlei : ¬ (x : Int) ≤ (y : Int) := by omega
        clear hA9 HA hk hle HQ
        obtain ⟨W, hW⟩ : ∃ W, W = w.drewN q := ⟨_, rfl⟩
        rw [← hW] at c0 d0 hblt ⊢
        have HW := hide hW
        clear hW
        go_wp2
        go_quiet (fail)
        go_wp2
        exact ⟨⟨k + 1, q + nq, by go_num, by omega, HA9, hide (by rw [unhide HW]; simp)⟩, by simp [intOf]; omega⟩
    · have hlt1 : ¬ ((k + 1 : Nat) : Int) < (T : Int) := by omega
      have hris : rises 0 l = true := by
        rw [rises_iff]
        exact ⟨fun _ => Nat.zero_le _, fun j hj => unhide HA j hj (by have := unhide HTL; omega)⟩
      by_cases h6 : 65536 < T
      · have hfin : chk l = 15 := by unfold chk; rw [if_pos hris, if_neg (by have := unhide HTL; omega)]
        have HF := hide hfin
        have h6i : (65536 : Int) < (T : Int) := by omega
        clear hris hfin HA hk HQ
        go_wp2
        go_ret
        exact ⟨by rw [unhide HF]; rfl, q, rfl⟩
      · have hfin : chk l = 0 := by unfold chk; rw [if_pos hris, if_pos (by have := unhide HTL; omega)]
        have HF := hide hfin
        have h6i : ¬ (65536 : Int) < (T : Int) := by omega
        clear hris hfin HA hk HQ
        go_wp2
        go_ret
        exact ⟨by rw [unhide HF]; rfl, q, rfl⟩

end Go.Proofs.YtihgmpebpkjmkaaGreatDoor

/-
  What head.isBlank, head.isName, strings.Cut at one byte, and head.firstLine do, over this seat's program.
-/
set_option linter.unusedVariables false
namespace Go.Proofs.YtihgmpebpkjmkaaGreatDoor
open Go.RowKit Go.Proofs.Hed

theorem all_take {s : ByteArray} {k : Nat} (h : k < s.size) : (s.data.toList.take (k + 1)).all nameB = ((s.data.toList.take k).all nameB && nameB s[k]) := by
  rw [take_byte s k h, List.all_append]
  simp

/-- Where a byte stands first. -/
theorem indexByte_some : ∀ (l : List UInt8) (c : UInt8), (∃ i : Nat, Lib.indexByte l c = (i : Int) ∧ i < l.length) ∨ Lib.indexByte l c = -1
  | [], c => Or.inr rfl
  | d :: r, c => by
    simp only [Lib.indexByte]
    split
    · exact Or.inl ⟨0, rfl, by simp⟩
    · rcases indexByte_some r c with ⟨i, hi, hl⟩ | h
      · rw [hi]
        exact Or.inl ⟨i + 1, by simp; try omega, by simp; try omega⟩
      · rw [h]; exact Or.inr (by simp)
theorem index_lf : ∀ s : List UInt8, Lib.indexByte s 10 = match lfAt s with | none => -1 | some i => (i : Int)
  | [] => rfl
  | c :: r => by
    simp only [Lib.indexByte, lfAt]
    rw [index_lf r]
    by_cases h : c = 10
    · subst h; simp
    · rw [if_neg (by simpa using h), if_neg h]
      cases lfAt r with
      | none => simp
      | some i => simp <;> omega
theorem index_colon : ∀ s : List UInt8, match colon s with | none => Lib.indexByte s 58 = -1 | some (n, v) => Lib.indexByte s 58 = (n.length : Int) ∧ s = n ++ 58 :: v
  | [] => rfl
  | c :: r => by
    have ih := index_colon r
    simp only [Lib.indexByte, colon]
    by_cases h : c = 58
    · subst h; simp
    · rw [if_neg h]
      cases hr : colon r with
      | none =>
        rw [hr] at ih
        simp only at ih
        simp [h, ih]
      | some p =>
        obtain ⟨n, v⟩ := p
        rw [hr] at ih
        obtain ⟨h1, h2⟩ := ih
        simp only [Option.map_some]
        rw [h1, if_neg (by simpa using h)]
        refine ⟨?_, by simp [h2]⟩
        rw [if_neg (by simp <;> omega)]
        simp
theorem trimSuffix_cr (l : List UInt8) : Lib.trimSuffix l [13] = noCr l := by
  unfold Lib.trimSuffix Lib.hasSuffix noCr
  rcases List.eq_nil_or_concat l with rfl | ⟨r, c, rfl⟩
  · rfl
  · simp only [List.getLast?_concat, List.concat_eq_append]
    by_cases h : c = 13
    · subst h
      rw [if_pos (by simp [List.isSuffixOf_iff_suffix]), if_pos (by simp)]
      simp
    · rw [if_neg, if_neg]
      · simpa using h
      · rw [List.isSuffixOf_iff_suffix]
        rintro ⟨t, ht⟩
        have := (List.append_inj' ht rfl).2
        simp at this
        exact h this.symm

set_option maxHeartbeats 1000000 in
theorem cutL_any (s : ByteArray) (w : World) (hs : s.size ≤ 281474976710656) :
    Calls Tryz.prog 72 #[.string s, .string ⟨#[58]⟩] w fun e w' => e = .returned (match colon s.data.toList with | none => .tuple #[.string s, .string ⟨#[]⟩, .bool false] | some (n, v) => .tuple #[.string (bts n), .string (bts v), .bool true]) ∧ ∃ q, w' = w.drewN q := by
  have hsl := sizeL s
  have HI := hide (Tryz.stringslite_Index_one s 58 w)
  have hix := index_colon s.data.toList
  cases hc : colon s.data.toList with
  | none =>
    rw [hc] at hix
    simp only at hix ⊢
    rw [hix] at HI
    clear hix hc hsl
    go_enter Tryz.func72, Tryz.ntmps72
    go_wp2_with fail
    refine (unhide HI).mono ?_
    rintro e w1 ⟨rfl, rfl⟩
    go_wp2
    go_ret3
    exact ⟨rfl, 0, rfl⟩
  | some p =>
    obtain ⟨n, v⟩ := p
    rw [hc] at hix
    obtain ⟨h1, h2⟩ := hix
    simp only
    rw [h1] at HI
    have hl : n.length + 1 + v.length = s.size := by rw [← hsl, h2]; simp; omega
    obtain ⟨i, hi⟩ : ∃ i, n.length = i := ⟨_, rfl⟩
    rw [hi] at HI
    have e1 : bts n = s.extract 0 i := by
      apply ext_list
      rw [toList_bts, toList_upto, h2, ← hi]
      simp
    obtain ⟨i1, hi1⟩ : ∃ i1, i + 1 = i1 := ⟨_, rfl⟩
    have e2 : bts v = s.extract i1 s.size := by
      apply ext_list
      rw [toList_bts, toList_from, h2, ← hi1, ← hi]
      simp
    have h0 : (0 : Int) ≤ (i : Int) := by omega
    have h3 : (i : Int) ≤ (s.size : Int) := by omega
    have h4 : (i1 : Int) ≤ (s.size : Int) := by omega
    have v1 : IntKind.i64.wrap ((i : Int) + 1) = (i1 : Int) := by rw [IntKind.wrap_i64]; omega
    rw [e1, e2]
    clear hc hsl h1 h2 e1 e2 hl hi hi1
    go_enter Tryz.func72, Tryz.ntmps72
    go_wp2_with fail
    refine (unhide HI).mono ?_
    rintro e w1 ⟨rfl, rfl⟩
    go_wp2
    go_quiet (fail)
    go_wp2
    go_ret3
    exact ⟨rfl, _, rfl⟩

set_option maxHeartbeats 1000000 in
theorem cut_any (s : ByteArray) (w : World) (hs : s.size ≤ 281474976710656) :
    Calls Tryz.prog 50 #[.string s, .string ⟨#[58]⟩] w fun e w' => e = .returned (match colon s.data.toList with | none => .tuple #[.string s, .string ⟨#[]⟩, .bool false] | some (n, v) => .tuple #[.string (bts n), .string (bts v), .bool true]) ∧ ∃ q, w' = w.drewN q := by
  have HI := hide (cutL_any s w hs)
  cases hc : colon s.data.toList with
  | none =>
    rw [hc] at HI
    simp only at HI ⊢
    clear hc
    go_enter Tryz.func50, Tryz.ntmps50
    go_wp2_with fail
    refine (unhide HI).mono ?_
    rintro e w1 ⟨rfl, q, rfl⟩
    go_wp2
    go_ret3
    exact ⟨rfl, q, rfl⟩
  | some p =>
    obtain ⟨n, v⟩ := p
    rw [hc] at HI
    simp only at HI ⊢
    clear hc
    go_enter Tryz.func50, Tryz.ntmps50
    go_wp2_with fail
    refine (unhide HI).mono ?_
    rintro e w1 ⟨rfl, q, rfl⟩
    go_wp2
    go_ret3
    exact ⟨rfl, q, rfl⟩
set_option maxHeartbeats 400000 in
theorem cloneS_any (s : ByteArray) (w : World) (hs : s.size ≤ 281474976710656) : Calls Tryz.prog 33 #[.string s] w fun e w' => e = .returned (.string s) ∧ Below w.heap.size w w' := by
  have HI := hide (Tryz.stringslite_Clone s w hs)
  go_enter Tryz.func33, Tryz.ntmps33
  go_wp2_with fail
  refine (unhide HI).mono ?_
  rintro e w1 ⟨rfl, b1⟩
  go_wp2
  go_ret
  exact ⟨rfl, b1⟩
end Go.Proofs.YtihgmpebpkjmkaaGreatDoor
