/-
  What lex.stringOf and textOf do, over this seat's program.
-/
import Derived.Test.YtafegjbhaofgiaaDoorLxh
import Derived.Test.YtafegjbhaofgiaaDoorPow
set_option linter.unusedVariables false
namespace Go.Proofs.YtafegjbhaofgiaaDoor
open Go.RowKit Go.Proofs.Lx

/-- How a token is written, or that it is none, as Go tells it. -/
def FtxV (o : Option (List UInt8)) (v : Value) : Prop := match o with
  | some y => v = .tuple #[.string (bts y), .bool true]
  | none => ∃ x, v = .tuple #[.string x, .bool false]
theorem quote_len {t q : List UInt8} (h : quoteL t = some q) : q.length ≤ 2 * t.length + 2 := by
  unfold quoteL at h
  split at h
  · injection h with h; subst h
    have := esc_len t
    simp only [List.length_cons, List.length_append, List.length_nil]; omega
  · cases h

set_option maxHeartbeats 2000000 in
set_option maxRecDepth 100000 in
theorem stringOf_any (s : ByteArray) (w : World) (ht : PowT w) (hs : s.size ≤ 274877906944) :
    Calls Tryd.prog 48 #[.string s] w fun e w' => (∃ v, e = .returned v ∧ FtxV (strA s.data.toList) v) ∧ Below w.heap.size w w' := by
  have HQ := hide (fun W => quote_any s W hs)
  have hst : strA s.data.toList = match quoteL s.data.toList with | some q => some q | none => if s.data.toList.length ≤ 999999999 then some (123 :: (decL s.data.toList.length ++ [125, 13, 10] ++ s.data.toList)) else none := by rw [strA]; rfl
  have HST := hide hst
  clear hst
  have HP := hide ht
  clear ht
  cases hq : quoteL s.data.toList with
  | some q =>
    have HF : Hid (FtxV (strA s.data.toList) (.tuple #[.string (bts q), .bool true])) := hide (by rw [unhide HST, hq]; rfl)
    rw [hq] at HQ
    simp only [quoR] at HQ
    generalize bts q = Q at HQ HF
    clear hq HST
    go_enter Tryd.func48, Tryd.ntmps48
    go_wp2_with fail
    refine (unhide HQ _).mono ?_
    rintro e w1 ⟨rfl, b1⟩
    have B1 := hide b1
    clear b1
    go_wp2
    go_ret2
    exact ⟨⟨_, rfl, unhide HF⟩, unhide B1⟩
  | none =>
    rw [hq] at HQ
    simp only [quoR] at HQ
    have hsz := sizeL s
    by_cases hl : s.size ≤ 999999999
    · have hl' : ¬ 999999999 < (s.size : Int) := by omega
      obtain ⟨D, hD⟩ : ∃ D, D = bts (Lib.decDigits s.size) := ⟨_, rfl⟩
      have hI := fun W (h : PowT W) => itoa_any s.size (by omega) W h
      rw [← hD] at hI
      have HI := hide hI
      have hDz : D.size ≤ 9 := by rw [hD, size_bts]; exact decL_len 8 s.size (by omega)
      have HF : Hid (FtxV (strA s.data.toList) (.tuple #[.string (⟨#[123]⟩ ++ D ++ ⟨#[125, 13, 10]⟩ ++ s), .bool true])) := hide (by
        rw [unhide HST, hq]
        simp only
        rw [if_pos (by omega), hsz]
        show Value.tuple #[.string _, .bool true] = .tuple #[.string (bts _), .bool true]
        refine congrArg (fun x => Value.tuple #[.string x, .bool true]) (ext_list ?_)
        rw [toList_bts, hD]
        simp only [ByteArray.data_append, Array.toList_append]
        show [123] ++ (bts (Lib.decDigits s.size)).data.toList ++ [125, 13, 10] ++ s.data.toList = _
        rw [toList_bts]
        simp)
      clear hI hD hq HST hsz
      go_enter Tryd.func48, Tryd.ntmps48
      go_wp2_with fail
      refine (unhide HQ _).mono ?_
      rintro e w1 ⟨rfl, b1⟩
      have B1 := hide b1
      have HP1 := hide ((unhide HP).below b1)
      clear b1
      go_wp2_with fail
      refine (unhide HI _ (unhide HP1)).mono ?_
      rintro e w2 ⟨rfl, b2⟩
      have B2 := hide ((unhide B1).trans (b2.mono (unhide B1).size))
      clear b2
      have z1 : (ByteArray.mk #[123]).size = 1 := rfl
      have z3 : (ByteArray.mk #[125, 13, 10]).size = 3 := rfl
      go_wp2
      go_ret2
      exact ⟨⟨_, rfl, unhide HF⟩, unhide B2⟩
    · have hl' : 999999999 < (s.size : Int) := by omega
      have HF : Hid (FtxV (strA s.data.toList) (.tuple #[.string ⟨#[]⟩, .bool false])) := hide (by
        rw [unhide HST, hq]
        simp only
        rw [if_neg (by omega)]
        exact ⟨_, rfl⟩)
      clear hq HST hsz
      go_enter Tryd.func48, Tryd.ntmps48
      go_wp2_with fail
      refine (unhide HQ _).mono ?_
      rintro e w1 ⟨rfl, b1⟩
      have B1 := hide b1
      clear b1
      go_wp2
      go_ret2
      exact ⟨⟨_, rfl, unhide HF⟩, unhide B1⟩

theorem atomL_iff : ∀ l : List UInt8, (atomL l = l.length) ↔ l.all isA = true
  | [] => by simp [atomL]
  | c :: r => by
    have ih := atomL_iff r
    simp only [atomL, List.all_cons, List.length_cons]
    cases hc : isA c with
    | true => simp [ih]
    | false => simp

set_option maxHeartbeats 4000000 in
set_option maxRecDepth 100000 in
theorem textOf_any (t : Tok) (w : World) (ht : PowT w) (hk : t.1 ≤ 255) (hs : t.2.length ≤ 274877906944) :
    Calls Tryd.prog 32 #[tkV t] w fun e w' => (∃ v, e = .returned v ∧ FtxV (textA t) v) ∧ Below w.heap.size w w' := by
  obtain ⟨k, t⟩ := t
  simp only [tkV] at *
  obtain ⟨X, hX⟩ : ∃ X, X = bts t := ⟨_, rfl⟩
  have hXl : X.data.toList = t := by rw [hX, toList_bts]
  have hXz : X.size = t.length := by rw [hX, size_bts]
  rw [← hX]
  have hb := (Below.refl _ w).alloc (Nat.le_refl _) (Obj.cells #[.int .u8 (k : Int), .string X] 39)
  have K := Blk.new w 39 #[.int .u8 (k : Int), .string X]
  have c0 := K.cell 0
  have c1 := K.cell 1
  simp only [List.getElem?_toArray, List.getElem?_cons_succ, List.getElem?_cons_zero] at c0 c1
  have HB := hide hb
  have HP := hide (ht.below hb)
  clear ht hb K
  have b1 : ((k : Int) == 1) = decide (k = 1) := beq_dec k 1
  have b2 : ((k : Int) == 2) = decide (k = 2) := beq_dec k 2
  have b3 : ((k : Int) == 3) = decide (k = 3) := beq_dec k 3
  have b4 : ((k : Int) == 4) = decide (k = 4) := beq_dec k 4
  by_cases k1 : k = 1
  · rw [decide_eq_true k1] at b1
    have hT : textA (k, t) = if t ≠ [] ∧ t.all isA then some t else none := by rw [textA, if_pos k1]
    have HA := hide (fun W => atom_any X W (by omega))
    rw [hXl] at HA
    by_cases hz : X.size = 0
    · have he : X.toList.isEmpty = true := by rw [is_empty]; exact decide_eq_true hz
      have HF : Hid (FtxV (textA (k, t)) (.tuple #[.string X, .bool false])) := hide (by
        rw [hT, if_neg]
        · exact ⟨_, rfl⟩
        · rintro ⟨h, _⟩; exact h (List.length_eq_zero_iff.1 (by omega)))
      clear hT k1 hX hXl hXz b2 b3 b4 hz HA
      go_enter Tryd.func32, Tryd.ntmps32
      go_wp2
      go_quiet (fail)
      go_wp2
      go_ret2
      exact ⟨⟨_, rfl, unhide HF⟩, below_drewN (unhide HB) _⟩
    · have he : X.toList.isEmpty = false := by rw [is_empty]; exact decide_eq_false hz
      have hq : ((atomL t : Int) == (X.size : Int)) = t.all isA := by
        rw [hXz, beq_dec, Bool.eq_iff_iff, decide_eq_true_iff]
        exact atomL_iff t
      have HF : Hid (FtxV (textA (k, t)) (.tuple #[.string X, .bool (t.all isA)])) := hide (by
        rw [hT]
        cases ha : t.all isA with
        | true =>
          rw [if_pos ⟨by intro h; exact hz (by rw [hXz, h]; rfl), rfl⟩, hX]; rfl
        | false =>
          rw [if_neg (by rintro ⟨_, h⟩; cases h)]; exact ⟨_, rfl⟩)
      generalize t.all isA = r at hq HF
      generalize (atomL t : Int) = n at HA hq
      clear hT k1 hX hXl hXz b2 b3 b4 hz
      go_enter Tryd.func32, Tryd.ntmps32
      go_wp2
      go_quiet (first | (go_at_call 46; exact Calls.quiet_of_same (unhide HA _)))
      go_wp2
      go_ret2
      exact ⟨⟨_, rfl, unhide HF⟩, below_drewN (unhide HB) _⟩
  · rw [decide_eq_false k1] at b1
    by_cases k2 : k = 2
    · rw [decide_eq_true k2] at b2
      have HS := hide (fun W (h : PowT W) => stringOf_any X W h (by omega))
      have hT : textA (k, t) = strA t := by rw [textA, if_neg k1, if_pos k2]
      rw [hXl, ← hT] at HS
      clear hT k1 k2 hX hXl hXz b3 b4
      go_enter Tryd.func32, Tryd.ntmps32
      go_wp2_with fail
      refine (unhide HS _ (unhide HP)).mono ?_
      rintro e w1 ⟨⟨v, rfl, hv⟩, b1⟩
      have B1 := hide ((unhide HB).trans (b1.mono (unhide HB).size))
      clear b1
      unfold FtxV at hv
      split at hv
      · rename_i y hy
        have HF := hide (show FtxV (textA (k, t)) (.tuple #[.string (bts y), .bool true]) by rw [hy]; rfl)
        clear hy
        subst hv
        go_wp2
        go_ret2
        exact ⟨⟨_, rfl, unhide HF⟩, unhide B1⟩
      · rename_i hy
        obtain ⟨x, rfl⟩ := hv
        have HF := hide (show FtxV (textA (k, t)) (.tuple #[.string x, .bool false]) by rw [hy]; exact ⟨_, rfl⟩)
        clear hy
        go_wp2
        go_ret2
        exact ⟨⟨_, rfl, unhide HF⟩, unhide B1⟩
    · rw [decide_eq_false k2] at b2
      by_cases k3 : k = 3
      · rw [decide_eq_true k3] at b3
        have hq : (X.toList == [40]) = decide (t = [40]) := by rw [ByteArray.toList_eq, hXl, Bool.eq_iff_iff]; simp
        have HF : Hid (FtxV (textA (k, t)) (.tuple #[.string ⟨#[40]⟩, .bool (decide (t = [40]))])) := hide (by
          rw [textA, if_neg k1, if_neg k2, if_pos k3]
          by_cases h : t = [40]
          · rw [if_pos h, decide_eq_true h]; rfl
          · rw [if_neg h, decide_eq_false h]; exact ⟨_, rfl⟩)
        generalize decide (t = [40]) = r at hq HF
        clear k1 k2 k3 hX hXl hXz b4
        go_enter Tryd.func32, Tryd.ntmps32
        go_wp2
        go_quiet (fail)
        go_wp2
        go_ret2
        exact ⟨⟨_, rfl, unhide HF⟩, below_drewN (unhide HB) _⟩
      · rw [decide_eq_false k3] at b3
        by_cases k4 : k = 4
        · rw [decide_eq_true k4] at b4
          have hq : (X.toList == [41]) = decide (t = [41]) := by rw [ByteArray.toList_eq, hXl, Bool.eq_iff_iff]; simp
          have HF : Hid (FtxV (textA (k, t)) (.tuple #[.string ⟨#[41]⟩, .bool (decide (t = [41]))])) := hide (by
            rw [textA, if_neg k1, if_neg k2, if_neg k3, if_pos k4]
            by_cases h : t = [41]
            · rw [if_pos h, decide_eq_true h]; rfl
            · rw [if_neg h, decide_eq_false h]; exact ⟨_, rfl⟩)
          generalize decide (t = [41]) = r at hq HF
          clear k1 k2 k3 k4 hX hXl hXz
          go_enter Tryd.func32, Tryd.ntmps32
          go_wp2
          go_quiet (fail)
          go_wp2
          go_ret2
          exact ⟨⟨_, rfl, unhide HF⟩, below_drewN (unhide HB) _⟩
        · rw [decide_eq_false k4] at b4
          have HF : Hid (FtxV (textA (k, t)) (.tuple #[.string ⟨#[]⟩, .bool false])) := hide (by
            rw [textA, if_neg k1, if_neg k2, if_neg k3, if_neg k4]; exact ⟨_, rfl⟩)
          clear k1 k2 k3 k4 hX hXl hXz
          go_enter Tryd.func32, Tryd.ntmps32
          go_wp2
          go_ret2
          exact ⟨⟨_, rfl, unhide HF⟩, unhide HB⟩
end Go.Proofs.YtafegjbhaofgiaaDoor
