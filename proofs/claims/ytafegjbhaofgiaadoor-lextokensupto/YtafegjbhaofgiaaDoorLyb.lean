/-
  What missiveref28.one does, over this seat's program.
-/
import Derived.Test.YtafegjbhaofgiaaDoorLya
set_option linter.unusedVariables false
set_option linter.unusedSimpArgs false
namespace Go.Proofs.YtafegjbhaofgiaaDoor
open Go.RowKit Go.Proofs.Lx

theorem blk_drewK {w : World} {B : Nat} {t : TypeId} {cs : Array Value} (h : Blk w B t cs) : Blk w.drew B t cs := h
theorem below_undrew {w w1 : World} (h : Below w.drew.heap.size w.drew w1) : Below w.heap.size w w1 := ⟨h.os, h.tape, h.output, h.size, h.block⟩
theorem addS (a b c : ByteArray) (h : c = a ++ b) (hs : a.size + b.size ≤ 1099511627776) (W : World) : (binOp .add 9 (.string a) (.string b)).run Tryd.prog W = .ok (.string c) W := by
  subst h
  go_simp
  omega
theorem atom_no {t : ByteArray} {k : Nat} (hk : k < t.size) (h : isA t[k] = false) : ¬ (t.data.toList ≠ [] ∧ t.data.toList.all isA = true) := by
  rintro ⟨_, ha⟩
  have hm : t[k] ∈ t.data.toList := by
    have := drop_byte t k hk
    exact List.mem_of_mem_drop (by rw [this]; exact List.mem_cons_self)
  have := List.all_eq_true.1 ha _ hm
  rw [h] at this; cases this

set_option maxHeartbeats 4000000 in
set_option maxRecDepth 100000 in
theorem refOne_any (t : Tok) (w : World) (hk : t.1 ≤ 255) (hs : t.2.length ≤ 274877906944) :
    Calls Tryd.prog 36 #[tkV t] w fun e w' => (∃ v, e = .returned v ∧ FtxV (textA t) v) ∧ Below w.heap.size w w' := by
  obtain ⟨k, t⟩ := t
  simp only [tkV] at *
  obtain ⟨X, hX⟩ : ∃ X, X = bts t := ⟨_, rfl⟩
  have hXl : X.data.toList = t := by rw [hX, toList_bts]
  have hXz : X.size = t.length := by rw [hX, size_bts]
  rw [← hX]
  have hb := (Below.refl _ w).alloc (Nat.le_refl _) (Obj.cells #[.int .u8 (k : Int), .string X] 39)
  have K := Blk.new w 39 #[.int .u8 (k : Int), .string X]
  have c0 := K.cell 0
  have c1 := K.cell 1
  simp only [List.getElem?_toArray, List.getElem?_cons_succ, List.getElem?_cons_zero] at c0 c1
  have HB := hide hb
  have HK := hide K
  clear hb K
  have b1 : ((k : Int) == 1) = decide (k = 1) := beq_dec k 1
  have b2 : ((k : Int) == 2) = decide (k = 2) := beq_dec k 2
  have b3 : ((k : Int) == 3) = decide (k = 3) := beq_dec k 3
  have b4 : ((k : Int) == 4) = decide (k = 4) := beq_dec k 4
  by_cases k3 : k = 3
  · rw [decide_eq_true k3] at b3
    have hq : (X.toList == [40]) = decide (t = [40]) := by rw [ByteArray.toList_eq, hXl, Bool.eq_iff_iff]; simp
    have HF : Hid (FtxV (textA (k, t)) (.tuple #[.string ⟨#[40]⟩, .bool (decide (t = [40]))])) := hide (by
      rw [textA, if_neg (by simp only; omega), if_neg (by simp only; omega), if_pos k3]
      by_cases h : t = [40]
      · rw [if_pos h, decide_eq_true h]; rfl
      · rw [if_neg h, decide_eq_false h]; exact ⟨_, rfl⟩)
    generalize decide (t = [40]) = r at hq HF
    clear k3 hX hXl hXz b1 b2 b4
    go_enter Tryd.func36, Tryd.ntmps36
    go_wp2
    go_quiet (fail)
    go_wp2
    go_ret2
    exact ⟨⟨_, rfl, unhide HF⟩, below_drewN (unhide HB) _⟩
  rw [decide_eq_false k3] at b3
  by_cases k4 : k = 4
  · rw [decide_eq_true k4] at b4
    have hq : (X.toList == [41]) = decide (t = [41]) := by rw [ByteArray.toList_eq, hXl, Bool.eq_iff_iff]; simp
    have HF : Hid (FtxV (textA (k, t)) (.tuple #[.string ⟨#[41]⟩, .bool (decide (t = [41]))])) := hide (by
      rw [textA, if_neg (by simp only; omega), if_neg (by simp only; omega), if_neg (by simp only; omega), if_pos k4]
      by_cases h : t = [41]
      · rw [if_pos h, decide_eq_true h]; rfl
      · rw [if_neg h, decide_eq_false h]; exact ⟨_, rfl⟩)
    generalize decide (t = [41]) = r at hq HF
    clear k3 k4 hX hXl hXz b1 b2
    go_enter Tryd.func36, Tryd.ntmps36
    go_wp2
    go_quiet (fail)
    go_wp2
    go_ret2
    exact ⟨⟨_, rfl, unhide HF⟩, below_drewN (unhide HB) _⟩
  rw [decide_eq_false k4] at b4
  by_cases k2 : k = 2
  · rw [decide_eq_true k2] at b2
    have hT : textA (k, t) = strA t := by rw [textA, if_neg (by simp only; omega), if_pos k2]
    have HQ := hide (fun W => refQuote_any X W (by omega))
    rw [hXl] at HQ
    have hst : strA t = match quoteL t with | some q => some q | none => if t.length ≤ 999999999 then some (123 :: (decL t.length ++ [125, 13, 10] ++ t)) else none := by rw [strA]; rfl
    cases hq : quoteL t with
    | some q =>
      have HF : Hid (FtxV (textA (k, t)) (.tuple #[.string (bts q), .bool true])) := hide (by rw [hT, hst, hq]; rfl)
      rw [hq] at HQ
      simp only [quoR] at HQ
      generalize bts q = Q at HQ HF
      clear hq hst hT k2 k3 k4 hX hXl hXz
      go_enter Tryd.func36, Tryd.ntmps36
      go_wp2_with fail
      refine (unhide HQ _).mono ?_
      rintro e w1 ⟨rfl, h1⟩
      subst h1
      go_wp2
      go_ret2
      exact ⟨⟨_, rfl, unhide HF⟩, unhide HB⟩
    | none =>
      rw [hq] at HQ
      simp only [quoR] at HQ
      obtain ⟨D, hD⟩ : ∃ D, D = bts (Lib.decDigits X.size) := ⟨_, rfl⟩
      have hI := fun W => digitsL_any X.size (by omega) W
      rw [← hD] at hI
      have HI := hide hI
      have hDz : D.size ≤ 20 := by
        rw [hD, size_bts, Lib.decDigits_length]
        by_cases h0 : X.size = 0
        · rw [h0, Lib.nDigits_small (by omega)]; omega
        · have := Lib.numDigits_eq X.size (by omega) (by omega)
          split at this <;> omega
      have HF : Hid (FtxV (textA (k, t)) (.tuple #[.string (⟨#[123]⟩ ++ D ++ ⟨#[125, 13, 10]⟩ ++ X), .bool (decide (X.size < 1000000000))])) := hide (by
        rw [hT, hst, hq]
        simp only
        by_cases hl : t.length ≤ 999999999
        · rw [if_pos hl, decide_eq_true (by omega)]
          show Value.tuple #[.string _, .bool true] = .tuple #[.string (bts _), .bool true]
          refine congrArg (fun x => Value.tuple #[.string x, .bool true]) (ext_list ?_)
          rw [toList_bts, hD]
          simp only [ByteArray.data_append, Array.toList_append]
          show [123] ++ (bts (Lib.decDigits X.size)).data.toList ++ [125, 13, 10] ++ X.data.toList = _
          rw [toList_bts, hXl, hXz]
          simp
        · rw [if_neg hl, decide_eq_false (by omega)]; exact ⟨_, rfl⟩)
      have hdz : decide ((X.size : Int) < 1000000000) = decide (X.size < 1000000000) := by rw [Bool.eq_iff_iff]; simp; omega
      have hxz : X.size ≤ 274877906944 := by omega
      have hcv : IntKind.u64.wrap (X.size : Int) = (X.size : Int) := by rw [IntKind.wrap_u64]; omega
      generalize decide (X.size < 1000000000) = r at hdz HF
      clear hI hD hq hst hT k2 k3 k4 hX hXl hXz hs
      have z1 : (ByteArray.mk #[123]).size = 1 := rfl
      have z3 : (ByteArray.mk #[125, 13, 10]).size = 3 := rfl
      go_enter Tryd.func36, Tryd.ntmps36
      go_wp2_with fail
      refine (unhide HQ _).mono ?_
      rintro e w1 ⟨rfl, h1⟩
      go_upto_region 9 with (fail)
      generalize w.alloc (.cells #[.int .u8 (k : Int), .string X] 39) = W at HB HK c0 c1 h1 ⊢
      subst h1
      have HK2 := hide (blk_drewK (unhide HK))
      have HCC := hide (fun W' (hb : Below w1.heap.size w1 W') => (Blk.cell ((unhide HK).below hb) 1).trans (show (#[Value.int .u8 (k : Int), .string X] : Array Value)[1]? = some (.string X) from rfl))
      refine wp_region_held_drew (S := (fun w' => w'.cell? ⟨w.heap.size, 1, none⟩ = some (.string X))) (by kernel_rfl) ?_ (fun hHeld => ?_)
      · exact unhide HCC _ (Below.drew (Below.refl _ _))
      refine wpAnyH_take (i := 0) (v := .pointer (some ⟨w.heap.size, 1, none⟩)) rfl (by kernel_rfl) (by kernel_rfl) (by kernel_rfl) (fun _ _ _ h => h) (Or.inl ⟨by kernel_rfl, fun wS hSw => ?_⟩) (by assumption) ?_
      · (try dsimp only at hSw); go_simp
      (try simp only [Act.put, List.setIfInBounds_toArray, List.set_cons_zero, List.set_cons_succ])
      refine wpAnyH_take (i := 1) (v := .string X) rfl (by kernel_rfl) (by kernel_rfl) (by kernel_rfl) (fun _ _ _ h => h) (Or.inl ⟨by kernel_rfl, fun wS hSw => ?_⟩) (by assumption) ?_
      · (try dsimp only at hSw); go_simp
      (try simp only [Act.put, List.setIfInBounds_toArray, List.set_cons_zero, List.set_cons_succ])
      refine wpAnyH_take (i := 2) (v := .int .i64 (X.size : Int)) rfl (by kernel_rfl) (by kernel_rfl) (by kernel_rfl) (fun _ _ _ h => h) (Or.inl ⟨by kernel_rfl, fun wS hSw => ?_⟩) (by assumption) ?_
      · (try dsimp only at hSw); go_simp
      (try simp only [Act.put, List.setIfInBounds_toArray, List.set_cons_zero, List.set_cons_succ])
      refine wpAnyH_take (i := 3) (v := .int .u64 (X.size : Int)) rfl (by kernel_rfl) (by kernel_rfl) (by kernel_rfl) (fun _ _ _ h => h) (Or.inl ⟨by kernel_rfl, fun wS hSw => ?_⟩) (by assumption) ?_
      · (try dsimp only at hSw); go_simp
      (try simp only [Act.put, List.setIfInBounds_toArray, List.set_cons_zero, List.set_cons_succ])
      refine wpAnyH_take (i := 7) (v := .pointer (some ⟨w.heap.size, 1, none⟩)) rfl (by kernel_rfl) (by kernel_rfl) (by kernel_rfl) (fun _ _ _ h => h) (Or.inl ⟨by kernel_rfl, fun wS hSw => ?_⟩) (by assumption) ?_
      · (try dsimp only at hSw); go_simp
      (try simp only [Act.put, List.setIfInBounds_toArray, List.set_cons_zero, List.set_cons_succ])
      refine wpAnyH_take (i := 8) (v := .string X) rfl (by kernel_rfl) (by kernel_rfl) (by kernel_rfl) (fun _ _ _ h => h) (Or.inl ⟨by kernel_rfl, fun wS hSw => ?_⟩) (by assumption) ?_
      · (try dsimp only at hSw); go_simp
      (try simp only [Act.put, List.setIfInBounds_toArray, List.set_cons_zero, List.set_cons_succ])
      refine wpAnyH_take (i := 10) (v := .pointer (some ⟨w.heap.size, 1, none⟩)) rfl (by kernel_rfl) (by kernel_rfl) (by kernel_rfl) (fun _ _ _ h => h) (Or.inl ⟨by kernel_rfl, fun wS hSw => ?_⟩) (by assumption) ?_
      · (try dsimp only at hSw); go_simp
      (try simp only [Act.put, List.setIfInBounds_toArray, List.set_cons_zero, List.set_cons_succ])
      refine wpAnyH_take (i := 11) (v := .string X) rfl (by kernel_rfl) (by kernel_rfl) (by kernel_rfl) (fun _ _ _ h => h) (Or.inl ⟨by kernel_rfl, fun wS hSw => ?_⟩) (by assumption) ?_
      · (try dsimp only at hSw); go_simp
      (try simp only [Act.put, List.setIfInBounds_toArray, List.set_cons_zero, List.set_cons_succ])
      refine wpAnyH_take (i := 12) (v := .int .i64 (X.size : Int)) rfl (by kernel_rfl) (by kernel_rfl) (by kernel_rfl) (fun _ _ _ h => h) (Or.inl ⟨by kernel_rfl, fun wS hSw => ?_⟩) (by assumption) ?_
      · (try dsimp only at hSw); go_simp
      (try simp only [Act.put, List.setIfInBounds_toArray, List.set_cons_zero, List.set_cons_succ])
      refine wpAnyH_take (i := 13) (v := .bool r) rfl (by kernel_rfl) (by kernel_rfl) (by kernel_rfl) (fun _ _ _ h => h) (Or.inl ⟨by kernel_rfl, fun wS hSw => ?_⟩) (by assumption) ?_
      · (try dsimp only at hSw); go_simp
      (try simp only [Act.put, List.setIfInBounds_toArray, List.set_cons_zero, List.set_cons_succ])
      refine wpAnyH_ready (rs := [4]) (by kernel_rfl) (by simp) ?_
      refine AllReadyH.cons rfl (fun K hK => ?_) AllReadyH.nil
      go_simp
      refine (unhide HI _).mono ?_
      rintro e w3 ⟨rfl, b3⟩
      have hB3 := below_undrew b3
      clear b3
      go_wp2_with fail
      refine hK.out _ _ ?_ (fun hHeld => ?_)
      · exact unhide HCC _ hB3
      clear hK K
      (try simp only [Act.put, List.setIfInBounds_toArray, List.set_cons_zero, List.set_cons_succ])
      refine wpAnyH_take (i := 5) (v := .string (⟨#[123]⟩ ++ D)) rfl (by kernel_rfl) (by kernel_rfl) (by kernel_rfl) (fun _ _ _ h => h) (Or.inl ⟨by kernel_rfl, fun wS hSw => ?_⟩) (by assumption) ?_
      · (try dsimp only at hSw); go_simp <;> omega
      (try simp only [Act.put, List.setIfInBounds_toArray, List.set_cons_zero, List.set_cons_succ])
      (try simp only [List.getElem_toArray, List.getElem_cons_succ, List.getElem_cons_zero, Act.put, List.setIfInBounds_toArray, List.set_cons_zero, List.set_cons_succ])
      refine wpAnyH_take (i := 6) (v := .string (⟨#[123]⟩ ++ D ++ ⟨#[125, 13, 10]⟩)) rfl (by kernel_rfl) (by kernel_rfl) (by kernel_rfl) (fun _ _ _ h => h) (Or.inl ⟨by kernel_rfl, fun wS hSw => ?_⟩) (by assumption) ?_
      · (try dsimp only at hSw); go_simp <;> omega
      (try simp only [Act.put, List.setIfInBounds_toArray, List.set_cons_zero, List.set_cons_succ])
      (try simp only [List.getElem_toArray, List.getElem_cons_succ, List.getElem_cons_zero, Act.put, List.setIfInBounds_toArray, List.set_cons_zero, List.set_cons_succ])
      refine wpAnyH_take (i := 9) (v := .string (⟨#[123]⟩ ++ D ++ ⟨#[125, 13, 10]⟩ ++ X)) rfl (by kernel_rfl) (by kernel_rfl) (by kernel_rfl) (fun _ _ _ h => h) (Or.inl ⟨by kernel_rfl, fun wS hSw => ?_⟩) (by assumption) ?_
      · (try dsimp only at hSw); go_simp <;> omega
      (try simp only [Act.put, List.setIfInBounds_toArray, List.set_cons_zero, List.set_cons_succ])
      (try simp only [List.getElem_toArray, List.getElem_cons_succ, List.getElem_cons_zero, Act.put, List.setIfInBounds_toArray, List.set_cons_zero, List.set_cons_succ])
      refine wpAnyH_take (i := 14) (v := .string (⟨#[123]⟩ ++ D ++ ⟨#[125, 13, 10]⟩ ++ X)) rfl (by kernel_rfl) (by kernel_rfl) (by kernel_rfl) (fun _ _ _ h => h) (Or.inl ⟨by kernel_rfl, fun wS hSw => ?_⟩) (by assumption) ?_
      · (try dsimp only at hSw); go_simp
      (try simp only [Act.put, List.setIfInBounds_toArray, List.set_cons_zero, List.set_cons_succ])
      (try simp only [List.getElem_toArray, List.getElem_cons_succ, List.getElem_cons_zero, Act.put, List.setIfInBounds_toArray, List.set_cons_zero, List.set_cons_succ])
      refine wpAnyH_take (i := 15) (v := .bool r) rfl (by kernel_rfl) (by kernel_rfl) (by kernel_rfl) (fun _ _ _ h => h) (Or.inl ⟨by kernel_rfl, fun wS hSw => ?_⟩) (by assumption) ?_
      · (try dsimp only at hSw); go_simp
      (try simp only [Act.put, List.setIfInBounds_toArray, List.set_cons_zero, List.set_cons_succ])
      (try simp only [List.getElem_toArray, List.getElem_cons_succ, List.getElem_cons_zero, Act.put, List.setIfInBounds_toArray, List.set_cons_zero, List.set_cons_succ])
      refine wpAnyH_done (by kernel_rfl) ?_ _
      clear hHeld
      clear hDz hxz hcv hdz z1 z3 hk b1 b2 b3 b4
      go_wp2
      go_ret2
      exact ⟨⟨_, rfl, unhide HF⟩, (unhide HB).trans (hB3.mono (unhide HB).size)⟩
  rw [decide_eq_false k2] at b2
  by_cases k1 : k = 1
  · rw [decide_eq_true k1] at b1
    have hT : textA (k, t) = if t ≠ [] ∧ t.all isA then some t else none := by rw [textA, if_pos k1]
    have HT := hide hT
    have HX := hide hX
    have HXL := hide hXl
    have hxz : X.size ≤ 274877906944 := by omega
    have hze : X.toList.isEmpty = decide (t = []) := by
      rw [is_empty, Bool.eq_iff_iff]; simp only [decide_eq_true_eq]
      rw [hXz]; exact List.length_eq_zero_iff
    clear hT k1 k2 k3 k4 hX hXl hXz hs
    have HZE := hide hze
    clear hze
    go_enter Tryd.func36, Tryd.ntmps36
    go_wp2
    generalize w.alloc (.cells #[.int .u8 (k : Int), .string X] 39) = W at HB c0 c1 ⊢
    go_loop [6] (fun zi => ∃ i : Nat, zi = .int .i64 i ∧ i ≤ X.size ∧ Hid ((X.data.toList.take i).all isA = true)) (fun zi => X.size - (intOf zi).toNat)
    case atStart => exact ⟨0, rfl, Nat.zero_le _, hide rfl⟩
    case round =>
      obtain ⟨i, rfl, hi, HA⟩ := hrel
      by_cases hlt : i < X.size
      · have hlt1 : (i : Int) < (X.size : Int) := by omega
        have hc := X[i].toNat_lt
        have HLT := hide (fun W => refLetter_any X[i] W)
        cases ha : isA X[i] with
        | true =>
          rw [ha] at HLT
          have HA2 : Hid ((X.data.toList.take (i + 1)).all isA = true) := hide (by
            rw [take_byte X i hlt, List.all_append, unhide HA]; simp [ha])
          clear HA ha
          go_wp2_with fail
          refine (unhide HLT _).mono ?_
          rintro e w1 ⟨rfl, h1⟩
          subst h1
          go_wp2
          go_round
          case rel => exact ⟨i + 1, by go_num, by omega, HA2⟩
          case measure => simp [intOf]; omega
        | false =>
          rw [ha] at HLT
          have HF : Hid (FtxV (textA (k, t)) (.tuple #[.string ⟨#[]⟩, .bool false])) := hide (by
            rw [unhide HT, if_neg (by have := atom_no hlt ha; rw [unhide HXL] at this; exact this)]; exact ⟨_, rfl⟩)
          clear HA ha
          go_wp2_with fail
          refine (unhide HLT _).mono ?_
          rintro e w1 ⟨rfl, h1⟩
          subst h1
          go_wp2
          go_ret2
          exact ⟨⟨_, rfl, unhide HF⟩, unhide HB⟩
      · have hlt1 : ¬ (i : Int) < (X.size : Int) := by omega
        have hal : t.all isA = true := by
          have := unhide HA
          rwa [List.take_of_length_le (by rw [sizeL]; omega), unhide HXL] at this
        have he := unhide HZE
        have HF : Hid (FtxV (textA (k, t)) (.tuple #[.string X, .bool (!decide (t = []))])) := hide (by
          rw [unhide HT]
          by_cases h : t = []
          · rw [if_neg (fun h' => h'.1 h), decide_eq_true h]; exact ⟨_, rfl⟩
          · rw [if_pos ⟨h, hal⟩, decide_eq_false h, unhide HX]; rfl)
        generalize decide (t = []) = r at he HF
        clear HA hal HT HX HXL HZE
        cases r <;>
        · go_wp2
          go_quiet (fail)
          go_wp2
          go_ret2
          exact ⟨⟨_, rfl, unhide HF⟩, below_drewN (unhide HB) _⟩
  rw [decide_eq_false k1] at b1
  have HF : Hid (FtxV (textA (k, t)) (.tuple #[.string ⟨#[]⟩, .bool false])) := hide (by
    rw [textA, if_neg k1, if_neg k2, if_neg k3, if_neg k4]; exact ⟨_, rfl⟩)
  clear k1 k2 k3 k4 hX hXl hXz
  go_enter Tryd.func36, Tryd.ntmps36
  go_wp2
  go_ret2
  exact ⟨⟨_, rfl, unhide HF⟩, unhide HB⟩
end Go.Proofs.YtafegjbhaofgiaaDoor
