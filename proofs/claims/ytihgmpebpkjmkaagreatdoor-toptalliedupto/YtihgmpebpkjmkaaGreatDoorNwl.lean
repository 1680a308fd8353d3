/-
  What nset.readEnd and nset.readSpan do, over this seat's program.
-/
import Derived.Test.YtihgmpebpkjmkaaGreatDoorNwa
import Derived.Test.YtihgmpebpkjmkaaGreatDoorCts
import Derived.Laws.ResultCell
set_option linter.unusedVariables false
namespace Go.Proofs.YtihgmpebpkjmkaaGreatDoor
open Go.RowKit Go.Proofs.Nst

/-- The library's two errors of a text that is no number lie in their variables. -/
def ErrV (g : Nat) (w : World) : Prop := g < w.heap.size ∧ ∃ ev, w.cell? ⟨g, 0, none⟩ = some ev ∧ (ev = .nilIface ∨ ∃ te pe, ev = .iface te pe)
theorem ErrV.below {g : Nat} {w w' : World} (h : ErrV g w) (hb : Below w.heap.size w w') : ErrV g w' := by
  obtain ⟨h1, ev, h2, h3⟩ := h
  have := hb.size
  exact ⟨by omega, ev, (hb.cell (p := ⟨g, 0, none⟩) h1).trans h2, h3⟩
def ErrN (w : World) : Prop := ErrV 7 w ∧ ErrV 8 w
theorem ErrN.below {w w' : World} (h : ErrN w) (hb : Below w.heap.size w w') : ErrN w' := ⟨h.1.below hb, h.2.below hb⟩
/-- What strconv.ParseUint answers, as far as it is looked at. -/
theorem parse_any (s : ByteArray) (w : World) (hE : ErrN w) (hs : s.size ≤ 281474976710656) :
    Calls Tryz.prog 89 #[.string s, .int .i64 10, .int .i64 32] w fun e w' => (match Lib.parseUintB 32 s.data.toList with
      | .ok u => e = .returned (.tuple #[.int .u64 (u : Int), .nilIface])
      | .range => ∃ t p, e = .returned (.tuple #[.int .u64 4294967295, .iface t p])
      | _ => ∃ t p, e = .returned (.tuple #[.int .u64 0, .iface t p])) ∧ Below w.heap.size w w' := by
  cases hp : Lib.parseUintB 32 s.data.toList with
  | ok u =>
    refine (Tryz.strconv_ParseUint_10_at32_ok s (by omega) u hp w).mono ?_
    rintro e w' ⟨rfl, rfl | rfl⟩
    · exact ⟨rfl, Below.refl _ _⟩
    · exact ⟨rfl, Lib.bytesWorld_below _ _ _⟩
  | «syntax» =>
    obtain ⟨h1, ev, h2, h3⟩ := hE.1
    refine (Tryz.strconv_ParseUint_10_at32_syntax s hs hp ev w h2 h3).mono ?_
    rintro e w' ⟨N, rfl, _, _, hb⟩
    exact ⟨⟨_, _, rfl⟩, hb⟩
  | range =>
    obtain ⟨h1, ev, h2, h3⟩ := hE.2
    refine (Tryz.strconv_ParseUint_10_at32_range s hs hp ev w h2 h3).mono ?_
    rintro e w' ⟨N, rfl, _, _, hb⟩
    exact ⟨⟨_, _, rfl⟩, hb⟩
theorem prefix0 (l : List UInt8) : Lib.hasPrefix l [48] = decide (l.head? = some 48) := by
  unfold Lib.hasPrefix
  cases l with
  | nil => simp [List.isPrefixOf]
  | cons a r =>
    simp [List.isPrefixOf]
    rw [Bool.eq_iff_iff]
    simp
    exact eq_comm
theorem parse_fit32 {l : List UInt8} {u : Nat} (h : Lib.parseUintB 32 l = .ok u) : u ≤ 4294967295 := by
  unfold Lib.parseUintB at h
  split at h
  · cases h
  · have hle : ∀ (l : List UInt8) (acc : Nat), acc ≤ 4294967295 → Lib.parseUintM (2 ^ 32 - 1) acc l = .ok u → u ≤ 4294967295 := by
      intro l
      induction l with
      | nil => intro acc ha hh; simp only [Lib.parseUintM] at hh; injection hh with hh; omega
      | cons x r ih =>
        intro acc ha hh
        unfold Lib.parseUintM at hh
        split at hh
        · split at hh
          · cases hh
          · split at hh
            · cases hh
            · exact ih _ (by omega) hh
        · cases hh
    exact hle _ 0 (by omega) h

set_option maxHeartbeats 1000000 in
set_option maxRecDepth 100000 in
theorem readEnd_any (s : ByteArray) (w : World) (hE : ErrN w) (hs : s.size ≤ 281474976710656) :
    Calls Tryz.prog 73 #[.string s] w fun e w' => e = .returned (.tuple #[.int .u32 ((endP s.data.toList).1 : Int), .bool (endP s.data.toList).2]) ∧ Below w.heap.size w w' := by
  obtain ⟨R, hR⟩ : ∃ R, R = endP s.data.toList := ⟨_, rfl⟩
  rw [← hR]
  have HR := hide hR
  have HP := hide (fun W => Tryz.strings_HasPrefix s ⟨#[48]⟩ W)
  rw [show (⟨#[48]⟩ : ByteArray).data.toList = [48] from rfl, prefix0] at HP
  have HU := hide (fun W (hE : ErrN W) => parse_any s W hE hs)
  have HE := hide hE
  clear hR hE
  by_cases h1 : s = ⟨#[42]⟩
  · have HV : Hid (R = (0, true)) := hide (by rw [unhide HR, h1]; rfl)
    have hb : (s.toList == [42]) = true := by rw [h1]; decide +kernel
    clear h1
    go_enter Tryz.func73, Tryz.ntmps73
    go_wp2
    go_ret2
    exact ⟨by rw [unhide HV]; rfl, Below.refl _ _⟩
  · have hl1 : ¬ s.data.toList = [42] := fun h => h1 (ext_list h)
    have hb : (s.toList == [42]) = false := by
      have := beqS s ⟨#[42]⟩
      rw [show (⟨#[42]⟩ : ByteArray).toList = [42] by decide +kernel] at this
      rw [this]
      exact decide_eq_false h1
    by_cases h2 : s.data.toList.head? = some 48
    · have HV : Hid (R = (0, false)) := hide (by rw [unhide HR]; unfold endP; rw [if_neg hl1, if_pos h2])
      rw [decide_eq_true h2] at HP
      clear h1 h2 hl1
      go_enter Tryz.func73, Tryz.ntmps73
      go_wp2_with fail
      refine (unhide HP _).mono ?_
      rintro e w1 ⟨rfl, hw1⟩
      subst hw1
      go_wp2
      go_ret2
      exact ⟨by rw [unhide HV]; rfl, Below.refl _ _⟩
    · rw [decide_eq_false h2] at HP
      have HEP : Hid (R = match Lib.parseUintB 32 s.data.toList with | .ok u => (u, true) | .range => (4294967295, false) | _ => (0, false)) := hide (by rw [unhide HR]; unfold endP; rw [if_neg hl1, if_neg h2]; cases Lib.parseUintB 32 s.data.toList <;> rfl)
      have HFT := hide (fun u => parse_fit32 (l := s.data.toList) (u := u))
      clear h1 h2 hl1
      generalize Lib.parseUintB 32 s.data.toList = pu at HU HEP HFT
      go_enter Tryz.func73, Tryz.ntmps73
      go_wp2_with fail
      refine (unhide HP _).mono ?_
      rintro e w1 ⟨rfl, hw1⟩
      subst hw1
      go_wp2_with fail
      refine (unhide HU _ (unhide HE)).mono ?_
      rintro e w2 ⟨he, hb2⟩
      have HB2 := hide hb2
      cases pu with
      | ok u =>
        simp only at he
        subst he
        have HV : Hid (R = (u, true)) := HEP
        have hu := unhide HFT u rfl
        have hw : IntKind.u32.wrap (u : Int) = (u : Int) := by rw [IntKind.wrap_u32]; omega
        clear hb2 HU HEP HFT HP
        go_wp2
        go_quiet (fail)
        go_wp2
        go_ret2
        exact ⟨by rw [unhide HV]; rfl, below_drewN (unhide HB2) _⟩
      | range =>
        simp only at he
        obtain ⟨t, p, rfl⟩ := he
        have HV : Hid (R = (4294967295, false)) := HEP
        clear hb2 HU HEP HFT HP
        go_wp2
        go_quiet (fail)
        go_wp2
        go_ret2
        exact ⟨by rw [unhide HV]; rfl, below_drewN (unhide HB2) _⟩
      | «syntax» =>
        simp only at he
        obtain ⟨t, p, rfl⟩ := he
        have HV : Hid (R = (0, false)) := HEP
        clear hb2 HU HEP HFT HP
        go_wp2
        go_quiet (fail)
        go_wp2
        go_ret2
        exact ⟨by rw [unhide HV]; rfl, below_drewN (unhide HB2) _⟩

/-- How cutB tells what cutAt tells. -/
theorem cutB_at (c : UInt8) : ∀ l, cutB c l = match cutAt c l with | none => (l, [], false) | some (n, v) => (n, v, true)
  | [] => rfl
  | x :: r => by
    have ih := cutB_at c r
    unfold cutB cutAt
    by_cases h : x = c
    · rw [if_pos h, if_pos h]
    · rw [if_neg h, if_neg h, ih]
      cases cutAt c r with
      | none => rfl
      | some p => rfl
/-- strings.Cut at one byte, in these words. -/
theorem cutN_any (c : UInt8) (s : ByteArray) (w : World) (hs : s.size ≤ 281474976710656) :
    Calls Tryz.prog 50 #[.string s, .string ⟨#[c]⟩] w fun e w' => (∃ x y, e = .returned (.tuple #[.string x, .string y, .bool (cutB c s.data.toList).2.2]) ∧ x.data.toList = (cutB c s.data.toList).1 ∧ y.data.toList = (cutB c s.data.toList).2.1 ∧ x.size ≤ s.size ∧ y.size ≤ s.size) ∧ Below w.heap.size w w' := by
  refine (cut1_any c s w hs).mono ?_
  rintro e w' ⟨rfl, q, rfl⟩
  refine ⟨?_, below_drewN (Below.refl _ _) _⟩
  have hi := index_cut c s.data.toList
  rw [cutB_at]
  cases hc : cutAt c s.data.toList with
  | none => exact ⟨s, ⟨#[]⟩, rfl, rfl, rfl, Nat.le_refl _, Nat.zero_le _⟩
  | some p =>
    obtain ⟨n, v⟩ := p
    rw [hc] at hi
    have hl := congrArg List.length hi.2
    rw [sizeL, List.length_append, List.length_cons] at hl
    exact ⟨bts n, bts v, rfl, toList_bts _, toList_bts _, by rw [size_bts]; omega, by rw [size_bts]; omega⟩

set_option maxHeartbeats 1000000 in
set_option maxRecDepth 100000 in
theorem readSpan_any (s : ByteArray) (w : World) (hE : ErrN w) (hs : s.size ≤ 281474976710656) :
    Calls Tryz.prog 51 #[.string s] w fun e w' => e = .returned (.tuple #[.agg #[.int .u32 ((spanP s.data.toList).1.1 : Int), .int .u32 ((spanP s.data.toList).1.2 : Int)], .bool (spanP s.data.toList).2]) ∧ Below w.heap.size w w' := by
  obtain ⟨R, hR⟩ : ∃ R, R = spanP s.data.toList := ⟨_, rfl⟩
  rw [← hR]
  have HR := hide hR
  have HC := hide (fun W => cutN_any 58 s W hs)
  have HRE := hide (fun (x : ByteArray) W (hE : ErrN W) (h : x.size ≤ 281474976710656) => readEnd_any x W hE h)
  have HSP : Hid (R = if (cutB 58 s.data.toList).2.2 then (((endP (cutB 58 s.data.toList).1).1, (endP (cutB 58 s.data.toList).2.1).1), (endP (cutB 58 s.data.toList).1).2 && (endP (cutB 58 s.data.toList).2.1).2 && decide ((endP (cutB 58 s.data.toList).1).1 ≠ (endP (cutB 58 s.data.toList).2.1).1)) else (((endP (cutB 58 s.data.toList).1).1, (endP (cutB 58 s.data.toList).1).1), (endP (cutB 58 s.data.toList).1).2)) := hide (by rw [hR]; rfl)
  have HE := hide hE
  have HB0 := hide (below_alloc0 w (.cells #[.int .u32 0, .int .u32 0] 79))
  clear hR hE HR
  go_enter Tryz.func51, Tryz.ntmps51
  go_wp2_with fail
  refine (unhide HC _).mono ?_
  rintro e w1 ⟨⟨x, y, rfl, hx, hy, hxs, hys⟩, hb1⟩
  have hBk1 : Blk w1 w.heap.size 79 #[.int .u32 0, .int .u32 0] := (Blk.new w _ _).below hb1
  have hB1 := belows' (unhide HB0) hb1
  have HE1 := hide ((unhide HE).below hB1)
  have HX := hide hx
  have HY := hide hy
  clear hx hy hb1 HC
  have HRX := hide (unhide HRE x w1 (unhide HE1) (by omega))
  rw [unhide HX] at HRX
  have HRY := hide (fun W (h : ErrN W) => unhide HRE y W h (by omega))
  rw [unhide HY] at HRY
  generalize (cutB 58 s.data.toList).2.2 = two at HSP ⊢
  generalize endP (cutB 58 s.data.toList).1 = P at HSP HRX
  generalize endP (cutB 58 s.data.toList).2.1 = Q at HSP HRY
  go_wp2_with fail
  refine (unhide HRX).mono ?_
  rintro e w2 ⟨rfl, hb2⟩
  have hBk2 := hBk1.below hb2
  have hB2 := belows' hB1 hb2
  have HE2 := hide ((unhide HE1).below hb2)
  clear hBk1 hB1 hb2 HRX
  obtain ⟨p, bp⟩ := P
  obtain ⟨q, bq⟩ := Q
  simp only at HSP HRY ⊢
  have c0 : w2.cell? ⟨w.heap.size, 0, none⟩ = some (.int .u32 0) := Blk.cell hBk2 0
  have c1 : w2.cell? ⟨w.heap.size, 1, none⟩ = some (.int .u32 0) := Blk.cell hBk2 1
  have f0 : w2.frozen? ⟨w.heap.size, 0, none⟩ = false := Blk.frozen hBk2 0
  have f1 : w2.frozen? ⟨w.heap.size, 1, none⟩ = false := Blk.frozen hBk2 1
  cases two with
  | false =>
    have HV : Hid (R = ((p, p), bp)) := HSP
    have HFIN : Hid (∀ u v : Value, Below w.heap.size w ((w2.setCell ⟨w.heap.size, 0, none⟩ u).setCell ⟨w.heap.size, 1, none⟩ v)) := hide (fun u v => (hB2.setCell (p := ⟨w.heap.size, 0, none⟩) (Nat.le_refl _) _).setCell (p := ⟨w.heap.size, 1, none⟩) (Nat.le_refl _) _)
    clear hBk2 hB2 HSP HRY HRE HE2 HE1 HE
    go_wp2
    (try simp only [Exit.inBlock, Exit.then])
    refine bodyPost_ret (v := .tuple #[.agg #[.int .u32 (p : Int), .int .u32 (p : Int)], .bool bp]) ?_ rfl ⟨?_, unhide HFIN _ _⟩
    · rw [results_cell_tmp rfl]
      go_simp
    · rw [unhide HV]
  | true =>
    have HV : Hid (R = ((p, q), bp && bq && decide (p ≠ q))) := HSP
    have HRY2 := hide (unhide HRY w2 (unhide HE2))
    have HBK2 := hide hBk2
    have HB2 := hide hB2
    clear hBk2 hB2 HSP HRY HRE HE2 HE1 HE c0 c1 f0 f1
    go_wp2_with fail
    refine (unhide HRY2).mono ?_
    rintro e w3 ⟨rfl, hb3⟩
    have hBk3 := (unhide HBK2).below hb3
    have hB3 := belows' (unhide HB2) hb3
    have c0 : w3.cell? ⟨w.heap.size, 0, none⟩ = some (.int .u32 0) := Blk.cell hBk3 0
    have c1 : w3.cell? ⟨w.heap.size, 1, none⟩ = some (.int .u32 0) := Blk.cell hBk3 1
    have f0 : w3.frozen? ⟨w.heap.size, 0, none⟩ = false := Blk.frozen hBk3 0
    have f1 : w3.frozen? ⟨w.heap.size, 1, none⟩ = false := Blk.frozen hBk3 1
    have HFIN : Hid (∀ u v : Value, Below w.heap.size w ((w3.setCell ⟨w.heap.size, 0, none⟩ u).setCell ⟨w.heap.size, 1, none⟩ v)) := hide (fun u v => (hB3.setCell (p := ⟨w.heap.size, 0, none⟩) (Nat.le_refl _) _).setCell (p := ⟨w.heap.size, 1, none⟩) (Nat.le_refl _) _)
    clear hBk3 hB3 hb3 HBK2 HB2 HRY2
    cases bp with
    | false =>
      go_wp2
      (try simp only [Exit.inBlock, Exit.then])
      refine bodyPost_ret (v := .tuple #[.agg #[.int .u32 (p : Int), .int .u32 (q : Int)], .bool false]) ?_ rfl ⟨?_, unhide HFIN _ _⟩
      · rw [results_cell_tmp rfl]
        go_simp
      · rw [unhide HV]; rfl
    | true =>
      cases bq with
      | false =>
        go_wp2
        (try simp only [Exit.inBlock, Exit.then])
        refine bodyPost_ret (v := .tuple #[.agg #[.int .u32 (p : Int), .int .u32 (q : Int)], .bool false]) ?_ rfl ⟨?_, unhide HFIN _ _⟩
        · rw [results_cell_tmp rfl]
          go_simp
        · rw [unhide HV]; rfl
      | true =>
        by_cases hpq : p = q
        · have hpe : ((p : Int) == (q : Int)) = true := by simp [hpq]
          have HV2 : Hid (R = ((p, q), false)) := hide (by rw [unhide HV]; simp [hpq])
          have HPQ := hide hpq
          clear hpq
          go_wp2
          (try simp only [Exit.inBlock, Exit.then])
          refine bodyPost_ret (v := .tuple #[.agg #[.int .u32 (p : Int), .int .u32 (q : Int)], .bool false]) ?_ rfl ⟨?_, unhide HFIN _ _⟩
          · rw [results_cell_tmp rfl]
            go_simp
            have := unhide HPQ
            omega
          · rw [unhide HV2]
        · have hpe : ((p : Int) == (q : Int)) = false := by simp; omega
          have HV2 : Hid (R = ((p, q), true)) := hide (by rw [unhide HV]; simp [hpq])
          have HPQ := hide hpq
          clear hpq
          go_wp2
          (try simp only [Exit.inBlock, Exit.then])
          refine bodyPost_ret (v := .tuple #[.agg #[.int .u32 (p : Int), .int .u32 (q : Int)], .bool true]) ?_ rfl ⟨?_, unhide HFIN _ _⟩
          · rw [results_cell_tmp rfl]
            go_simp
            have := unhide HPQ
            omega
          · rw [unhide HV2]
end Go.Proofs.YtihgmpebpkjmkaaGreatDoor
