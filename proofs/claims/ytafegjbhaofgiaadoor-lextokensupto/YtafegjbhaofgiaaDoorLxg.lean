/-
  What lex.Next does, over this seat's program.
-/
import Derived.Test.YtafegjbhaofgiaaDoorLxl
import Derived.Deep.RegionHeld3
set_option linter.unusedVariables false
set_option linter.unusedSimpArgs false
namespace Go.Proofs.YtafegjbhaofgiaaDoor
open Go.RowKit Go.Proofs.Lx

/-- What Next tells of these bytes. -/
def nxV (D : List UInt8) : Value := if (nextL D).2.2 = 0 then .tuple #[.string (bts (D.take (nextL D).1)), .string (bts (D.drop (nextL D).2.1)), .int .i64 0] else .tuple #[.string ⟨#[]⟩, .string ⟨#[]⟩, .int .i64 ((nextL D).2.2 : Int)]
theorem nxV_ok {D : List UInt8} {a x : Nat} (h : nextL D = (a, x, 0)) : nxV D = .tuple #[.string (bts (D.take a)), .string (bts (D.drop x)), .int .i64 0] := by
  unfold nxV; rw [h]; rfl
theorem nxV_no {D : List UInt8} {e : Nat} (h : nextL D = (0, 0, e)) (he : e ≠ 0) : nxV D = .tuple #[.string ⟨#[]⟩, .string ⟨#[]⟩, .int .i64 (e : Int)] := by
  unfold nxV; rw [h, if_neg he]
/-- What is still to be read, behind k bytes with q bytes of lines and m literals. -/
def NxI (D : List UInt8) (k q m : Nat) : Prop := ∃ n, (D.drop k).length < n ∧ nextL D = nextA n k (D.drop k) q m
theorem NxI.open_ {D : List UInt8} {k q m : Nat} (h : NxI D k q m) (hc : cutB 10 (D.drop k) = none) : nextL D = (0, 0, if 8192 < q + (D.drop k).length then 15 else 5) := by
  obtain ⟨n, hn, h⟩ := h
  cases n with
  | zero => omega
  | succ n => rw [h, nextA, hc]
theorem NxI.end_ {D : List UInt8} {k q m : Nat} {l0 more : List UInt8} (h : NxI D k q m) (hm : m ≤ 16) (hc : cutB 10 (D.drop k) = some (l0, more)) (ha : annL (trimE l0 13) = none) : nextL D = if 8192 < q + (trimE l0 13).length then (0, 0, 15) else (k + (trimE l0 13).length, k + l0.length + 1, 0) := by
  obtain ⟨n, hn, h⟩ := h
  cases n with
  | zero => omega
  | succ n =>
    rw [h, nextA, hc]
    simp only [ha]
    by_cases h1 : 8192 < q + (trimE l0 13).length
    · rw [if_pos (Or.inl h1), if_pos h1]
    · rw [if_neg (by rintro (h | h) <;> omega), if_neg h1]
theorem NxI.long {D : List UInt8} {k q m b : Nat} {l0 more : List UInt8} (h : NxI D k q m) (hc : cutB 10 (D.drop k) = some (l0, more)) (ha : annL (trimE l0 13) = some b) (hb : 8192 < q + (trimE l0 13).length ∨ 65536 < b ∨ 16 < m + 1) : nextL D = (0, 0, 15) := by
  obtain ⟨n, hn, h⟩ := h
  cases n with
  | zero => omega
  | succ n =>
    rw [h, nextA, hc]
    simp only [ha]
    rw [if_pos hb]
theorem NxI.short {D : List UInt8} {k q m b : Nat} {l0 more : List UInt8} (h : NxI D k q m) (hc : cutB 10 (D.drop k) = some (l0, more)) (ha : annL (trimE l0 13) = some b) (hb : ¬ (8192 < q + (trimE l0 13).length ∨ 65536 < b ∨ 16 < m + 1)) (hs : more.length < b) : nextL D = (0, 0, 5) := by
  obtain ⟨n, hn, h⟩ := h
  cases n with
  | zero => omega
  | succ n =>
    rw [h, nextA, hc]
    simp only [ha]
    rw [if_neg hb, if_pos hs]
theorem NxI.next {D : List UInt8} {k q m b : Nat} {l0 more : List UInt8} (h : NxI D k q m) (hc : cutB 10 (D.drop k) = some (l0, more)) (ha : annL (trimE l0 13) = some b) (hb : ¬ (8192 < q + (trimE l0 13).length ∨ 65536 < b ∨ 16 < m + 1)) (hs : ¬ more.length < b) : NxI D (k + l0.length + 1 + b) (q + (trimE l0 13).length) (m + 1) := by
  obtain ⟨n, hn, h⟩ := h
  cases n with
  | zero => omega
  | succ n =>
    obtain ⟨hr, _⟩ := cutB_some hc
    have hd : D.drop (k + l0.length + 1 + b) = more.drop b := by
      have e : (l0 ++ 10 :: more).drop (l0.length + 1) = more := by
        rw [List.drop_append, List.drop_of_length_le (by omega), show l0.length + 1 - l0.length = 1 by omega]; rfl
      rw [show k + l0.length + 1 + b = k + (l0.length + 1 + b) by omega, ← List.drop_drop, hr, ← List.drop_drop, e]
    refine ⟨n, ?_, ?_⟩
    · rw [hd, List.length_drop]
      have : (D.drop k).length = l0.length + 1 + more.length := by rw [hr]; simp; omega
      omega
    · rw [h, nextA, hc]
      simp only [ha]
      rw [if_neg hb, if_neg hs, hd]
/-- What the frame of Next holds at its label. -/
def NxJ (s : ByteArray) (w : World) (a' : Act) (w' : World) : Prop :=
  w' = w ∧ ∃ (k q m : Nat) (u8 u9 u10 u11 u12 u13 u14 u15 u16 u17 u18 u19 u20 u21 u22 u23 u24 u25 u26 u27 u28 u29 u30 u31 u32 u33 u34 u35 u36 u37 u38 u39 u40 u41 u42 u43 u44 u45 u46 u47 u48 u49 u50 u51 u52 u53 u54 u55 u56 u57 u58 u59 u60 u61 u62 u63 u64 u65 u66 u67 u68 u69 u70 u71 u72 u73 u74 u75 u76 u77 u78 u79 u80 : Value), a' = { tmps := #[.string s, undef, .string ⟨#[]⟩, .string ⟨#[]⟩, .int .i64 0, .int .i64 k, .int .i64 q, .int .i64 m, u8, u9, u10, u11, u12, u13, u14, u15, u16, u17, u18, u19, u20, u21, u22, u23, u24, u25, u26, u27, u28, u29, u30, u31, u32, u33, u34, u35, u36, u37, u38, u39, u40, u41, u42, u43, u44, u45, u46, u47, u48, u49, u50, u51, u52, u53, u54, u55, u56, u57, u58, u59, u60, u61, u62, u63, u64, u65, u66, u67, u68, u69, u70, u71, u72, u73, u74, u75, u76, u77, u78, u79, u80], defers := [] } ∧ k ≤ s.size ∧ q ≤ 8192 ∧ m ≤ 16 ∧ Hid (NxI s.data.toList k q m)
theorem annR_lt {l : List UInt8} : ∀ m, annL l = some m → m < 1000000000 := fun m h => annL_lt h

set_option maxHeartbeats 1000000 in
set_option maxRecDepth 100000 in
theorem next_any (s : ByteArray) (w : World) (hs : s.size ≤ 4294967296) :
    Calls Tryd.prog 8 #[.string s] w fun e w' => e = .returned (nxV s.data.toList) ∧ Below w.heap.size w w' := by
  have HSZ := hide (sizeL s)
  go_enter Tryd.func8, Tryd.ntmps8
  go_wp2
  refine wp_scope_one 0 (NxJ s w) (fun a' _ => s.size - (intOf (a'.tmps.getD 5 undef)).toNat) rfl ?_ ?_
  · intro hp
    go_wp2
    go_step3
    rename_i K hK
    exact hK _ _ (hp _ _ ⟨rfl, 0, 0, 0, _, _, _, _, _, _, _, _, _, _, _, _, _, _, _, _, _, _, _, _, _, _, _, _, _, _, _, _, _, _, _, _, _, _, _, _, _, _, _, _, _, _, _, _, _, _, _, _, _, _, _, _, _, _, _, _, _, _, _, _, _, _, _, _, _, _, _, _, _, _, _, _, _, rfl, Nat.zero_le _, by omega, by omega, hide ⟨s.data.toList.length + 1, by simp, by simp [nextL]⟩⟩)
  · rintro a' w' ⟨rfl, k, q, m, u8, u9, u10, u11, u12, u13, u14, u15, u16, u17, u18, u19, u20, u21, u22, u23, u24, u25, u26, u27, u28, u29, u30, u31, u32, u33, u34, u35, u36, u37, u38, u39, u40, u41, u42, u43, u44, u45, u46, u47, u48, u49, u50, u51, u52, u53, u54, u55, u56, u57, u58, u59, u60, u61, u62, u63, u64, u65, u66, u67, u68, u69, u70, u71, u72, u73, u74, u75, u76, u77, u78, u79, u80, rfl, hk, hq, hm, HI⟩
    have hix := index_cut 10 (s.data.toList.drop k)
    rw [cutAt_eq] at hix
    have HX := hide (fun W => Tryd.strings_IndexByte (s.extract k s.size) 10 W)
    rw [toList_from, show (10 : Int).toNat.toUInt8 = 10 from rfl] at HX
    have hdl : (s.data.toList.drop k).length = s.size - k := by rw [List.length_drop, unhide HSZ]
    cases hc : cutB 10 (s.data.toList.drop k) with
    | none =>
      rw [hc] at hix
      simp only at hix
      rw [hix] at HX
      have hF := (unhide HI).open_ hc
      rw [hdl] at hF
      have HF : Hid (nxV s.data.toList = .tuple #[.string ⟨#[]⟩, .string ⟨#[]⟩, .int .i64 ((if 8192 < q + (s.size - k) then 15 else 5 : Nat) : Int)]) := hide (nxV_no hF (by split <;> omega))
      have hU := fun W => unended_any (q + (s.size - k)) W
      rw [show ((q + (s.size - k) : Nat) : Int) = (q : Int) + (s.size : Int) - (k : Int) by omega] at hU
      generalize (if 8192 < q + (s.size - k) then 15 else 5 : Nat) = E at hU HF
      have HU := hide hU
      clear hix hc hF hU hdl HI
      go_wp2_with fail
      refine (unhide HX _).mono ?_
      rintro e w1 ⟨rfl, h1⟩
      subst h1
      go_wp2_with fail
      refine (unhide HU _).mono ?_
      rintro e w1 ⟨rfl, h1⟩
      subst h1
      go_wp2
      simp only [Exit.jump]
      go_ret3
      exact ⟨by rw [unhide HF]; rfl, Below.refl _ _⟩
    | some p =>
      obtain ⟨l0, more⟩ := p
      rw [hc] at hix
      obtain ⟨hi1, hi2⟩ := hix
      rw [hi1] at HX
      obtain ⟨z, hz⟩ : ∃ z, z = l0.length := ⟨_, rfl⟩
      rw [← hz] at HX
      have hml : s.size - k = z + 1 + more.length := by rw [← hdl, hi2, hz]; simp; omega
      obtain ⟨ml, hmle⟩ : ∃ ml, ml = more.length := ⟨_, rfl⟩
      have hsk : k + z + 1 + ml = s.size := by omega
      have hex : (s.extract k (k + z)).data.toList = l0 := by
        rw [toList_part, hi2, show k + z - k = z by omega, hz, List.take_left]
      have HT := hide (fun W => trimSuffix_any (s.extract k (k + z)) 13 W (by rw [ByteArray.size_extract]; omega))
      rw [hex] at HT
      have htl := trimE_len l0 13
      obtain ⟨D, hD⟩ : ∃ D, D = bts (trimE l0 13) := ⟨_, rfl⟩
      have hDz : D.size = (trimE l0 13).length := by rw [hD, size_bts]
      have hDl : D.data.toList = trimE l0 13 := by rw [hD, toList_bts]
      rw [← hD] at HT
      have HA := hide (fun W => annL_any D W (by omega))
      rw [hDl] at HA
      have hDle : D.size ≤ z := by omega
      have hl0 : trimE l0 13 = (s.data.toList.drop k).take D.size := by
        rw [hDz, hi2, List.take_append_of_le_length htl, ← trimE_take]
      have I1 := hide (fun ha => (unhide HI).end_ hm hc ha)
      have I2 := hide (fun b ha hb => (unhide HI).long (b := b) hc ha hb)
      have I3 := hide (fun b ha hb hs => (unhide HI).short (b := b) hc ha hb hs)
      have I4 := hide (fun b ha hb hs => (unhide HI).next (b := b) hc ha hb hs)
      rw [← hDz, ← hz] at I1
      rw [← hDz] at I2
      rw [← hDz, ← hmle] at I3
      rw [← hDz, ← hmle, ← hz] at I4
      have HLT := hide (annR_lt (l := trimE l0 13))
      clear HI hc hi1 hi2 hz hmle hex htl hD hDl hDz hl0 hml hdl
      generalize annL (trimE l0 13) = o at HA I1 I2 I3 I4 HLT
      have hz0 : ¬ (z : Int) < 0 := by omega
      have hsl1 := fun W => slice_km s k z (by omega) W
      have hsl2 := fun W => slice_upto s ((k : Int) + (D.size : Int)) (k + D.size) (by omega) (by omega) W
      have hsl3 := fun W => slice_from s ((k : Int) + (z : Int) + 1) (k + z + 1) (by omega) (by omega) W
      by_cases hlong : 8192 < q + D.size
      · have hlong' : 8192 < (q : Int) + (D.size : Int) := by omega
        cases o with
        | none =>
          have HF := hide (nxV_no ((unhide I1 rfl).trans (if_pos hlong)) (by omega))
          clear I1 I2 I3 I4 HLT hlong
          simp only [annV] at HA
          go_wp2_with fail
          refine (unhide HX _).mono ?_
          rintro e w1 ⟨rfl, h1⟩
          subst h1
          go_wp2_with fail
          refine (unhide HT _).mono ?_
          rintro e w1 ⟨rfl, h1⟩
          subst h1
          go_wp2_with fail
          refine (unhide HA _).mono ?_
          rintro e w1 ⟨rfl, h1⟩
          subst h1
          go_wp2
          simp only [Exit.jump]
          go_ret3
          exact ⟨by rw [unhide HF]; rfl, Below.refl _ _⟩
        | some b =>
          have HF := hide (nxV_no (unhide I2 b rfl (Or.inl hlong)) (by omega))
          clear I1 I2 I3 I4 HLT hlong
          simp only [annV] at HA
          go_wp2_with fail
          refine (unhide HX _).mono ?_
          rintro e w1 ⟨rfl, h1⟩
          subst h1
          go_wp2_with fail
          refine (unhide HT _).mono ?_
          rintro e w1 ⟨rfl, h1⟩
          subst h1
          go_wp2_with fail
          refine (unhide HA _).mono ?_
          rintro e w1 ⟨rfl, h1⟩
          subst h1
          go_wp2
          simp only [Exit.jump]
          go_ret3
          exact ⟨by rw [unhide HF]; rfl, Below.refl _ _⟩
      · have hlong' : ¬ 8192 < (q : Int) + (D.size : Int) := by omega
        cases o with
        | none =>
          have hm' : ¬ 16 < (m : Int) := by omega
          have hF := nxV_ok ((unhide I1 rfl).trans (if_neg hlong))
          have x1 : bts (s.data.toList.take (k + D.size)) = s.extract 0 (k + D.size) := ext_list (by rw [toList_bts, toList_upto])
          have x2 : bts (s.data.toList.drop (k + z + 1)) = s.extract (k + z + 1) s.size := ext_list (by rw [toList_bts, toList_from])
          rw [x1, x2] at hF
          have HF := hide hF
          have HC1 := hide (fun W => lclone_any (s.extract 0 (k + D.size)) W (by rw [ByteArray.size_extract]; omega))
          have HC2 := hide (fun W => lclone_any (s.extract (k + z + 1) s.size) W (by rw [ByteArray.size_extract]; omega))
          clear I1 I2 I3 I4 HLT hlong hF x1 x2
          simp only [annV] at HA
          go_wp2_with fail
          refine (unhide HX _).mono ?_
          rintro e w1 ⟨rfl, h1⟩
          subst h1
          go_wp2_with fail
          refine (unhide HT _).mono ?_
          rintro e w1 ⟨rfl, h1⟩
          subst h1
          go_wp2_with fail
          refine (unhide HA _).mono ?_
          rintro e w1 ⟨rfl, h1⟩
          subst h1
          go_wp2
          have hwr : IntKind.i64.wrap ((k : Int) + (D.size : Int)) = (k : Int) + (D.size : Int) := by rw [IntKind.wrap_i64]; omega
          go_region_with (first | (go_at_call_of 23 (Value.string (s.extract 0 (k + D.size))); refine (unhide HC1 _).mono ?_; rintro e w3 ⟨rfl, b3⟩) | (go_at_call 23; refine (unhide HC2 _).mono ?_; rintro e w4 ⟨rfl, b4⟩))
          go_simp
          go_wp2
          simp only [Exit.jump]
          go_ret3
          exact ⟨by rw [unhide HF]; rfl, belows' (below_drew0 b3) b4⟩
        | some b =>
          have hb9 := unhide HLT b rfl
          simp only [annV] at HA
          by_cases hbm : 65536 < b
          · have hbm' : 65536 < (b : Int) := by omega
            have HF := hide (nxV_no (unhide I2 b rfl (Or.inr (Or.inl hbm))) (by omega))
            clear I1 I2 I3 I4 HLT hlong
            go_wp2_with fail
            refine (unhide HX _).mono ?_
            rintro e w1 ⟨rfl, h1⟩
            subst h1
            go_wp2_with fail
            refine (unhide HT _).mono ?_
            rintro e w1 ⟨rfl, h1⟩
            subst h1
            go_wp2_with fail
            refine (unhide HA _).mono ?_
            rintro e w1 ⟨rfl, h1⟩
            subst h1
            go_wp2
            simp only [Exit.jump]
            go_ret3
            exact ⟨by rw [unhide HF]; rfl, Below.refl _ _⟩
          · have hbm' : ¬ 65536 < (b : Int) := by omega
            by_cases h16 : 16 < m + 1
            · have h16' : 16 < (m : Int) + 1 := by omega
              have HF := hide (nxV_no (unhide I2 b rfl (Or.inr (Or.inr h16))) (by omega))
              clear I1 I2 I3 I4 HLT hlong
              go_wp2_with fail
              refine (unhide HX _).mono ?_
              rintro e w1 ⟨rfl, h1⟩
              subst h1
              go_wp2_with fail
              refine (unhide HT _).mono ?_
              rintro e w1 ⟨rfl, h1⟩
              subst h1
              go_wp2_with fail
              refine (unhide HA _).mono ?_
              rintro e w1 ⟨rfl, h1⟩
              subst h1
              go_wp2
              simp only [Exit.jump]
              go_ret3
              exact ⟨by rw [unhide HF]; rfl, Below.refl _ _⟩
            · have h16' : ¬ 16 < (m : Int) + 1 := by omega
              have hnb : ¬ (8192 < q + D.size ∨ 65536 < b ∨ 16 < m + 1) := by omega
              by_cases hsh : ml < b
              · have hsh' : (s.size : Int) - ((k : Int) + (z : Int) + 1) < (b : Int) := by omega
                have HF := hide (nxV_no (unhide I3 b rfl hnb hsh) (by omega))
                clear I1 I2 I3 I4 HLT hlong hnb hsh
                go_wp2_with fail
                refine (unhide HX _).mono ?_
                rintro e w1 ⟨rfl, h1⟩
                subst h1
                go_wp2_with fail
                refine (unhide HT _).mono ?_
                rintro e w1 ⟨rfl, h1⟩
                subst h1
                go_wp2_with fail
                refine (unhide HA _).mono ?_
                rintro e w1 ⟨rfl, h1⟩
                subst h1
                go_wp2
                simp only [Exit.jump]
                go_ret3
                exact ⟨by rw [unhide HF]; rfl, Below.refl _ _⟩
              · have hsh' : ¬ (s.size : Int) - ((k : Int) + (z : Int) + 1) < (b : Int) := by omega
                have HN := hide (unhide I4 b rfl hnb hsh)
                have hfin : k + z + 1 + b ≤ s.size := by omega
                clear I1 I2 I3 I4 HLT hlong hnb hsh
                go_wp2_with fail
                refine (unhide HX _).mono ?_
                rintro e w1 ⟨rfl, h1⟩
                subst h1
                go_wp2_with fail
                refine (unhide HT _).mono ?_
                rintro e w1 ⟨rfl, h1⟩
                subst h1
                go_wp2_with fail
                refine (unhide HA _).mono ?_
                rintro e w1 ⟨rfl, h1⟩
                subst h1
                go_wp2
                go_step3
                refine ⟨rfl, ⟨rfl, k + z + 1 + b, q + D.size, m + 1, _, _, _, _, _, _, _, _, _, _, _, _, _, _, _, _, _, _, _, _, _, _, _, _, _, _, _, _, _, _, _, _, _, _, _, _, _, _, _, _, _, _, _, _, _, _, _, _, _, _, _, _, _, _, _, _, _, _, _, _, _, _, _, _, _, _, _, _, _, _, _, _, _, rfl, hfin, by omega, by omega, HN⟩, ?_⟩
                simp [intOf]
                omega
end Go.Proofs.YtafegjbhaofgiaaDoor
